/-
  MARKS ON BLOCKS that a call returned: laid, and found again.
-/
import Derived.Test.YthfmkejdpflpcaaNa
import Derived.Test.YthfmkejdpflpcaaJu
import Derived.Test.YthfmkejdpflpcaaGbb
namespace Go.Proofs.Ythfmkejdpflpcaa
open Go.ChangeShapes Go.WideShapes Go.ChangeAt Go.RowKit
def markBk (j : Nat) : Value := if j % 18 < 2 then .int .i32 ((1 + j : Nat) : Int) else .int .u16 ((1 + j : Nat) : Int)
theorem PR.congr {s lo hi n : Nat} {w : World} {v : Value} {f f' : Nat → Value} (h : PR s lo hi w v n f) (e : ∀ j, j < n * s → f j = f' j) : PR s lo hi w v n f' := by
  obtain ⟨a, cap, rfl, h0 | ⟨g, rfl, h1, h2, h3, h4, h5⟩⟩ := h
  · exact ⟨a, cap, rfl, .inl h0⟩
  · exact ⟨_, cap, rfl, .inr ⟨g, rfl, h1, h2, h3, fun j hj => by rw [h4 j hj, e j hj], h5⟩⟩
theorem PR.ob {lo : Nat} {w : World} {v : Value} {F : MF} {K : List (Int × Int)} (h : OB lo v F K w) : PR 18 lo w.heap.size w v K.length (bcell (flB F K)) := (PR.of_own h).congr fun j hj => by
  unfold listF
  rw [flB_bcell F K j (by omega)]
  rfl
theorem PR.bl {lo hi n : Nat} {w : World} {v : Value} {φ : Nat → Int} (h : PR 18 lo hi w v n (bcell φ)) : ∃ a cap, v = .slice a n cap ∧ BlR w.heap.size w a n φ := by
  obtain ⟨a, cap, rfl, h0 | ⟨g, rfl, h1, h2, h3, h4, h5⟩⟩ := h
  · exact ⟨a, cap, rfl, .inl h0⟩
  · exact ⟨_, cap, rfl, .inr ⟨g, 0, rfl, Nat.lt_of_lt_of_le h2 h3, fun j hj => by rw [Nat.zero_add]; exact h4 j (by omega)⟩⟩
theorem eqB_any {lo hi lo' hi' n : Nat} {v v' : Value} {φ : Nat → Int} {w : World} (hn : n ≤ 1000000) (h : PR 18 lo hi w v n (bcell φ)) (h' : PR 18 lo' hi' w v' n (bcell φ)) :
    Calls Try.prog 18 #[v, v'] w fun e w' => e = .returned (.bool true) ∧ Below w.heap.size w w' := by
  obtain ⟨a, c, rfl, hb⟩ := h.bl
  obtain ⟨a', c', rfl, hb'⟩ := h'.bl
  exact eqBS_any a a' n c c' φ w.heap.size w (Nat.le_refl _) (by omega) hb hb'
def MkB (g N k : Nat) (w : World) : Prop := (∀ j, j < k → w.cell? ⟨g, j, none⟩ = some (markBk j)) ∧ WrB g N w
theorem MkB.put {g N k : Nat} {w : World} (h : MkB g N k w) (hk : k < N) : MkB g N (k + 1) (w.setCell ⟨g, k, none⟩ (markBk k)) := by
  refine ⟨fun j hj => ?_, h.2.put _ _⟩
  by_cases e : j = k
  · subst e
    obtain ⟨⟨x, hx⟩, -⟩ := h.2 j hk
    rw [cell_set hx, if_pos rfl]
  · obtain ⟨⟨x, hx⟩, -⟩ := h.2 j (by omega)
    rw [cell_set (h.1 j (by omega)), if_neg (fun h => e h.symm)]
theorem mk32 (k j : Nat) (hj : j < 2) : markBk (18 * k + j) = .int .i32 ((1 + (18 * k + j) : Nat) : Int) := if_pos (by omega)
theorem mk16 (k j : Nat) (hj : j < 16) : markBk (18 * k + 2 + j) = .int .u16 ((1 + (18 * k + 2 + j) : Nat) : Int) := if_neg (by omega)
set_option maxRecDepth 20000 in
set_option maxHeartbeats 4000000 in
theorem markBX_any (g cap n : Nat) (hn : n ≤ 64) (w : World) (ho : WrB g (18 * n) w) :
    Calls Try.prog 21 #[.slice (some ⟨g, 0, none⟩) n cap, .int .i64 1] w fun e w' => e = .returned (.int .i64 ((1 + 18 * n : Nat) : Int)) ∧ MkB g (18 * n) (18 * n) w' ∧ Onl g w w' := by
  have HO : Hid (MkB g (18 * n) 0 w) := Lib.hid ⟨fun j hj => absurd hj (by omega), ho⟩
  have HO2 : Hid (Onl g w w) := Lib.hid (Onl.refl _ _)
  have hn' : (n : Int) ≤ 64 := by omega
  have HN := Lib.hid hn
  clear ho
  go_enter Try.func21, Try.ntmps21
  go_wp2
  go_loopw [1, 5] (fun q i wr => ∃ k : Nat, k ≤ n ∧ i = .int .i64 k ∧ q = .int .i64 ((1 + 18 * k : Nat) : Int) ∧ Hid (MkB g (18 * n) (18 * k) wr) ∧ Hid (Onl g w wr)) (fun _ i _ => n - (intOf i).toNat)
  case atStart => exact ⟨0, Nat.zero_le _, rfl, rfl, HO, HO2⟩
  case round =>
    obtain ⟨k, hk, rfl, rfl, HM, HB⟩ := hrel
    clear HO HO2
    by_cases hlt : k < n
    · have hlt' : (k : Int) < n := by omega
      go_wp2
      go_loopw [1, 6] (fun q i wr' => ∃ j : Nat, j ≤ 2 ∧ i = .int .i64 j ∧ q = .int .i64 ((1 + (18 * k + j) : Nat) : Int) ∧ Hid (MkB g (18 * n) (18 * k + j) wr') ∧ Hid (Onl g w wr')) (fun _ i _ => 2 - (intOf i).toNat)
      case atStart => exact ⟨0, Nat.zero_le _, rfl, rfl, HM, HB⟩
      case round =>
        obtain ⟨j, hj, rfl, rfl, HM2, HB2⟩ := hrel
        clear HM HB
        by_cases hj2 : j < 2
        · have hj3 : (j : Int) < 2 := by omega
          obtain ⟨⟨x, hx⟩, hf⟩ := HM2.out.2 (18 * k + j) (by omega)
          have e : 18 * k + j = k * 18 + j := by omega
          have HP : Hid (∀ z : Int, z = ((1 + (18 * k + j) : Nat) : Int) → MkB g (18 * n) (18 * k + (j + 1)) (wr.setCell ⟨g, k * 18 + j, none⟩ (.int .i32 z))) := Lib.hid fun z hz => by
            have h := HM2.out.put (show 18 * k + j < 18 * n by omega)
            rw [mk32 k j hj2, ← hz] at h
            rw [← e]
            exact h
          have HQ : Hid (∀ v, Onl g w (wr.setCell ⟨g, k * 18 + j, none⟩ v)) := Lib.hid fun v => HB2.out.put
          rw [e] at hx hf
          clear e
          go_wp2
          go_roundw
          case rel => exact ⟨j + 1, by omega, by go_num, by go_num, Lib.hid (HP.out _ (by omega)), Lib.hid (HQ.out _)⟩
          case measure => simp [intOf]; omega
        · obtain rfl : j = 2 := by omega
          clear hj hj2
          go_wp2
          go_loopw [1, 7] (fun q i wr' => ∃ j : Nat, j ≤ 16 ∧ i = .int .i64 j ∧ q = .int .i64 ((1 + (18 * k + 2 + j) : Nat) : Int) ∧ Hid (MkB g (18 * n) (18 * k + 2 + j) wr') ∧ Hid (Onl g w wr')) (fun _ i _ => 16 - (intOf i).toNat)
          case atStart => exact ⟨0, Nat.zero_le _, rfl, by go_num, HM2, HB2⟩
          case round =>
            obtain ⟨j, hj, rfl, rfl, HM3, HB3⟩ := hrel
            clear HM2 HB2
            by_cases hj2 : j < 16
            · have hj3 : (j : Int) < 16 := by omega
              obtain ⟨⟨x, hx⟩, hf⟩ := HM3.out.2 (18 * k + 2 + j) (by omega)
              have e : 18 * k + 2 + j = k * 18 + 2 + j := by omega
              have HP : Hid (∀ z : Int, z = ((1 + (18 * k + 2 + j) : Nat) : Int) → MkB g (18 * n) (18 * k + 2 + (j + 1)) (wr.setCell ⟨g, k * 18 + 2 + j, none⟩ (.int .u16 z))) := Lib.hid fun z hz => by
                have h := HM3.out.put (show 18 * k + 2 + j < 18 * n by omega)
                rw [mk16 k j hj2, ← hz] at h
                rw [← e]
                exact h
              have HQ : Hid (∀ v, Onl g w (wr.setCell ⟨g, k * 18 + 2 + j, none⟩ v)) := Lib.hid fun v => HB3.out.put
              rw [e] at hx hf
              clear e
              go_wp2
              go_roundw
              case rel => exact ⟨j + 1, by omega, by go_num, by go_num, Lib.hid (HP.out _ (by omega)), Lib.hid (HQ.out _)⟩
              case measure => simp [intOf]; omega
            · obtain rfl : j = 16 := by omega
              clear hj hj2
              go_wp2
              go_roundw
              case rel => exact ⟨k + 1, by omega, by go_num, by go_num, HM3, HB3⟩
              case measure => simp [intOf]; omega
    · obtain rfl : k = n := by omega
      go_wp2
      go_ret
      exact ⟨by rfl, HM.out, HB.out⟩
set_option maxRecDepth 20000 in
set_option maxHeartbeats 4000000 in
theorem heldBX_any (g cap n : Nat) (hn : n ≤ 64) (w : World) (ho : ∀ j, j < 18 * n → w.cell? ⟨g, j, none⟩ = some (markBk j)) :
    Calls Try.prog 22 #[.slice (some ⟨g, 0, none⟩) n cap, .int .i64 1] w fun e w' => e = .returned (.int .i64 ((1 + 18 * n : Nat) : Int)) ∧ w' = w := by
  have HO := Lib.hid ho
  have hn' : (n : Int) ≤ 64 := by omega
  clear ho
  go_enter Try.func22, Try.ntmps22
  go_wp2
  go_loopw [1, 5] (fun q i wr => ∃ k : Nat, k ≤ n ∧ i = .int .i64 k ∧ q = .int .i64 ((1 + 18 * k : Nat) : Int) ∧ wr = w) (fun _ i _ => n - (intOf i).toNat)
  case atStart => exact ⟨0, Nat.zero_le _, rfl, rfl, rfl⟩
  case round =>
    obtain ⟨k, hk, rfl, rfl, e⟩ := hrel
    have HE := Lib.hid e
    clear e
    by_cases hlt : k < n
    · have hlt' : (k : Int) < n := by omega
      go_wp2
      go_loopw [1, 6] (fun q i wr' => ∃ j : Nat, j ≤ 2 ∧ i = .int .i64 j ∧ q = .int .i64 ((1 + (18 * k + j) : Nat) : Int) ∧ wr' = w) (fun _ i _ => 2 - (intOf i).toNat)
      case atStart => exact ⟨0, Nat.zero_le _, rfl, rfl, HE.out⟩
      case round =>
        clear HE
        obtain ⟨j, hj, rfl, rfl, e⟩ := hrel
        have HE := Lib.hid e
        clear e
        by_cases hj2 : j < 2
        · have hx : wr.cell? ⟨g, k * 18 + j, none⟩ = some (.int .i32 (1 + (18 * (k : Int) + (j : Int)))) := by
            rw [HE.out, show k * 18 + j = 18 * k + j from by omega, show (1 + (18 * (k : Int) + (j : Int))) = ((1 + (18 * k + j) : Nat) : Int) from by omega, HO.out _ (by omega), mk32 k j hj2]
          go_wp2
          go_roundw
          case rel => exact ⟨j + 1, by omega, by go_num, by go_num, HE.out⟩
          case measure => simp [intOf]; omega
        · obtain rfl : j = 2 := by omega
          clear hj hj2
          go_wp2
          go_loopw [1, 7] (fun q i wr' => ∃ j : Nat, j ≤ 16 ∧ i = .int .i64 j ∧ q = .int .i64 ((1 + (18 * k + 2 + j) : Nat) : Int) ∧ wr' = w) (fun _ i _ => 16 - (intOf i).toNat)
          case atStart => exact ⟨0, Nat.zero_le _, rfl, by go_num, HE.out⟩
          case round =>
            clear HE
            obtain ⟨j, hj, rfl, rfl, e⟩ := hrel
            have HE := Lib.hid e
            clear e
            by_cases hj2 : j < 16
            · have hx : wr.cell? ⟨g, k * 18 + 2 + j, none⟩ = some (.int .u16 (1 + (18 * (k : Int) + 2 + (j : Int)))) := by
                rw [HE.out, show k * 18 + 2 + j = 18 * k + 2 + j from by omega, show (1 + (18 * (k : Int) + 2 + (j : Int))) = ((1 + (18 * k + 2 + j) : Nat) : Int) from by omega, HO.out _ (by omega), mk16 k j hj2]
              go_wp2
              go_roundw
              case rel => exact ⟨j + 1, by omega, by go_num, by go_num, HE.out⟩
              case measure => simp [intOf]; omega
            · obtain rfl : j = 16 := by omega
              clear hj hj2
              go_wp2
              go_roundw
              case rel => exact ⟨k + 1, by omega, by go_num, by go_num, HE.out⟩
              case measure => simp [intOf]; omega
    · obtain rfl : k = n := by omega
      go_wp2
      go_ret
      exact ⟨by rfl, HE.out⟩
theorem markBNone_any (x : Option Addr) (c : Nat) (w : World) :
    Calls Try.prog 21 #[.slice x 0 c, .int .i64 1] w fun e w' => e = .returned (.int .i64 1) ∧ w = w' := by
  go_enter Try.func21, Try.ntmps21
  go_wp2
  refine wp_loop_rounds 1 ?_
  rw [rounds_succ]
  go_wp2
  go_ret
  exact ⟨rfl, rfl⟩
theorem heldBNone_any (x : Option Addr) (c : Nat) (w : World) :
    Calls Try.prog 22 #[.slice x 0 c, .int .i64 1] w fun e w' => e = .returned (.int .i64 1) ∧ w = w' := by
  go_enter Try.func22, Try.ntmps22
  go_wp2
  refine wp_loop_rounds 1 ?_
  rw [rounds_succ]
  go_wp2
  go_ret
  exact ⟨rfl, rfl⟩
theorem markB_any {lo hi n : Nat} {v : Value} {φ : Nat → Int} {w : World} (hn : n ≤ 64) (h : PR 18 lo hi w v n (bcell φ)) (hlo : lo ≤ w.heap.size) :
    Calls Try.prog 21 #[v, .int .i64 1] w fun e w' => e = .returned (.int .i64 ((1 + 18 * n : Nat) : Int)) ∧ PR 18 lo hi w' v n markBk ∧ Below lo w w' := by
  obtain ⟨a, c, rfl, h0⟩ := h
  rcases h0 with rfl | ⟨g, rfl, h1, h2, h3, h4, h5⟩
  · exact (markBNone_any a c w).mono fun e w' h => ⟨h.1, ⟨a, c, rfl, .inl rfl⟩, by rw [← h.2]; exact Below.refl _ _⟩
  · refine (markBX_any g c n hn w fun j hj => ⟨⟨_, h4 j (by omega)⟩, h5 j (by omega)⟩).mono ?_
    rintro e w' ⟨he, hm, ho⟩
    exact ⟨he, ⟨_, c, rfl, .inr ⟨g, rfl, h1, h2, by rw [ho.2.2.2.1]; exact h3, fun j hj => hm.1 j (by omega), fun j hj => (hm.2 j (by omega)).2⟩⟩, ho.below h1⟩
theorem heldB_any {lo hi n : Nat} {v : Value} {w : World} (hn : n ≤ 64) (h : PR 18 lo hi w v n markBk) :
    Calls Try.prog 22 #[v, .int .i64 1] w fun e w' => e = .returned (.int .i64 ((1 + 18 * n : Nat) : Int)) ∧ Below w.heap.size w w' := by
  obtain ⟨a, c, rfl, h0⟩ := h
  rcases h0 with rfl | ⟨g, rfl, h1, h2, h3, h4, h5⟩
  · exact (heldBNone_any a c w).mono fun e w' h => ⟨h.1, by rw [← h.2]; exact Below.refl _ _⟩
  · refine (heldBX_any g c n hn w fun j hj => h4 j (by omega)).mono ?_
    rintro e w' ⟨he, rfl⟩
    exact ⟨he, Below.refl _ _⟩
end Go.Proofs.Ythfmkejdpflpcaa
