/-
  THE LAWS OF TWO PICTURES: what their walks share.
-/
import Derived.Test.YthfmkejdpflpcaaNv
import Derived.Test.YthfmkejdpflpcaaNp
import Derived.Test.YthfmkejdpflpcaaNq
import Derived.Test.YthfmkejdpflpcaaJw
import Derived.Test.YthfmkejdpflpcaaGbb
namespace Go.Proofs.Ythfmkejdpflpcaa
open Go.ChangeShapes Go.WideShapes Go.ChangeAt Go.RowKit
theorem BlR.mono' {B B' : Nat} {w : World} {a : Option Addr} {n : Nat} {f : Nat → Int} (h : BlR B w a n f) (hB : B ≤ B') : BlR B' w a n f := by
  rcases h with h | ⟨g, off, ha, hg, hc⟩
  · exact .inl h
  · exact .inr ⟨g, off, ha, by omega, hc⟩
theorem szB_any (a : Option Addr) (n cap left : Nat) (hl : left ≤ 1048576) (hn : n ≤ maxLen) (w : World) :
    Calls Try.prog 23 #[.slice a n cap, .int .i64 (left : Int)] w fun e w' => e = .returned (.int .i64 (if left < n then (-1 : Int) else ((left - n : Nat) : Int))) ∧ w = w' := by
  have hm : maxLen = 4611686018427387904 ∨ True := .inr trivial
  unfold maxLen at hn
  by_cases h : left < n
  · rw [if_pos h]
    have h1 : ((left : Int) - (n : Int) < 0) := by omega
    go_enter Try.func23, Try.ntmps23
    go_wp2
    go_ret
    exact ⟨rfl, rfl⟩
  · rw [if_neg h]
    have h1 : (0 : Int) ≤ (left : Int) - (n : Int) := by omega
    have h2 : ((left - n : Nat) : Int) = (left : Int) - (n : Int) := by omega
    rw [h2]
    go_enter Try.func23, Try.ntmps23
    go_wp2
    go_ret
    exact ⟨rfl, rfl⟩
set_option maxRecDepth 20000 in
set_option maxHeartbeats 4000000 in
theorem markBT_any (g cap n s : Nat) (hn : n ≤ 1048576) (hs : s ≤ 20000000) (w : World) (ho : WrB g (18 * n) w) :
    Calls Try.prog 21 #[.slice (some ⟨g, 0, none⟩) n cap, .int .i64 (s : Int)] w fun e w' => e = .returned (.int .i64 ((s + 18 * n : Nat) : Int)) ∧ Onl g w w' := by
  have HO := Lib.hid ho
  have HO2 : Hid (Onl g w w) := Lib.hid (Onl.refl _ _)
  have hn' : (n : Int) ≤ 1048576 := by omega
  have hs' : (s : Int) ≤ 20000000 := by omega
  clear ho
  go_enter Try.func21, Try.ntmps21
  go_wp2
  go_loopw [1, 5] (fun q i wr => ∃ k : Nat, k ≤ n ∧ i = .int .i64 k ∧ q = .int .i64 ((s + 18 * k : Nat) : Int) ∧ Hid (WrB g (18 * n) wr) ∧ Hid (Onl g w wr)) (fun _ i _ => n - (intOf i).toNat)
  case atStart => exact ⟨0, Nat.zero_le _, rfl, rfl, HO, HO2⟩
  case round =>
    obtain ⟨k, hk, rfl, rfl, HM, HB⟩ := hrel
    clear HO HO2
    by_cases hlt : k < n
    · have hlt' : (k : Int) < n := by omega
      go_wp2
      go_loopw [1, 6] (fun q i wr' => ∃ j : Nat, j ≤ 2 ∧ i = .int .i64 j ∧ q = .int .i64 ((s + (18 * k + j) : Nat) : Int) ∧ Hid (WrB g (18 * n) wr') ∧ Hid (Onl g w wr')) (fun _ i _ => 2 - (intOf i).toNat)
      case atStart => exact ⟨0, Nat.zero_le _, rfl, rfl, HM, HB⟩
      case round =>
        obtain ⟨j, hj, rfl, rfl, HM2, HB2⟩ := hrel
        clear HM HB
        by_cases hj2 : j < 2
        · have hj3 : (j : Int) < 2 := by omega
          obtain ⟨⟨x, hx⟩, hf⟩ := HM2.out (18 * k + j) (by omega)
          have e : 18 * k + j = k * 18 + j := by omega
          rw [e] at hx hf
          have HP : Hid (∀ v, WrB g (18 * n) (wr.setCell ⟨g, k * 18 + j, none⟩ v)) := Lib.hid fun v => HM2.out.put _ v
          have HQ : Hid (∀ v, Onl g w (wr.setCell ⟨g, k * 18 + j, none⟩ v)) := Lib.hid fun v => HB2.out.put
          clear e
          go_wp2
          go_roundw
          case rel => exact ⟨j + 1, by omega, by go_num, by go_num, Lib.hid (HP.out _), Lib.hid (HQ.out _)⟩
          case measure => simp [intOf]; omega
        · obtain rfl : j = 2 := by omega
          clear hj hj2
          go_wp2
          go_loopw [1, 7] (fun q i wr' => ∃ j : Nat, j ≤ 16 ∧ i = .int .i64 j ∧ q = .int .i64 ((s + (18 * k + 2 + j) : Nat) : Int) ∧ Hid (WrB g (18 * n) wr') ∧ Hid (Onl g w wr')) (fun _ i _ => 16 - (intOf i).toNat)
          case atStart => exact ⟨0, Nat.zero_le _, rfl, by go_num, HM2, HB2⟩
          case round =>
            obtain ⟨j, hj, rfl, rfl, HM3, HB3⟩ := hrel
            clear HM2 HB2
            by_cases hj2 : j < 16
            · have hj3 : (j : Int) < 16 := by omega
              obtain ⟨⟨x, hx⟩, hf⟩ := HM3.out (18 * k + 2 + j) (by omega)
              have e : 18 * k + 2 + j = k * 18 + 2 + j := by omega
              rw [e] at hx hf
              have HP : Hid (∀ v, WrB g (18 * n) (wr.setCell ⟨g, k * 18 + 2 + j, none⟩ v)) := Lib.hid fun v => HM3.out.put _ v
              have HQ : Hid (∀ v, Onl g w (wr.setCell ⟨g, k * 18 + 2 + j, none⟩ v)) := Lib.hid fun v => HB3.out.put
              clear e
              go_wp2
              go_roundw
              case rel => exact ⟨j + 1, by omega, by go_num, by go_num, Lib.hid (HP.out _), Lib.hid (HQ.out _)⟩
              case measure => simp [intOf]; omega
            · obtain rfl : j = 16 := by omega
              clear hj hj2
              go_wp2
              go_roundw
              case rel => exact ⟨k + 1, by omega, by go_num, by go_num, HM3, HB3⟩
              case measure => simp [intOf]; omega
    · obtain rfl : k = n := by omega
      go_wp2
      go_ret
      exact ⟨by rfl, HB.out⟩
theorem PR.keep {s lo hi : Nat} {w w' : World} {v : Value} {n : Nat} {f : Nat → Value} (h : PR s lo hi w v n f) (hs : w.heap.size ≤ w'.heap.size) (hk : ∀ k, lo ≤ k → w'.heap[k]? = w.heap[k]?) : PR s lo hi w' v n f := by
  obtain ⟨a, cap, rfl, h0 | ⟨g, rfl, h1, h2, h3, h4, h5⟩⟩ := h
  · exact ⟨a, cap, rfl, .inl h0⟩
  · refine ⟨_, cap, rfl, .inr ⟨g, rfl, h1, h2, Nat.le_trans h3 hs, fun j hj => ?_, fun j hj => ?_⟩⟩
    · rw [World.cell?_of_block (hk g h1)]; exact h4 j hj
    · rw [World.frozen?_of_block (hk g h1)]; exact h5 j hj
theorem WrB.below {g N B : Nat} {w w' : World} (h : WrB g N w) (hb : Below B w w') (hg : g < B) : WrB g N w' := fun j hj => by
  obtain ⟨⟨x, hx⟩, hf⟩ := h j hj
  exact ⟨⟨x, (hb.cell (p := ⟨g, j, none⟩) hg).trans hx⟩, (hb.frozen (p := ⟨g, j, none⟩) hg).trans hf⟩
theorem WrB.keepB {g N : Nat} {w w' : World} (h : WrB g N w) (hk : w'.heap[g]? = w.heap[g]?) : WrB g N w' := fun j hj => by
  obtain ⟨⟨x, hx⟩, hf⟩ := h j hj
  exact ⟨⟨x, (World.cell?_of_block hk).trans hx⟩, (World.frozen?_of_block hk).trans hf⟩
theorem bbK_len (f : Nat → Int) (n : Nat) (g : Nat → Int) (m : Nat) (K : List (Int × Int)) : (bbK f n g m K).length ≤ 64 := by
  unfold bbK ioK
  split
  · split
    · assumption
    · decide
  · decide
end Go.Proofs.Ythfmkejdpflpcaa
