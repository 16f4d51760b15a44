/-
  SLICES OF BYTES, as the laws look at them: one that came in, opened; copied, compared, marked, held.
-/
import Derived.Test.YtkijgadkgfapgaaGc
import Derived.Test.YtkijgadkgfapgaaFw
namespace Go.Proofs.Ytkijgadkgfapgaa
open Go.ChangeShapes Go.WideShapes Go.ChangeAt Go.RowKit Go.Deep
/-- a slice of bytes below B -/
def YrR (B : Nat) (w : World) (a : Option Addr) (n : Nat) (f : Nat → Int) : Prop := n = 0 ∨ ∃ g off, a = some ⟨g, off, none⟩ ∧ g < B ∧ ∀ j, j < n → w.cell? ⟨g, off + j, none⟩ = some (.int .u8 (f j))
theorem YrR.below {B B' : Nat} {w w' : World} {a : Option Addr} {n : Nat} {f : Nat → Int} (h : YrR B w a n f) (hb : Below B w w') (hB : B ≤ B') : YrR B' w' a n f := by
  rcases h with h | ⟨g, off, ha, hg, hc⟩
  · exact .inl h
  · exact .inr ⟨g, off, ha, by omega, fun j hj => (hb.cell (p := ⟨g, off + j, none⟩) hg).trans (hc j hj)⟩
theorem YrR.mono' {B B' : Nat} {w : World} {a : Option Addr} {n : Nat} {f : Nat → Int} (h : YrR B w a n f) (hB : B ≤ B') : YrR B' w a n f := by
  rcases h with h | ⟨g, off, ha, hg, hc⟩
  · exact .inl h
  · exact .inr ⟨g, off, ha, by omega, hc⟩
theorem YrR.congr {B n : Nat} {w : World} {a : Option Addr} {f g : Nat → Int} (h : YrR B w a n f) (e : ∀ j, j < n → f j = g j) : YrR B w a n g := by
  rcases h with h | ⟨b, off, ha, hg, hc⟩
  · exact .inl h
  · exact .inr ⟨b, off, ha, hg, fun j hj => by rw [← e j hj]; exact hc j hj⟩
theorem YrR.onl {lo hi B n : Nat} {w w' : World} {a : Option Addr} {f : Nat → Int} (h : OnlIn lo hi w w') (hd : B ≤ lo) (hp : YrR B w a n f) : YrR B w' a n f := hp.below (h.below hd) (Nat.le_refl _)
theorem PR.yr {lo hi : Nat} {w : World} {v : Value} {n : Nat} {f : Nat → Int} (h : PR 1 lo hi w v n (FF f)) : ∃ a cap, v = .slice a n cap ∧ YrR w.heap.size w a n f := by
  obtain ⟨a, cap, rfl, h0 | ⟨g, rfl, h1, h2, h3, h4, h5⟩⟩ := h
  · exact ⟨a, cap, rfl, .inl h0⟩
  · exact ⟨_, cap, rfl, .inr ⟨g, 0, rfl, by omega, fun j hj => by rw [Nat.zero_add]; exact h4 j (by omega)⟩⟩
theorem yrow_of {H : Type} {enc : TypeId × Value → H} {W : World} {a : Option Addr} {len cap : Nat} {d : DataW H} {ps : List MemPlace} {spare : Nat → Bool} {base : Nat} {held : Bool}
    (h : DataW.Trod enc Try.prog W base spare held 45 (.slice a len cap) d ps) : ∃ f, ByF len f ∧ YrR W.heap.size W a len f ∧ len ≤ maxLen := by
  obtain ⟨fuel, hf⟩ := h
  rcases open_slice1 Try.underlying45 (by kernel_rfl) hf with ⟨hcs, _⟩ | ⟨x, l, c, m, n, V, D, Pl, hcs, _, hl, hcm, hm, _, hcell⟩
  · simp [Value.cells] at hcs
    obtain ⟨rfl, rfl, rfl⟩ := hcs
    exact ⟨fun _ => 0, fun j hj => by omega, .inl rfl, Nat.zero_le _⟩
  · simp [Value.cells] at hcs
    obtain ⟨rfl, rfl, rfl⟩ := hcs
    have hlm : len ≤ m := by rw [hm]; split <;> omega
    by_cases h0 : len = 0
    · exact ⟨fun _ => 0, fun j hj => by omega, .inl h0, by omega⟩
    · have hc0 := (hcell 0 (by omega)).1
      obtain ⟨b, off, spot⟩ := x
      have hspot : spot = none := by simpa [Addr.add] using World.cell?_spot hc0
      subst hspot
      have key : ∀ i, i < len → ∃ c : Int, (0 ≤ c ∧ c ≤ 255) ∧ W.cell? ⟨b, off + i, none⟩ = some (.int .u8 c) := fun i hi => by
        obtain ⟨c, c0, e⟩ := trodf_u8 (hcell i (by omega)).2
        refine ⟨c, c0, ?_⟩
        rw [← e, ← Go.WideShapes.add_plain]
        exact (hcell i (by omega)).1
      have hb : b < W.heap.size := by
        obtain ⟨z, _, hc1⟩ := key 0 (by omega)
        unfold World.cell? at hc1
        split at hc1
        · rename_i hb; exact (Array.getElem?_eq_some_iff.1 hb).1
        · cases hc1
      refine ⟨fun j => if hj : j < len then Classical.choose (key j hj) else 0, fun j hj => ?_, .inr ⟨b, off, rfl, hb, fun j hj => ?_⟩, by omega⟩
      · simp only [dif_pos hj]
        exact (Classical.choose_spec (key j hj)).1
      · simp only [dif_pos hj]
        exact (Classical.choose_spec (key j hj)).2
theorem madeU (n : Nat) : madeCells #[.int .u8 0] n = arr .u8 n zI := by
  apply Array.ext_getElem?
  intro i
  by_cases hi : i < n
  · rw [arr_get _ _ _ _ hi]
    simp [madeCells, hi, Nat.mod_one, zI]
  · rw [Array.getElem?_eq_none (by simp [madeCells]; omega), arr_none _ _ _ _ (by omega)]
theorem make_u8' (n : Nat) (h : n ≤ 1048576) (w : World) : (Instr.makeSlice 45 (.int .i64 (n : Int)) (.int .i64 (n : Int))).run Try.prog w = .ok (.slice (some ⟨w.heap.size, 0, none⟩) n n) (w.alloc (.cells (arr .u8 n zI) 5)) := by
  obtain ⟨i, hi, hz, hs, hb⟩ := info_parts info_u8'
  have hr := run_make (P := Try.prog) w 45 5 i _ Try.underlying45 hi hz .i64 .i64 n n (by omega) (Int.le_refl _) (by rw [hb]; omega) (by omega)
  simp only [Int.toNat_natCast, hs, Nat.mul_one] at hr
  rw [← madeU]
  exact hr
set_option maxHeartbeats 2000000 in
theorem eqYS2_any (a1 a2 : Option Addr) (n c1 c2 : Nat) (f : Nat → Int) (B : Nat) (w : World) (hB : B ≤ w.heap.size) (hn : n ≤ 1048576) (h1 : YrR B w a1 n f) (h2 : YrR B w a2 n f) :
    Calls Try.prog 28 #[.slice a1 n c1, .slice a2 n c2] w fun e w' => e = .returned (.bool true) ∧ Below w.heap.size w w' := by
  have HX := Lib.hid h1
  have HY := Lib.hid h2
  clear h1 h2
  have hn' : (n : Int) ≤ 1048576 := by omega
  go_enter Try.func28, Try.ntmps28
  go_wp2
  go_loopw [5] (fun i wr => ∃ k m : Nat, k ≤ n ∧ i = .int .i64 k ∧ wr = w.drewN m) (fun i _ => n - (intOf i).toNat)
  case atStart => exact ⟨0, 0, Nat.zero_le _, rfl, rfl⟩
  case round =>
    obtain ⟨k, m, hk, rfl, hw⟩ := hrel
    by_cases hlt : k < n
    · obtain ⟨g1, o1, rfl, -, hc1⟩ : ∃ g off, a1 = some ⟨g, off, none⟩ ∧ g < B ∧ ∀ j, j < n → w.cell? ⟨g, off + j, none⟩ = some (.int .u8 (f j)) := by
        rcases HX.out with h | h
        · omega
        · exact h
      obtain ⟨g2, o2, rfl, -, hc2⟩ : ∃ g off, a2 = some ⟨g, off, none⟩ ∧ g < B ∧ ∀ j, j < n → w.cell? ⟨g, off + j, none⟩ = some (.int .u8 (f j)) := by
        rcases HY.out with h | h
        · omega
        · exact h
      have tl : (k : Int) < n := by omega
      have cx : wr.cell? ⟨g1, o1 + k, none⟩ = some (.int .u8 (f k)) := by rw [hw]; exact hc1 k hlt
      have cy : wr.cell? ⟨g2, o2 + k, none⟩ = some (.int .u8 (f k)) := by rw [hw]; exact hc2 k hlt
      have HW := Lib.hid hw
      clear hw hc1 hc2
      generalize f k = z at cx cy
      go_wp2
      go_quiet (fail)
      go_wp2
      go_roundw
      case rel => exact ⟨k + 1, _, by omega, by go_num, by rw [HW.out, World.drewN_drewN]⟩
      case measure => simp [intOf]; omega
    · obtain rfl : k = n := by omega
      have B : Hid (Below w.heap.size w wr) := Lib.hid (by rw [hw]; exact fdrewN (Below.refl _ _) _)
      clear hw
      go_wp2
      go_ret
      exact ⟨rfl, B.out⟩
theorem eqY2_any {lo hi lo' hi' n : Nat} {v v' : Value} {f g : Nat → Int} {w : World} (hf : ∀ j, j < n → f j = g j) (hn : n ≤ 1048576) (h : PR 1 lo hi w v n (FF f)) (h' : PR 1 lo' hi' w v' n (FF g)) :
    Calls Try.prog 28 #[v, v'] w fun e w' => e = .returned (.bool true) ∧ Below w.heap.size w w' := by
  obtain ⟨a, c, rfl, h0⟩ := h.yr
  obtain ⟨a', c', rfl, h0'⟩ := h'.yr
  exact eqYS2_any a a' n c c' g w.heap.size w (Nat.le_refl _) hn (h0.congr hf) h0'
set_option maxHeartbeats 2000000 in
theorem markYS2_any (g cap n : Nat) (hn : n ≤ 1048576) (w : World) (ho : FMk g n 0 w) :
    Calls Try.prog 31 #[.slice (some ⟨g, 0, none⟩) n cap, .int .i64 1] w fun e w' => e = .returned (.int .i64 ((1 + n : Nat) : Int)) ∧ FMk g n n w' ∧ FOnl g w w' := by
  have HO := Lib.hid ho
  have hn' : (n : Int) ≤ 1048576 := by omega
  clear ho
  go_enter Try.func31, Try.ntmps31
  go_wp2
  go_loopw [1, 5] (fun q i wr => ∃ k : Nat, k ≤ n ∧ i = .int .i64 k ∧ q = .int .i64 ((1 + k : Nat) : Int) ∧ FMk g n k wr ∧ FOnl g w wr) (fun _ i _ => n - (intOf i).toNat)
  case atStart => exact ⟨0, Nat.zero_le _, rfl, rfl, HO.out, FOnl.refl _ _⟩
  case round =>
    obtain ⟨k, hk, rfl, rfl, hm, hb⟩ := hrel
    have HM := Lib.hid hm
    have HB := Lib.hid hb
    clear hm hb
    by_cases hlt : k < n
    · have hlt' : (k : Int) < n := by omega
      obtain ⟨x, hx⟩ := (HM.out.2 k hlt).1
      have hf := (HM.out.2 k hlt).2
      have HP : Hid (FMk g n (k + 1) (wr.setCell ⟨g, k, none⟩ (.int .u8 ((1 + (k : Int)) % 256)))) := Lib.hid (by
        have h := HM.out.put hlt
        rw [show (Value.int .u8 ((1 + (k : Int)) % 256)) = markU k from by unfold markU; push_cast; rfl]
        exact h)
      go_wp2
      go_roundw
      case rel => exact ⟨k + 1, by omega, by go_num, by go_num, HP.out, HB.out.put⟩
      case measure => simp [intOf]; omega
    · obtain rfl : k = n := by omega
      go_wp2
      go_ret
      exact ⟨by simp, HM.out, HB.out⟩
set_option maxHeartbeats 2000000 in
theorem heldYS2_any (g cap n : Nat) (hn : n ≤ 1048576) (w : World) (ho : ∀ j, j < n → w.cell? ⟨g, j, none⟩ = some (markU j)) :
    Calls Try.prog 32 #[.slice (some ⟨g, 0, none⟩) n cap, .int .i64 1] w fun e w' => e = .returned (.int .i64 ((1 + n : Nat) : Int)) ∧ w = w' := by
  have HO := Lib.hid ho
  have hn' : (n : Int) ≤ 1048576 := by omega
  clear ho
  go_enter Try.func32, Try.ntmps32
  go_wp2
  go_loop [1, 5] (fun q i => ∃ k : Nat, k ≤ n ∧ i = .int .i64 k ∧ q = .int .i64 ((1 + k : Nat) : Int)) (fun _ i => n - (intOf i).toNat)
  case atStart => exact ⟨0, Nat.zero_le _, rfl, rfl⟩
  case round =>
    obtain ⟨k, hk, rfl, rfl⟩ := hrel
    by_cases hlt : k < n
    · have hlt' : (k : Int) < n := by omega
      have hx : w.cell? ⟨g, k, none⟩ = some (.int .u8 ((1 + (k : Int)) % 256)) := by
        rw [HO.out k hlt]; unfold markU; push_cast; rfl
      go_wp2
      go_round
      case rel => exact ⟨k + 1, by omega, by go_num, by go_num⟩
      case measure => simp [intOf]; omega
    · obtain rfl : k = n := by omega
      go_wp2
      go_ret
      exact ⟨by simp, rfl⟩
theorem markYNone2_any (x : Option Addr) (c : Nat) (w : World) :
    Calls Try.prog 31 #[.slice x 0 c, .int .i64 1] w fun e w' => e = .returned (.int .i64 1) ∧ w = w' := by
  go_enter Try.func31, Try.ntmps31
  go_wp2
  refine wp_loop_rounds 1 ?_
  rw [rounds_succ]
  go_wp2
  go_ret
  exact ⟨rfl, rfl⟩
theorem heldYNone2_any (x : Option Addr) (c : Nat) (w : World) :
    Calls Try.prog 32 #[.slice x 0 c, .int .i64 1] w fun e w' => e = .returned (.int .i64 1) ∧ w = w' := by
  go_enter Try.func32, Try.ntmps32
  go_wp2
  refine wp_loop_rounds 1 ?_
  rw [rounds_succ]
  go_wp2
  go_ret
  exact ⟨rfl, rfl⟩
theorem markY2_any {lo hi n : Nat} {v : Value} {f : Nat → Int} {w : World} (hn : n ≤ 1048576) (h : PR 1 lo hi w v n (FF f)) :
    Calls Try.prog 31 #[v, .int .i64 1] w fun e w' => e = .returned (.int .i64 ((1 + n : Nat) : Int)) ∧ PR 1 lo hi w' v n markU ∧ OnlIn lo hi w w' := by
  obtain ⟨a, c, rfl, h0⟩ := h
  rcases h0 with rfl | ⟨g, rfl, h1, h2, h3, h4, h5⟩
  · exact (markYNone2_any a c w).mono fun e w' h => ⟨h.1, ⟨a, c, rfl, .inl rfl⟩, by rw [← h.2]; exact OnlIn.refl _ _ _⟩
  · refine (markYS2_any g c n hn w ⟨fun j hj => absurd hj (by omega), fun j hj => ⟨⟨f j, h4 j (by omega)⟩, h5 j (by omega)⟩⟩).mono ?_
    rintro e w' ⟨he, hm, ho⟩
    exact ⟨he, ⟨_, c, rfl, .inr ⟨g, rfl, h1, h2, by rw [ho.2.2.2.1]; exact h3, fun j hj => hm.1 j (by omega), fun j hj => (hm.2 j (by omega)).2⟩⟩, ho.onl h1 h2⟩
theorem heldY2_any {lo hi n : Nat} {v : Value} {w : World} (hn : n ≤ 1048576) (h : PR 1 lo hi w v n markU) :
    Calls Try.prog 32 #[v, .int .i64 1] w fun e w' => e = .returned (.int .i64 ((1 + n : Nat) : Int)) ∧ w = w' := by
  obtain ⟨a, c, rfl, h0⟩ := h
  rcases h0 with rfl | ⟨g, rfl, h1, h2, h3, h4, h5⟩
  · exact (heldYNone2_any a c w).mono fun e w' h => ⟨h.1, h.2⟩
  · exact heldYS2_any g c n hn w fun j hj => h4 j (by omega)
end Go.Proofs.Ytkijgadkgfapgaa
