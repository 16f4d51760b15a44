/-
  A SLICE OF PAIRS OF int32 THAT CAME IN, OPENED; the law's copy of one.
-/
import Derived.Test.YtandgjjfiniboaaMl
import Derived.Deep.Slices
import Derived.OpenShut
import Derived.ChangeOld
import Derived.Carry
namespace Go.Proofs.Ytandgjjfiniboaa
open Go.ChangeShapes Go.WideShapes Go.ChangeAt Go.RowKit Go.Deep
/-- a slice of pairs below B: its numbers are f -/
def PtR (B : Nat) (w : World) (a : Option Addr) (n : Nat) (f : Nat → Int) : Prop := n = 0 ∨ ∃ g off, a = some ⟨g, off, none⟩ ∧ g < B ∧ ∀ j, j < 2 * n → w.cell? ⟨g, off + j, none⟩ = some (.int .i32 (f j))
def P32 (n : Nat) (f : Nat → Int) : Prop := ∀ j, j < 2 * n → -2147483648 ≤ f j ∧ f j ≤ 2147483647
theorem PtR.below {B B' : Nat} {w w' : World} {a : Option Addr} {n : Nat} {f : Nat → Int} (h : PtR B w a n f) (hb : Below B w w') (hB : B ≤ B') : PtR B' w' a n f := by
  rcases h with h | ⟨g, off, ha, hg, hc⟩
  · exact .inl h
  · exact .inr ⟨g, off, ha, by omega, fun j hj => (hb.cell (p := ⟨g, off + j, none⟩) hg).trans (hc j hj)⟩
theorem trod_i32 {H : Type} {enc : TypeId × Value → H} {W : World} {base n : Nat} {spare : Nat → Bool} {held : Bool} {v : Value} {y : DataW H × List MemPlace}
    (ht : DataW.trod enc Try.prog W base spare held n 21 [v] = some y) : ∃ c : Int, -2147483648 ≤ c ∧ c ≤ 2147483647 ∧ v = .int .i32 c := by
  cases n with
  | zero => simp [DataW.trod] at ht
  | succ n =>
    obtain ⟨c, e1, _, hw⟩ := DataW.trod_int Try.underlying21 ht
    obtain rfl := (List.cons.inj e1).1
    refine ⟨c, ?_, ?_, rfl⟩
    all_goals (simp [Lit.wf, IntKind.min, IntKind.max, IntKind.bits, IntKind.signed] at hw; omega)
theorem prow_of {H : Type} {enc : TypeId × Value → H} {W : World} {a : Option Addr} {len cap : Nat} {d : DataW H} {ps : List MemPlace} {spare : Nat → Bool} {base : Nat} {held : Bool}
    (h : DataW.Trod enc Try.prog W base spare held 22 (.slice a len cap) d ps) : ∃ f, P32 len f ∧ PtR W.heap.size W a len f ∧ len ≤ maxLen := by
  obtain ⟨fuel, hf⟩ := h
  have c2 : Try.prog.cellsOf 48 = 2 := by kernel_rfl
  have c1 : Try.prog.cellsOf 21 = 1 := by kernel_rfl
  rcases open_slice Try.underlying22 hf with ⟨hcs, _⟩ | ⟨x, l, c, m, n, D, Pl, hcs, _, hl, hcm, hm, _, hcell⟩
  · simp [Value.cells] at hcs
    obtain ⟨rfl, rfl, rfl⟩ := hcs
    exact ⟨fun _ => 0, fun j hj => by omega, .inl rfl, Nat.zero_le _⟩
  · simp [Value.cells] at hcs
    obtain ⟨rfl, rfl, rfl⟩ := hcs
    rw [c2] at hcell
    have hlm : len ≤ m := by rw [hm]; split <;> omega
    by_cases h0 : len = 0
    · exact ⟨fun _ => 0, fun j hj => by omega, .inl h0, by omega⟩
    · obtain ⟨b, off, spot⟩ := x
      have hspot : spot = none := by
        obtain ⟨cs', h1, _⟩ := hcell 0 (by omega)
        obtain ⟨_, hlen, hcc⟩ := World.cells?_some h1
        have hc0 := hcc 0 (by omega)
        match cs', hlen with
        | [v0, v1], _ =>
          have hc1 : W.cell? ((⟨b, off, spot⟩ : Addr).add 0) = some v0 := by simpa [Addr.add] using hc0
          simpa [Addr.add] using World.cell?_spot hc1
      subst hspot
      have key : ∀ j, j < 2 * len → ∃ z : Int, -2147483648 ≤ z ∧ z ≤ 2147483647 ∧ W.cell? ⟨b, off + j, none⟩ = some (.int .i32 z) := by
        intro j hj
        obtain ⟨cs', h1, h2⟩ := hcell (j / 2) (by omega)
        obtain ⟨_, _, hcc⟩ := World.cells?_some h1
        have hcj := hcc (j % 2) (by omega)
        rw [Go.WideShapes.add_plain, Go.WideShapes.add_plain, show off + j / 2 * 2 + j % 2 = off + j by omega] at hcj
        obtain ⟨xs, mm, rfl, -, hlen, hxl, hel⟩ := DataW.trod_array Try.underlying48 h2
        rw [c2] at hlen
        rw [c1] at hel
        match cs', hlen with
        | [v0, v1], _ =>
          have e := hel (j % 2) (by omega)
          rw [List.getElem?_eq_getElem (by omega)] at e
          rcases Nat.mod_two_eq_zero_or_one j with hr | hr
          · rw [hr] at hcj
            have e' : DataW.trod enc Try.prog W base spare held mm 21 [v0] = some (xs[j % 2]'(by omega)) := by rw [← e, hr]; rfl
            obtain ⟨z, z0, z1, rfl⟩ := trod_i32 e'
            exact ⟨z, z0, z1, hcj⟩
          · rw [hr] at hcj
            have e' : DataW.trod enc Try.prog W base spare held mm 21 [v1] = some (xs[j % 2]'(by omega)) := by rw [← e, hr]; rfl
            obtain ⟨z, z0, z1, rfl⟩ := trod_i32 e'
            exact ⟨z, z0, z1, hcj⟩
      have hb : b < W.heap.size := by
        obtain ⟨z, _, _, hc0⟩ := key 0 (by omega)
        unfold World.cell? at hc0
        split at hc0
        · rename_i hb; exact (Array.getElem?_eq_some_iff.1 hb).1
        · cases hc0
      refine ⟨fun j => if hj : j < 2 * len then Classical.choose (key j hj) else 0, fun j hj => ?_, .inr ⟨b, off, rfl, hb, fun j hj => ?_⟩, by omega⟩
      · simp only [dif_pos hj]
        have := Classical.choose_spec (key j hj)
        exact ⟨this.1, this.2.1⟩
      · simp only [dif_pos hj]
        exact (Classical.choose_spec (key j hj)).2.2
/-- the law's copy, k pairs of n copied -/
def rowP (f : Nat → Int) (k n : Nat) : Array Value := ((List.range (2 * n)).map fun i => if i < 2 * k then Value.int .i32 (f i) else Value.int .i32 0).toArray
theorem rowP_size (f : Nat → Int) (k n : Nat) : (rowP f k n).size = 2 * n := by simp [rowP]
theorem rowP_get (f : Nat → Int) (k n i : Nat) (h : i < 2 * n) : (rowP f k n)[i]? = some (if i < 2 * k then Value.int .i32 (f i) else Value.int .i32 0) := by simp [rowP, h]
theorem rowP_set (f : Nat → Int) (k n : Nat) (h : k < n) : ((rowP f k n).setIfInBounds (k * 2) (.int .i32 (f (k * 2)))).setIfInBounds (k * 2 + 1) (.int .i32 (f (k * 2 + 1))) = rowP f (k + 1) n := by
  apply Array.ext_getElem?
  intro i
  rw [Array.getElem?_setIfInBounds, Array.getElem?_setIfInBounds]
  simp only [Array.size_setIfInBounds, rowP_size]
  by_cases hi : i < 2 * n
  · rw [rowP_get f (k + 1) n i hi]
    by_cases h1 : k * 2 + 1 = i
    · subst h1
      rw [if_pos rfl, if_pos (by omega), if_pos (by omega)]
    · rw [if_neg h1]
      by_cases h2 : k * 2 = i
      · subst h2
        rw [if_pos rfl, if_pos (by omega), if_pos (by omega)]
      · rw [if_neg h2, rowP_get f k n i hi]
        congr 1
        by_cases h3 : i < 2 * k
        · rw [if_pos h3, if_pos (by omega)]
        · rw [if_neg h3, if_neg (by omega)]
  · rw [if_neg (by omega), if_neg (by omega), Array.getElem?_eq_none (by rw [rowP_size]; omega), Array.getElem?_eq_none (by rw [rowP_size]; omega)]
theorem madeP (n : Nat) : madeCells #[.int .i32 0, .int .i32 0] (n * 2) = rowP (fun _ => 0) 0 n := by
  apply Array.ext_getElem?
  intro i
  by_cases hi : i < 2 * n
  · rw [rowP_get _ _ _ _ hi]
    have h2 : i < n * 2 := by omega
    rcases Nat.mod_two_eq_zero_or_one i with h | h
    · simp [madeCells, h2, h]
    · simp [madeCells, h2, h]
  · rw [Array.getElem?_eq_none (by simp [madeCells]; omega), Array.getElem?_eq_none (by rw [rowP_size]; omega)]
theorem rowP_zero (f : Nat → Int) (n : Nat) : rowP f 0 n = rowP (fun _ => 0) 0 n := by simp [rowP]
theorem info_p2 : (Try.prog.info? 48).map (fun i => (i.zero, i.size, i.bytes)) = some (some (.agg #[.int .i32 0, .int .i32 0]), 2, 8) := by kernel_rfl
theorem make_p2 (n : Nat) (h : n ≤ 1048576) (w : World) : (Instr.makeSlice 22 (.int .i64 (n : Int)) (.int .i64 (n : Int))).run Try.prog w = .ok (.slice (some ⟨w.heap.size, 0, none⟩) n n) (w.alloc (.cells (rowP (fun _ => 0) 0 n) 48)) := by
  obtain ⟨i, hi, hz, hs, hb⟩ := info_parts info_p2
  have hr := run_make (P := Try.prog) w 22 48 i _ Try.underlying22 hi hz .i64 .i64 n n (by omega) (Int.le_refl _) (by rw [hb]; omega) (by omega)
  simp only [Int.toNat_natCast, hs] at hr
  rw [← madeP]
  exact hr
theorem toPt_any2 (a b : Int) (w : World) :
    Calls Try.prog 47 #[.agg #[.int .i32 a, .int .i32 b]] w fun e w' => e = .returned (.agg #[.int .i32 a, .int .i32 b]) ∧ Below w.heap.size w w' := by
  go_enter Try.func47, Try.ntmps47
  go_wp2
  refine wp_loop_rounds 3 ?_
  iterate 3
    rw [rounds_succ]
    go_wp2
  refine bodyPost_ret (v := .agg #[.int .i32 a, .int .i32 b]) (by simp [results, Try.results47, go_sem]) rfl ⟨rfl, ?_⟩
  exact (((Below.refl _ _).alloc (Nat.le_refl _) _).alloc (by simp) _).alloc (by simp; omega) _
set_option maxHeartbeats 2000000 in
theorem toPS_any (a : Option Addr) (cap n : Nat) (f : Nat → Int) (B : Nat) (w : World) (hB : B ≤ w.heap.size) (h : PtR B w a n f) (hl : n ≤ 1048576) :
    Calls Try.prog 17 #[.slice a n cap] w fun e w' => e = .returned (.slice (some ⟨w.heap.size, 0, none⟩) n n) ∧ PtR (w.heap.size + 1) w' (some ⟨w.heap.size, 0, none⟩) n f ∧ Below w.heap.size w w' ∧ w.heap.size < w'.heap.size := by
  have hmk := fun w => make_p2 n hl w
  have hz := rowP_zero f n
  rw [← hz] at hmk
  have hl' : (n : Int) ≤ 1048576 := by omega
  have H0 : Hid ((w.alloc (.cells (rowP f 0 n) 48)).heap[w.heap.size]? = some (.cells (rowP f 0 n) 48 (0, 0))) := Lib.hid (World.alloc_heap_new w _)
  have B0 : Hid (Below w.heap.size w (w.alloc (.cells (rowP f 0 n) 48))) := Lib.hid ((Below.refl _ w).alloc (Nat.le_refl _) _)
  have HP := Lib.hid h
  clear hz h
  go_enter Try.func17, Try.ntmps17
  go_wp2
  generalize w.alloc (.cells (rowP f 0 n) 48) = w1 at H0 B0 ⊢
  go_loopw [4] (fun i wr => ∃ k : Nat, k ≤ n ∧ i = .int .i64 k ∧ wr.heap[w.heap.size]? = some (.cells (rowP f k n) 48 (0, 0)) ∧ Below w.heap.size w wr) (fun i _ => n - (intOf i).toNat)
  case atStart => exact ⟨0, Nat.zero_le _, rfl, H0.out, B0.out⟩
  case round =>
    obtain ⟨k, hk, rfl, h0, hB'⟩ := hrel
    have L0 := Lib.hid h0
    have LB := Lib.hid hB'
    clear h0 hB' H0 B0
    by_cases hlt : k < n
    · obtain ⟨g, off, rfl, hg, hc⟩ : ∃ g off, a = some ⟨g, off, none⟩ ∧ g < B ∧ ∀ j, j < 2 * n → w.cell? ⟨g, off + j, none⟩ = some (.int .i32 (f j)) := by
        rcases HP.out with h | h
        · omega
        · exact h
      have tk : (k : Int) < (n : Int) := by omega
      have g0 : wr.cell? ⟨g, off + k * 2, none⟩ = some (.int .i32 (f (k * 2))) := (LB.out.cell (p := ⟨g, off + k * 2, none⟩) (by show g < _; omega)).trans (hc _ (by omega))
      have g1 : wr.cell? ⟨g, off + k * 2 + 1, none⟩ = some (.int .i32 (f (k * 2 + 1))) := (LB.out.cell (p := ⟨g, off + k * 2 + 1, none⟩) (by show g < _; omega)).trans (hc (k * 2 + 1) (by omega))
      have HK := Lib.hid hlt
      have SET := Lib.hid (rowP_set f k n hlt)
      have LZ : Hid (w.heap.size < wr.heap.size) := Lib.hid (Array.getElem?_eq_some_iff.1 L0.out).1
      clear hc hlt hk hg
      generalize f (k * 2) = p at g0 SET
      generalize f (k * 2 + 1) = q at g1 SET
      go_wp2_with fail
      refine (toPt_any2 p q wr).mono ?_
      rintro e w2 ⟨rfl, b2⟩
      have M0 := Lib.hid ((b2.block _ LZ.out).trans L0.out)
      have MB2 := Lib.hid (LB.out.trans (b2.mono (Nat.le_of_lt LZ.out)))
      have m0 : ∃ u, w2.cell? ⟨w.heap.size, k * 2, none⟩ = some u := ⟨_, (Lib.cell_of_heap M0.out (k * 2)).trans (rowP_get _ _ _ _ (by have := HK.out; omega))⟩
      have m1 : ∃ u, w2.cell? ⟨w.heap.size, k * 2 + 1, none⟩ = some u := ⟨_, (Lib.cell_of_heap M0.out (k * 2 + 1)).trans (rowP_get _ _ _ _ (by have := HK.out; omega))⟩
      obtain ⟨u0, m0⟩ := m0
      obtain ⟨u1, m1⟩ := m1
      have f0 : w2.frozen? ⟨w.heap.size, k * 2, none⟩ = false := Lib.frozen_of_heap M0.out _
      have f1 : w2.frozen? ⟨w.heap.size, k * 2 + 1, none⟩ = false := Lib.frozen_of_heap M0.out _
      clear b2 g0 g1 L0 LB
      go_wp2
      go_roundw
      case rel => exact ⟨k + 1, HK.out, by go_num, by rw [← SET.out]; exact mset_at (mset_at M0.out _ _) _ _, (MB2.out.setCell (p := ⟨w.heap.size, k * 2, none⟩) (Nat.le_refl _) _).setCell (p := ⟨w.heap.size, k * 2 + 1, none⟩) (Nat.le_refl _) _⟩
      case measure => have := HK.out; simp [intOf]; omega
    · obtain rfl : k = n := by omega
      have hD : PtR (w.heap.size + 1) wr (some ⟨w.heap.size, 0, none⟩) k f := .inr ⟨_, 0, rfl, Nat.lt_succ_self _, fun j hj => by
        rw [Nat.zero_add, Lib.cell_of_heap L0.out j, rowP_get _ _ _ _ hj, if_pos hj]⟩
      have LZ : Hid (w.heap.size < wr.heap.size) := Lib.hid (Array.getElem?_eq_some_iff.1 L0.out).1
      have HDD := Lib.hid hD
      clear hD
      go_wp2
      go_ret
      exact ⟨rfl, HDD.out, LB.out, LZ.out⟩
end Go.Proofs.Ytandgjjfiniboaa
