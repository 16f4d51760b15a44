/-
  CONTRACTS: openHead.
-/
import Derived.Test.YtkijgadkgfapgaaYj
import Derived.Test.YtkijgadkgfapgaaHa
import Derived.Test.YtkijgadkgfapgaaGi
import Derived.Test.YtkijgadkgfapgaaGj
namespace Go.Proofs.Ytkijgadkgfapgaa
open Go.ChangeShapes Go.WideShapes Go.ChangeAt Go.RowKit
theorem slice_oneF (a : Option Addr) (n c : Nat) (hc : 1 ≤ c) (ha : ∀ x, a = some x → ∃ b off, x = ⟨b, off, none⟩) (w : World) : (Instr.slice 48 (.slice a n c) none (some (.int .i64 1)) none).run Try.prog w = .ok (.slice a 1 c) w := by
  have hs : ∀ w, (sizeOf (Try.prog.elem 48)).run Try.prog w = .ok 16 w := fun w => by kernel_rfl
  rw [run_slice_h (P := Try.prog) (w := w) 48 a n c (by kernel_rfl) .i64 1 (by omega) (by omega), hs]
  cases a with
  | none => simp [Result.andThen_ok, sliced]
  | some x =>
    obtain ⟨b, off, rfl⟩ := ha x rfl
    simp [Result.andThen_ok, sliced, Go.WideShapes.add_plain]
set_option maxRecDepth 20000 in
set_option maxHeartbeats 4000000 in
theorem openHead_none (a : Option Addr) (cap : Nat) (w : World) :
    Calls Try.prog 65 #[.slice a 0 cap] w fun e w' => e = .returned (.tuple #[.agg #[Value.int .i64 0, Value.int .i64 0, Value.int .i64 0], .int .i64 5]) ∧ Below w.heap.size w w' := by
  obtain ⟨w1, hw1⟩ : ∃ w1, w.alloc (.cells #[Value.int .i64 0, Value.int .i64 0, Value.int .i64 0] 100) = w1 := ⟨_, rfl⟩
  have B0 : Hid (Below w.heap.size w w1) := Lib.hid (by rw [← hw1]; exact (Below.refl _ w).alloc (Nat.le_refl _) _)
  have H1 : Hid (w1.heap[w.heap.size]? = some (.cells #[Value.int .i64 0, Value.int .i64 0, Value.int .i64 0] 100 (0, 0))) := Lib.hid (by rw [← hw1]; exact World.alloc_heap_new w _)
  have L1 : Hid (w.heap.size < w1.heap.size) := Lib.hid (Array.getElem?_eq_some_iff.1 H1.out).1
  go_enter Try.func65, Try.ntmps65
  go_wp2_with (refine wpList_store_row rfl 100 _ _ rfl w.heap.size _ rfl rfl 100 _ H1.out (hd_info _ rfl) rfl (row3_one _ _ _) ?_)
  refine bodyPost_ret (v := .tuple #[.agg #[Value.int .i64 0, Value.int .i64 0, Value.int .i64 0], .int .i64 5]) ?_ rfl ⟨rfl, below_setRow B0.out (Nat.le_refl _) _⟩
  exact results_cell_tmp_rowF Try.results65 _ _ w.heap.size _ _ _ _ rfl (setRow_heap _ _ _ _ _ _ H1.out) Try.underlying100 rfl (hd_info _ rfl)
def hd3 (f : Nat → Int) : Array Value := #[.int .i64 (frK f 0 3), .int .i64 (hdB (fun j => frK f 0 (4 + j)) 0 4 : Nat), .int .i64 (hdB (fun j => frK f 0 (8 + j)) 0 4 : Nat)]
theorem hd3_size (f : Nat → Int) : (hd3 f).size = 3 := rfl
theorem hd3_one (f : Nat → Int) : (hd3 f).all (·.oneCell') = true := row3_one _ _ _
set_option maxRecDepth 20000 in
set_option maxHeartbeats 4000000 in
theorem openHead_bad (a : Option Addr) (n cap : Nat) (f : Nat → Int) (hn : 1 ≤ n) (hk : SlOk a n cap) (hf : ByF (16 * n) f) (w : World) (h : FrR w.heap.size w a n f) (hok : okAt f 0 0 = false) :
    Calls Try.prog 65 #[.slice a n cap] w fun e w' => e = .returned (.tuple #[.agg #[Value.int .i64 0, Value.int .i64 0, Value.int .i64 0], .int .i64 8]) ∧ Below w.heap.size w w' := by
  obtain ⟨w1, hw1⟩ : ∃ w1, w.alloc (.cells #[Value.int .i64 0, Value.int .i64 0, Value.int .i64 0] 100) = w1 := ⟨_, rfl⟩
  have B0 : Hid (Below w.heap.size w w1) := Lib.hid (by rw [← hw1]; exact (Below.refl _ w).alloc (Nat.le_refl _) _)
  have H1 : Hid (w1.heap[w.heap.size]? = some (.cells #[Value.int .i64 0, Value.int .i64 0, Value.int .i64 0] 100 (0, 0))) := Lib.hid (by rw [← hw1]; exact World.alloc_heap_new w _)
  have L1 : Hid (w.heap.size < w1.heap.size) := Lib.hid (Array.getElem?_eq_some_iff.1 H1.out).1
  have F1 : FrR w1.heap.size w1 a 1 f := by
    rcases h with h | ⟨g, off, ha, hg, hc⟩
    · omega
    · exact .inr ⟨g, off, ha, Nat.lt_trans hg L1.out, fun j hj => (B0.out.cell (p := ⟨g, off + j, none⟩) hg).trans (hc j (by omega))⟩
  have OP := Lib.hid (open_any a 1 cap f 0 w1 (by omega) (by omega) (fun j hj => hf j (by omega)) F1)
  have BP : Hid (ByF 12 (frK f 0)) := Lib.hid fun j hj => hf (0 * 16 + j) (by omega)
  have nI : (1 : Int) ≤ (n : Int) := by omega
  have hsl : ∀ W, (Instr.slice 48 (.slice a n cap) none (some (.int .i64 1)) none).run Try.prog W = .ok (.slice a 1 cap) W := fun W => slice_oneF a n cap (by have := hk.1; omega) hk.2.2 W
  have cI : (1 : Int) ≤ (cap : Int) := by have := hk.1; omega
  have ne : ((n : Int) == 0) = false := by simp; omega
  have ne2 : decide ((n : Int) = 0) = false := by simp; omega
  clear h F1 hf hk hn
  go_enter Try.func65, Try.ntmps65
  go_wp2_with fail
  refine OP.out.mono ?_
  rintro e w2 (⟨v, rfl, h0, -, -⟩ | ⟨k, hk, -, hbk, rfl, b⟩)
  · rw [h0 0 (by omega)] at hok; cases hok
  · have B2 := Lib.hid (B0.out.trans (b.mono (Nat.le_of_lt L1.out)))
    have G2 := Lib.hid ((b.block _ L1.out).trans H1.out)
    clear b hw1
    go_wp2_with (refine wpList_store_row rfl 100 _ _ rfl w.heap.size _ rfl rfl 100 _ G2.out (hd_info _ rfl) rfl (row3_one _ _ _) ?_)
    refine bodyPost_ret (v := .tuple #[.agg #[Value.int .i64 0, Value.int .i64 0, Value.int .i64 0], .int .i64 8]) ?_ rfl ⟨rfl, below_setRow B2.out (Nat.le_refl _) _⟩
    exact results_cell_tmp_rowF Try.results65 _ _ w.heap.size _ _ _ _ rfl (setRow_heap _ _ _ _ _ _ G2.out) Try.underlying100 rfl (hd_info _ rfl)
set_option maxRecDepth 20000 in
set_option maxHeartbeats 4000000 in
theorem openHead_no (a : Option Addr) (n cap : Nat) (f : Nat → Int) (hn : 1 ≤ n) (hk : SlOk a n cap) (hf : ByF (16 * n) f) (w : World) (h : FrR w.heap.size w a n f) (hok : okAt f 0 0 = true) (hsg : sgnOk (frK f 0) = false) :
    Calls Try.prog 65 #[.slice a n cap] w fun e w' => e = .returned (.tuple #[.agg #[Value.int .i64 0, Value.int .i64 0, Value.int .i64 0], .int .i64 5]) ∧ Below w.heap.size w w' := by
  obtain ⟨w1, hw1⟩ : ∃ w1, w.alloc (.cells #[Value.int .i64 0, Value.int .i64 0, Value.int .i64 0] 100) = w1 := ⟨_, rfl⟩
  have B0 : Hid (Below w.heap.size w w1) := Lib.hid (by rw [← hw1]; exact (Below.refl _ w).alloc (Nat.le_refl _) _)
  have H1 : Hid (w1.heap[w.heap.size]? = some (.cells #[Value.int .i64 0, Value.int .i64 0, Value.int .i64 0] 100 (0, 0))) := Lib.hid (by rw [← hw1]; exact World.alloc_heap_new w _)
  have L1 : Hid (w.heap.size < w1.heap.size) := Lib.hid (Array.getElem?_eq_some_iff.1 H1.out).1
  have F1 : FrR w1.heap.size w1 a 1 f := by
    rcases h with h | ⟨g, off, ha, hg, hc⟩
    · omega
    · exact .inr ⟨g, off, ha, Nat.lt_trans hg L1.out, fun j hj => (B0.out.cell (p := ⟨g, off + j, none⟩) hg).trans (hc j (by omega))⟩
  have OP := Lib.hid (open_any a 1 cap f 0 w1 (by omega) (by omega) (fun j hj => hf j (by omega)) F1)
  have BP : Hid (ByF 12 (frK f 0)) := Lib.hid fun j hj => hf (0 * 16 + j) (by omega)
  have nI : (1 : Int) ≤ (n : Int) := by omega
  have hsl : ∀ W, (Instr.slice 48 (.slice a n cap) none (some (.int .i64 1)) none).run Try.prog W = .ok (.slice a 1 cap) W := fun W => slice_oneF a n cap (by have := hk.1; omega) hk.2.2 W
  have cI : (1 : Int) ≤ (cap : Int) := by have := hk.1; omega
  have ne : ((n : Int) == 0) = false := by simp; omega
  have ne2 : decide ((n : Int) = 0) = false := by simp; omega
  clear h F1 hf hk hn
  go_enter Try.func65, Try.ntmps65
  go_wp2_with fail
  refine OP.out.mono ?_
  rintro e w2 (⟨v, rfl, -, o, b⟩ | ⟨k, hk, -, hbk, rfl, b⟩)
  · obtain ⟨g, c, rfl, -, hg, hgs, hc⟩ := o.form (by omega)
    have B2 := Lib.hid (B0.out.trans (b.mono (Nat.le_of_lt L1.out)))
    have G2 := Lib.hid ((b.block _ L1.out).trans H1.out)
    have L2 : Hid (w.heap.size < w2.heap.size) := Lib.hid (Nat.lt_of_lt_of_le L1.out b.size)
    have CQ : Hid (∀ j v, (Q12 (frK f 0))[j]? = some v → w2.cell? ⟨g, 0 + j, none⟩ = some v) := Lib.hid fun j v e => by
      have hj : j < 12 := by
        rcases Nat.lt_or_ge j 12 with h | h
        · exact h
        · rw [arr_none _ _ _ _ h] at e; cases e
      rw [Nat.zero_add, hc j (by omega), ← e, arr_get _ _ _ _ hj]
      show some (Value.int .u8 (f (j / 12 * 16 + j % 12))) = some (Value.int .u8 (f (0 * 16 + j)))
      rw [show j / 12 * 16 + j % 12 = 0 * 16 + j by omega]
    have hat := fun W => run_arrayAtF (P := Try.prog) 141 _ 12 (some ⟨g, 0, none⟩) (12 * 1) c Try.underlying141 (by omega) W
    have HO := Lib.hid (headOf_any (frK f 0) BP.out)
    have QS : Hid ((Q12 (frK f 0)).size = 12) := Lib.hid (arr_size _ _ _)
    rw [hsg] at HO
    have HD : Hid (hd3 f = #[.int .i64 (frK f 0 3), .int .i64 (hdB (fun j => frK f 0 (4 + j)) 0 4 : Nat), .int .i64 (hdB (fun j => frK f 0 (8 + j)) 0 4 : Nat)]) := Lib.hid rfl
    rw [← HD.out] at HO
    have HS := Lib.hid (hd3_size f)
    have H1C := Lib.hid (hd3_one f)
    obtain ⟨R, hR⟩ : ∃ R, hd3 f = R := ⟨_, rfl⟩
    have HR := Lib.hid hR
    rw [hR] at HO HS H1C
    clear hR
    generalize Q12 (frK f 0) = A at CQ HO QS
    clear hc hg hgs o b hw1 HD
    go_wp2_with (refine wpList_load_part rfl 141 _ rfl g 0 rfl A _ CQ.out Try.underlying141 rfl (p12_info _ QS.out) ?_)
    refine (HO.out _).mono ?_
    rintro e w3 ⟨rfl, b⟩
    have B3 := Lib.hid (B2.out.trans (b.mono (Nat.le_of_lt L2.out)))
    have G3 := Lib.hid ((b.block _ L2.out).trans G2.out)
    have L3 : Hid (w.heap.size < w3.heap.size) := Lib.hid (Nat.lt_of_lt_of_le L2.out b.size)
    clear b G2 B2
    obtain ⟨w4, hw4⟩ : ∃ x, w3.alloc (.cells #[Value.int .i64 0, Value.int .i64 0, Value.int .i64 0] 100) = x := ⟨_, rfl⟩
    have T4 : Hid (w4.heap[w3.heap.size]? = some (.cells #[Value.int .i64 0, Value.int .i64 0, Value.int .i64 0] 100 (0, 0))) := Lib.hid (by rw [← hw4]; exact World.alloc_heap_new w3 _)
    obtain ⟨w5, hw5⟩ : ∃ x, w4.setRow w3.heap.size R = x := ⟨_, rfl⟩
    have b : Below w3.heap.size w3 w5 := by rw [← hw5, ← hw4]; exact below_setRow ((Below.refl _ _).alloc (Nat.le_refl _) _) (Nat.le_refl _) _
    have S5 : Hid (w5.heap[w3.heap.size]? = some (.cells R 100 (0, 0))) := Lib.hid (by rw [← hw5]; exact setRow_heap _ _ _ _ _ _ T4.out)
    have G5 := Lib.hid ((b.block _ L3.out).trans G3.out)
    have B5 := Lib.hid (B3.out.trans (b.mono (Nat.le_of_lt L3.out)))
    clear b
    go_wp2_with (first | (refine wpList_store_row rfl 100 _ _ rfl w3.heap.size R rfl rfl 100 _ T4.out (hd_info _ HS.out) (by rw [HS.out]; rfl) H1C.out ?_; rw [hw5]) | (refine wpList_store_row rfl 100 _ _ rfl w.heap.size _ rfl rfl 100 _ G5.out (hd_info _ rfl) rfl (row3_one _ _ _) ?_))
    refine bodyPost_ret (v := .tuple #[.agg #[Value.int .i64 0, Value.int .i64 0, Value.int .i64 0], .int .i64 5]) ?_ rfl ⟨rfl, below_setRow B5.out (Nat.le_refl _) _⟩
    exact results_cell_tmp_rowF Try.results65 _ _ w.heap.size _ _ _ _ rfl (setRow_heap _ _ _ _ _ _ G5.out) Try.underlying100 rfl (hd_info _ rfl)
  · obtain rfl : k = 0 := by omega
    rw [hok] at hbk; cases hbk
set_option maxRecDepth 20000 in
set_option maxHeartbeats 4000000 in
theorem openHead_ok (a : Option Addr) (n cap : Nat) (f : Nat → Int) (hn : 1 ≤ n) (hk : SlOk a n cap) (hf : ByF (16 * n) f) (w : World) (h : FrR w.heap.size w a n f) (hok : okAt f 0 0 = true) (hsg : sgnOk (frK f 0) = true) :
    Calls Try.prog 65 #[.slice a n cap] w fun e w' => e = .returned (.tuple #[.agg (hd3 f), .int .i64 0]) ∧ Below w.heap.size w w' := by
  obtain ⟨w1, hw1⟩ : ∃ w1, w.alloc (.cells #[Value.int .i64 0, Value.int .i64 0, Value.int .i64 0] 100) = w1 := ⟨_, rfl⟩
  have B0 : Hid (Below w.heap.size w w1) := Lib.hid (by rw [← hw1]; exact (Below.refl _ w).alloc (Nat.le_refl _) _)
  have H1 : Hid (w1.heap[w.heap.size]? = some (.cells #[Value.int .i64 0, Value.int .i64 0, Value.int .i64 0] 100 (0, 0))) := Lib.hid (by rw [← hw1]; exact World.alloc_heap_new w _)
  have L1 : Hid (w.heap.size < w1.heap.size) := Lib.hid (Array.getElem?_eq_some_iff.1 H1.out).1
  have F1 : FrR w1.heap.size w1 a 1 f := by
    rcases h with h | ⟨g, off, ha, hg, hc⟩
    · omega
    · exact .inr ⟨g, off, ha, Nat.lt_trans hg L1.out, fun j hj => (B0.out.cell (p := ⟨g, off + j, none⟩) hg).trans (hc j (by omega))⟩
  have OP := Lib.hid (open_any a 1 cap f 0 w1 (by omega) (by omega) (fun j hj => hf j (by omega)) F1)
  have BP : Hid (ByF 12 (frK f 0)) := Lib.hid fun j hj => hf (0 * 16 + j) (by omega)
  have nI : (1 : Int) ≤ (n : Int) := by omega
  have hsl : ∀ W, (Instr.slice 48 (.slice a n cap) none (some (.int .i64 1)) none).run Try.prog W = .ok (.slice a 1 cap) W := fun W => slice_oneF a n cap (by have := hk.1; omega) hk.2.2 W
  have cI : (1 : Int) ≤ (cap : Int) := by have := hk.1; omega
  have ne : ((n : Int) == 0) = false := by simp; omega
  have ne2 : decide ((n : Int) = 0) = false := by simp; omega
  clear h F1 hf hk hn
  go_enter Try.func65, Try.ntmps65
  go_wp2_with fail
  refine OP.out.mono ?_
  rintro e w2 (⟨v, rfl, -, o, b⟩ | ⟨k, hk, -, hbk, rfl, b⟩)
  · obtain ⟨g, c, rfl, -, hg, hgs, hc⟩ := o.form (by omega)
    have B2 := Lib.hid (B0.out.trans (b.mono (Nat.le_of_lt L1.out)))
    have G2 := Lib.hid ((b.block _ L1.out).trans H1.out)
    have L2 : Hid (w.heap.size < w2.heap.size) := Lib.hid (Nat.lt_of_lt_of_le L1.out b.size)
    have CQ : Hid (∀ j v, (Q12 (frK f 0))[j]? = some v → w2.cell? ⟨g, 0 + j, none⟩ = some v) := Lib.hid fun j v e => by
      have hj : j < 12 := by
        rcases Nat.lt_or_ge j 12 with h | h
        · exact h
        · rw [arr_none _ _ _ _ h] at e; cases e
      rw [Nat.zero_add, hc j (by omega), ← e, arr_get _ _ _ _ hj]
      show some (Value.int .u8 (f (j / 12 * 16 + j % 12))) = some (Value.int .u8 (f (0 * 16 + j)))
      rw [show j / 12 * 16 + j % 12 = 0 * 16 + j by omega]
    have hat := fun W => run_arrayAtF (P := Try.prog) 141 _ 12 (some ⟨g, 0, none⟩) (12 * 1) c Try.underlying141 (by omega) W
    have HO := Lib.hid (headOf_any (frK f 0) BP.out)
    have QS : Hid ((Q12 (frK f 0)).size = 12) := Lib.hid (arr_size _ _ _)
    rw [hsg] at HO
    have HD : Hid (hd3 f = #[.int .i64 (frK f 0 3), .int .i64 (hdB (fun j => frK f 0 (4 + j)) 0 4 : Nat), .int .i64 (hdB (fun j => frK f 0 (8 + j)) 0 4 : Nat)]) := Lib.hid rfl
    rw [← HD.out] at HO
    have HS := Lib.hid (hd3_size f)
    have H1C := Lib.hid (hd3_one f)
    obtain ⟨R, hR⟩ : ∃ R, hd3 f = R := ⟨_, rfl⟩
    have HR := Lib.hid hR
    rw [hR] at HO HS H1C
    clear hR
    generalize Q12 (frK f 0) = A at CQ HO QS
    clear hc hg hgs o b hw1 HD
    go_wp2_with (refine wpList_load_part rfl 141 _ rfl g 0 rfl A _ CQ.out Try.underlying141 rfl (p12_info _ QS.out) ?_)
    refine (HO.out _).mono ?_
    rintro e w3 ⟨rfl, b⟩
    have B3 := Lib.hid (B2.out.trans (b.mono (Nat.le_of_lt L2.out)))
    have G3 := Lib.hid ((b.block _ L2.out).trans G2.out)
    have L3 : Hid (w.heap.size < w3.heap.size) := Lib.hid (Nat.lt_of_lt_of_le L2.out b.size)
    clear b G2 B2
    obtain ⟨w4, hw4⟩ : ∃ x, w3.alloc (.cells #[Value.int .i64 0, Value.int .i64 0, Value.int .i64 0] 100) = x := ⟨_, rfl⟩
    have T4 : Hid (w4.heap[w3.heap.size]? = some (.cells #[Value.int .i64 0, Value.int .i64 0, Value.int .i64 0] 100 (0, 0))) := Lib.hid (by rw [← hw4]; exact World.alloc_heap_new w3 _)
    obtain ⟨w5, hw5⟩ : ∃ x, w4.setRow w3.heap.size R = x := ⟨_, rfl⟩
    have b : Below w3.heap.size w3 w5 := by rw [← hw5, ← hw4]; exact below_setRow ((Below.refl _ _).alloc (Nat.le_refl _) _) (Nat.le_refl _) _
    have S5 : Hid (w5.heap[w3.heap.size]? = some (.cells R 100 (0, 0))) := Lib.hid (by rw [← hw5]; exact setRow_heap _ _ _ _ _ _ T4.out)
    have G5 := Lib.hid ((b.block _ L3.out).trans G3.out)
    have B5 := Lib.hid (B3.out.trans (b.mono (Nat.le_of_lt L3.out)))
    clear b
    go_wp2_with (first | (refine wpList_store_row rfl 100 _ _ rfl w3.heap.size R rfl rfl 100 _ T4.out (hd_info _ HS.out) (by rw [HS.out]; rfl) H1C.out ?_; rw [hw5]) | (refine wpList_load_row rfl 100 _ rfl w3.heap.size rfl 100 _ _ _ S5.out Try.underlying100 rfl (hd_info _ HS.out) ?_) | (refine wpList_store_row rfl 100 _ _ rfl w.heap.size R rfl rfl 100 _ G5.out (hd_info _ HS.out) (by rw [HS.out]; rfl) H1C.out ?_))
    refine bodyPost_ret (v := .tuple #[.agg R, .int .i64 0]) ?_ rfl ⟨by rw [HR.out], below_setRow B5.out (Nat.le_refl _) _⟩
    exact results_cell_tmp_rowF Try.results65 _ _ w.heap.size _ _ _ _ rfl (setRow_heap _ _ _ _ _ _ G5.out) Try.underlying100 rfl (hd_info _ HS.out)
  · obtain rfl : k = 0 := by omega
    rw [hok] at hbk; cases hbk

end Go.Proofs.Ytkijgadkgfapgaa
