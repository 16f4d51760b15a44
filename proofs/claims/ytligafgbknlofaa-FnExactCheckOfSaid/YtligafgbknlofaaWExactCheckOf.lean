/-
  THE WALK of the law, whole.
-/
import Derived.Test.YtligafgbknlofaaFi
namespace Go.Proofs.Ytligafgbknlofaa
open Go.ChangeShapes Go.WideShapes Go.ChangeAt Go.RowKit
theorem by_of_wf {n : Nat} {p : Nat → Int} (h : ∀ i, i < n → (Lit.int .u8 (p i)).wf = true) : ByF n p := fun i hi => by
  have := h i hi
  simp [Lit.wf, IntKind.min, IntKind.max, IntKind.bits, IntKind.signed] at this
  omega
set_option maxRecDepth 8000 in
theorem fnExactCheckOf_walk (i : Int) (hi : (Lit.int .i64 i).wf = true) (p : Nat → Int) (hp : ∀ i, i < 12 → (Lit.int .u8 (p i)).wf = true) (w : World) :
    Calls Try.prog 3 #[.int .i64 i, .agg (A12 p)] w fun e w' => e = .returned (.bool true) ∧ Below w.heap.size w w' := by
  have TO := Lib.hid (toP12_any p)
  have SC := Lib.hid (sCheckOf_any i p (by_of_wf hp))
  have IC := Lib.hid (iCheckOf_any i p (by_of_wf hp))
  obtain ⟨c, hc⟩ : ∃ c : Int, (chkN i p : Int) = c := ⟨_, rfl⟩
  obtain ⟨d, hd⟩ : ∃ d : Int, codeX i = d := ⟨_, rfl⟩
  rw [hc, hd] at SC IC
  clear hc hd hp hi
  obtain ⟨w1, hw1⟩ : ∃ w1, w.alloc (.cells (A12 p) 22) = w1 := ⟨_, rfl⟩
  have B1 : Hid (Below w.heap.size w w1) := Lib.hid (by rw [← hw1]; exact (Below.refl _ _).alloc (Nat.le_refl _) _)
  have S1 : Hid (w1.heap[w.heap.size]? = some (.cells (A12 p) 22 (0, 0))) := Lib.hid (by rw [← hw1]; exact World.alloc_heap_new w _)
  have L1 : Hid (w.heap.size < w1.heap.size) := Lib.hid (by rw [← hw1]; simp)
  go_enter Try.func3, Try.ntmps3
  go_wp2_with (refine wpList_load_row rfl 22 _ rfl w.heap.size rfl 22 _ _ _ S1.out Try.underlying22 rfl (p12_info _ (arr_size _ _ _)) ?_)
  clear hw1
  refine (TO.out _).mono ?_
  rintro e w2 ⟨rfl, b⟩
  have S2 := Lib.hid ((b.block _ L1.out).trans S1.out)
  have B2 := Lib.hid (B1.out.trans (b.mono (Nat.le_of_lt L1.out)))
  have L2 : Hid (w.heap.size < w2.heap.size) := Lib.hid (Nat.lt_of_lt_of_le L1.out b.size)
  clear b
  go_wp2_with fail
  refine (SC.out _).mono ?_
  rintro e w3 ⟨rfl, b⟩
  have S3 := Lib.hid ((b.block _ L2.out).trans S2.out)
  have B3 := Lib.hid (B2.out.trans (b.mono (Nat.le_of_lt L2.out)))
  have L3 : Hid (w.heap.size < w3.heap.size) := Lib.hid (Nat.lt_of_lt_of_le L2.out b.size)
  clear b
  go_wp2_with (refine wpList_load_row rfl 22 _ rfl w.heap.size rfl 22 _ _ _ S3.out Try.underlying22 rfl (p12_info _ (arr_size _ _ _)) ?_)
  refine (TO.out _).mono ?_
  rintro e w4 ⟨rfl, b⟩
  have B4 := Lib.hid (B3.out.trans (b.mono (Nat.le_of_lt L3.out)))
  have L4 : Hid (w.heap.size < w4.heap.size) := Lib.hid (Nat.lt_of_lt_of_le L3.out b.size)
  clear b
  go_wp2_with fail
  refine (IC.out _).mono ?_
  rintro e w5 ⟨rfl, b⟩
  have B5 := Lib.hid (B4.out.trans (b.mono (Nat.le_of_lt L4.out)))
  clear b
  go_wp2
  go_ret
  exact ⟨rfl, B5.out⟩
end Go.Proofs.Ytligafgbknlofaa
