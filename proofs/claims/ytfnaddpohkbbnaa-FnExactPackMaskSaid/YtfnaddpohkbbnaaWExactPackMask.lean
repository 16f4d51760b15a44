/-
  THE WALK of the law, whole.
-/
import Derived.Test.YtfnaddpohkbbnaaPb
namespace Go.Proofs.Ytfnaddpohkbbnaa
open Go.ChangeShapes Go.WideShapes Go.ChangeAt Go.RowKit
set_option maxRecDepth 20000 in
set_option maxHeartbeats 2000000 in
theorem fnExactPackMask_walk (f : Nat → Int) (hw : ∀ i, i < 16 → (Lit.int .u16 (f i)).wf = true) (w : World) :
    Calls Try.prog 4 #[.agg (arr .u16 16 f)] w fun e w' => e = .returned (.bool true) ∧ Below w.heap.size w w' := by
  have hf := MB.of_wf hw
  clear hw
  have h1 := Lib.hid (fun w => sPackMask_pr f hf w)
  have h2 := Lib.hid (fun w => iPackMask_pr f hf w)
  have hp := Lib.hid (PackMask_pair f)
  have hl := Lib.hid (PackMask_len f)
  have ht := Lib.hid (fun w => toMask_any f w)
  generalize NPackMask f = n at h1 h2 hp hl
  generalize GPackMask f = G at h1 h2 hp
  clear hf
  have C0 : Hid ((w.alloc (.cells (M16 f) 23)).heap[w.heap.size]? = some (.cells (M16 f) 23 (0, 0))) := Lib.hid (World.alloc_heap_new w _)
  have B0 : Hid (Below w.heap.size w (w.alloc (.cells (M16 f) 23))) := Lib.hid ((Below.refl _ w).alloc (Nat.le_refl _) _)
  have Z0 : Hid (w.heap.size < (w.alloc (.cells (M16 f) 23)).heap.size) := Lib.hid (by simp)
  go_enter Try.func4, Try.ntmps4
  go_wp2_with (refine wpList_load_row rfl 23 _ rfl w.heap.size rfl 23 _ _ _ C0.out Try.underlying23 rfl (a16_info _ (arr_size _ _ _)) ?_)
  generalize w.alloc (.cells (M16 f) 23) = w0 at C0 B0 Z0 ⊢
  refine (ht.out _).mono ?_
  rintro e w1 ⟨rfl, b1⟩
  have Z1 := Lib.hid (Nat.lt_of_lt_of_le Z0.out b1.size)
  have C1 := Lib.hid ((b1.block w.heap.size Z0.out).trans C0.out)
  have B1 := Lib.hid (B0.out.trans (b1.mono (Nat.le_of_lt Z0.out)))
  clear b1 C0 B0
  go_wp2_with fail
  refine (h1.out _).mono ?_
  rintro e w2 ⟨v0, rfl, r0, b2⟩
  have Z2 := Lib.hid (Nat.lt_of_lt_of_le Z1.out b2.size)
  have C2 := Lib.hid ((b2.block w.heap.size Z1.out).trans C1.out)
  have B2 := Lib.hid (B1.out.trans (b2.mono (Nat.le_of_lt Z1.out)))
  have R2 := Lib.hid r0
  have L0 : Hid (w.heap.size < w1.heap.size) := Z1
  clear b2 C1 B1 r0
  go_wp2_with (refine wpList_load_row rfl 23 _ rfl w.heap.size rfl 23 _ _ _ C2.out Try.underlying23 rfl (a16_info _ (arr_size _ _ _)) ?_)
  refine (ht.out _).mono ?_
  rintro e w3 ⟨rfl, b3⟩
  have Z3 := Lib.hid (Nat.lt_of_lt_of_le Z2.out b3.size)
  have C3 := Lib.hid ((b3.block w.heap.size Z2.out).trans C2.out)
  have B3 := Lib.hid (B2.out.trans (b3.mono (Nat.le_of_lt Z2.out)))
  have R3 := Lib.hid (R2.out.below b3 (Nat.le_refl _))
  have Q3 : Hid (w2.heap.size ≤ w3.heap.size) := Lib.hid b3.size
  clear b3 C2 B2 R2
  go_wp2_with fail
  refine (h2.out _).mono ?_
  rintro e w4 ⟨v1, rfl, r1, b4⟩
  have Z4 := Lib.hid (Nat.lt_of_lt_of_le Z3.out b4.size)
  have C4 := Lib.hid ((b4.block w.heap.size Z3.out).trans C3.out)
  have B4 := Lib.hid (B3.out.trans (b4.mono (Nat.le_of_lt Z3.out)))
  have R4 := Lib.hid (R3.out.below b4 Q3.out)
  have T4 := Lib.hid r1
  have Q4 : Hid (w3.heap.size ≤ w4.heap.size) := Lib.hid b4.size
  clear b4 C3 B3 R3 r1
  go_wp2_with fail
  refine (eqY_any hp.out (fun _ _ => rfl) hl.out T4.out R4.out).mono ?_
  rintro e w5 ⟨rfl, b5⟩
  have Z5 := Lib.hid (Nat.lt_of_lt_of_le Z4.out b5.size)
  have C5 := Lib.hid ((b5.block w.heap.size Z4.out).trans C4.out)
  have B5 := Lib.hid (B4.out.trans (b5.mono (Nat.le_of_lt Z4.out)))
  have R5 := Lib.hid (R4.out.below b5 (Nat.le_trans Q3.out Q4.out))
  have T5 := Lib.hid (T4.out.below b5 (Nat.le_refl _))
  have Q5 : Hid (w4.heap.size ≤ w5.heap.size) := Lib.hid b5.size
  clear b5 C4 B4 R4 T4
  go_wp2_with fail
  refine (markY_any hp.out hl.out T5.out (Nat.le_trans Q4.out Q5.out)).mono ?_
  rintro e w6 ⟨rfl, t6, b6⟩
  have Z6 := Lib.hid (Nat.lt_of_lt_of_le Z5.out b6.size)
  have C6 := Lib.hid ((b6.block w.heap.size Z3.out).trans C5.out)
  have B6 := Lib.hid (B5.out.trans (b6.mono (Nat.le_of_lt Z3.out)))
  have R6 := Lib.hid (R5.out.below b6 Q3.out)
  have T6 := Lib.hid t6
  have Q6 : Hid (w5.heap.size ≤ w6.heap.size) := Lib.hid b6.size
  clear b6 C5 B5 R5 T5 t6
  go_wp2_with fail
  refine (heldY_any hl.out T6.out).mono ?_
  rintro e w7 ⟨rfl, b7⟩
  have Z7 := Lib.hid (Nat.lt_of_lt_of_le Z6.out b7.size)
  have C7 := Lib.hid ((b7.block w.heap.size Z6.out).trans C6.out)
  have B7 := Lib.hid (B6.out.trans (b7.mono (Nat.le_of_lt Z6.out)))
  have R7 := Lib.hid (R6.out.below b7 (by have := Q3.out; have := Q4.out; have := Q5.out; have := Q6.out; omega))
  have T7 := Lib.hid (T6.out.below b7 (by have := Q5.out; have := Q6.out; omega))
  have Q7 : Hid (w6.heap.size ≤ w7.heap.size) := Lib.hid b7.size
  have tn : decide ((((1 + 1 * n : Nat) : Int)) < 0) = false := by simp; omega
  clear b7 C6 B6 R6 T6
  go_wp2_with (refine wpList_load_row rfl 23 _ rfl w.heap.size rfl 23 _ _ _ C7.out Try.underlying23 rfl (a16_info _ (arr_size _ _ _)) ?_)
  refine (ht.out _).mono ?_
  rintro e w8 ⟨rfl, b8⟩
  have Z8 := Lib.hid (Nat.lt_of_lt_of_le Z7.out b8.size)
  have B8 := Lib.hid (B7.out.trans (b8.mono (Nat.le_of_lt Z7.out)))
  have R8 := Lib.hid (R7.out.below b8 (by have := Q3.out; have := Q4.out; have := Q5.out; have := Q6.out; have := Q7.out; omega))
  have T8 := Lib.hid (T7.out.below b8 (by have := Q5.out; have := Q6.out; have := Q7.out; omega))
  have Q8 : Hid (w7.heap.size ≤ w8.heap.size) := Lib.hid b8.size
  clear b8 C7 B7 R7 T7
  go_wp2_with fail
  refine (h2.out _).mono ?_
  rintro e w9 ⟨v2, rfl, r2, b9⟩
  have Z9 := Lib.hid (Nat.lt_of_lt_of_le Z8.out b9.size)
  have B9 := Lib.hid (B8.out.trans (b9.mono (Nat.le_of_lt Z8.out)))
  have R9 := Lib.hid (R8.out.below b9 (by have := Q3.out; have := Q4.out; have := Q5.out; have := Q6.out; have := Q7.out; have := Q8.out; omega))
  have T9 := Lib.hid (T8.out.below b9 (by have := Q5.out; have := Q6.out; have := Q7.out; have := Q8.out; omega))
  have U9 := Lib.hid r2
  have Q9 : Hid (w8.heap.size ≤ w9.heap.size) := Lib.hid b9.size
  clear b9 B8 R8 T8 r2
  go_wp2_with fail
  refine (eqY_any hp.out (fun _ _ => rfl) hl.out U9.out R9.out).mono ?_
  rintro e w10 ⟨rfl, b10⟩
  have B10 := Lib.hid (B9.out.trans (b10.mono (Nat.le_of_lt Z9.out)))
  have T10 := Lib.hid (T9.out.below b10 (by have := Q5.out; have := Q6.out; have := Q7.out; have := Q8.out; have := Q9.out; omega))
  have Z10 := Lib.hid (Nat.lt_of_lt_of_le Z9.out b10.size)
  clear b10 B9 R9 T9 U9
  go_wp2_with fail
  refine (heldY_any hl.out T10.out).mono ?_
  rintro e w11 ⟨rfl, b11⟩
  have B11 := Lib.hid (B10.out.trans (b11.mono (Nat.le_of_lt Z10.out)))
  clear b11 B10 T10
  go_wp2
  go_ret
  exact ⟨rfl, B11.out⟩
end Go.Proofs.Ytfnaddpohkbbnaa
