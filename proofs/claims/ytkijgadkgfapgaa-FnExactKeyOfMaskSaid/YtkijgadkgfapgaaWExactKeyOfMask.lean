/-
  THE WALK of the law, whole.
-/
import Derived.Test.YtkijgadkgfapgaaYc
import Derived.Test.YtkijgadkgfapgaaYd
namespace Go.Proofs.Ytkijgadkgfapgaa
open Go.ChangeShapes Go.WideShapes Go.ChangeAt Go.RowKit
set_option maxRecDepth 20000 in
set_option maxHeartbeats 4000000 in
theorem fnExactKeyOfMask_walk (f : Nat → Int) (hf : ∀ i, i < 16 → (Lit.int .u16 (f i)).wf = true) (w : World) :
    Calls Try.prog 3 #[.agg (M16 f)] w fun e w' => e = .returned (.bool true) ∧ Below w.heap.size w w' := by
  have TO := Lib.hid (toMask_any f)
  have SC := Lib.hid (sKey_any f (MB.of_wf hf))
  have IC := Lib.hid (iKey_any f (MB.of_wf hf))
  have EQ := Lib.hid (eqKey_any (keyM f) (keyM f) rfl)
  generalize keyM f = m at SC IC EQ
  clear hf
  obtain ⟨w1, hw1⟩ : ∃ w1, w.alloc (.cells (M16 f) 23) = w1 := ⟨_, rfl⟩
  have B1 : Hid (Below w.heap.size w w1) := Lib.hid (by rw [← hw1]; exact (Below.refl _ _).alloc (Nat.le_refl _) _)
  have A1 : Hid (w1.heap[w.heap.size]? = some (.cells (M16 f) 23 (0, 0))) := Lib.hid (by rw [← hw1]; exact World.alloc_heap_new w _)
  have LA1 : Hid (w.heap.size < w1.heap.size) := Lib.hid (by rw [← hw1]; simp)
  go_enter Try.func3, Try.ntmps3
  go_wp2_with (refine wpList_load_row rfl 23 _ rfl w.heap.size rfl 23 _ _ _ A1.out Try.underlying23 rfl (a16_info _ (arr_size _ _ _)) ?_)
  refine Calls.mono (TO.out _) ?_
  rintro e w2 ⟨rfl, b⟩
  have A2 := Lib.hid ((b.block w.heap.size LA1.out).trans A1.out)
  have LA2 : Hid (w.heap.size < w2.heap.size) := Lib.hid (Nat.lt_of_lt_of_le LA1.out b.size)
  have B2 := Lib.hid (B1.out.trans (b.mono (Nat.le_of_lt LA1.out)))
  clear b
  clear hw1
  go_wp2_with fail
  refine Calls.mono (SC.out _) ?_
  rintro e w3 ⟨rfl, b⟩
  have A3 := Lib.hid ((b.block w.heap.size LA2.out).trans A2.out)
  have LA3 : Hid (w.heap.size < w3.heap.size) := Lib.hid (Nat.lt_of_lt_of_le LA2.out b.size)
  have B3 := Lib.hid (B2.out.trans (b.mono (Nat.le_of_lt LA2.out)))
  clear b
  obtain ⟨w4, hw4⟩ : ∃ x, w3.alloc (.cells #[Value.int .u8 0, Value.int .u8 0, Value.int .u8 0, Value.int .u8 0, Value.int .u8 0, Value.int .u8 0, Value.int .u8 0, Value.int .u8 0, Value.int .u8 0, Value.int .u8 0, Value.int .u8 0, Value.int .u8 0, Value.int .u8 0, Value.int .u8 0, Value.int .u8 0, Value.int .u8 0] 25) = x := ⟨_, rfl⟩
  have T4 : Hid (w4.heap[w3.heap.size]? = some (.cells #[Value.int .u8 0, Value.int .u8 0, Value.int .u8 0, Value.int .u8 0, Value.int .u8 0, Value.int .u8 0, Value.int .u8 0, Value.int .u8 0, Value.int .u8 0, Value.int .u8 0, Value.int .u8 0, Value.int .u8 0, Value.int .u8 0, Value.int .u8 0, Value.int .u8 0, Value.int .u8 0] 25 (0, 0))) := Lib.hid (by rw [← hw4]; exact World.alloc_heap_new w3 _)
  obtain ⟨w5, hw5⟩ : ∃ x, w4.setRow w3.heap.size (Q16 m) = x := ⟨_, rfl⟩
  have b : Below w3.heap.size w3 w5 := by rw [← hw5, ← hw4]; exact below_setRow ((Below.refl _ _).alloc (Nat.le_refl _) _) (Nat.le_refl _) _
  have S5 : Hid (w5.heap[w3.heap.size]? = some (.cells (Q16 m) 25 (0, 0))) := Lib.hid (by rw [← hw5]; exact setRow_heap _ _ _ _ _ _ T4.out)
  have LS5 : Hid (w3.heap.size < w5.heap.size) := Lib.hid (Array.getElem?_eq_some_iff.1 S5.out).1
  have A5 := Lib.hid ((b.block w.heap.size LA3.out).trans A3.out)
  have LA5 : Hid (w.heap.size < w5.heap.size) := Lib.hid (Nat.lt_of_lt_of_le LA3.out b.size)
  have B5 := Lib.hid (B3.out.trans (b.mono (Nat.le_of_lt LA3.out)))
  clear b
  go_wp2_with (first | (refine wpList_store_row rfl 25 _ _ rfl w3.heap.size (Q16 m) rfl rfl 25 _ T4.out (ky_info _ rfl) rfl (arr_cells _ _ _) ?_; rw [hw5]) | (refine wpList_load_row rfl 23 _ rfl w.heap.size rfl 23 _ _ _ A5.out Try.underlying23 rfl (a16_info _ (arr_size _ _ _)) ?_))
  refine Calls.mono (TO.out _) ?_
  rintro e w6 ⟨rfl, b⟩
  have A6 := Lib.hid ((b.block w.heap.size LA5.out).trans A5.out)
  have S6 := Lib.hid ((b.block w3.heap.size LS5.out).trans S5.out)
  have LA6 : Hid (w.heap.size < w6.heap.size) := Lib.hid (Nat.lt_of_lt_of_le LA5.out b.size)
  have LS6 : Hid (w3.heap.size < w6.heap.size) := Lib.hid (Nat.lt_of_lt_of_le LS5.out b.size)
  have B6 := Lib.hid (B5.out.trans (b.mono (Nat.le_of_lt LA5.out)))
  clear b
  go_wp2_with fail
  refine Calls.mono (IC.out _) ?_
  rintro e w7 ⟨rfl, b⟩
  have A7 := Lib.hid ((b.block w.heap.size LA6.out).trans A6.out)
  have S7 := Lib.hid ((b.block w3.heap.size LS6.out).trans S6.out)
  have LA7 : Hid (w.heap.size < w7.heap.size) := Lib.hid (Nat.lt_of_lt_of_le LA6.out b.size)
  have LS7 : Hid (w3.heap.size < w7.heap.size) := Lib.hid (Nat.lt_of_lt_of_le LS6.out b.size)
  have B7 := Lib.hid (B6.out.trans (b.mono (Nat.le_of_lt LA6.out)))
  clear b
  obtain ⟨w8, hw8⟩ : ∃ x, w7.alloc (.cells #[Value.int .u8 0, Value.int .u8 0, Value.int .u8 0, Value.int .u8 0, Value.int .u8 0, Value.int .u8 0, Value.int .u8 0, Value.int .u8 0, Value.int .u8 0, Value.int .u8 0, Value.int .u8 0, Value.int .u8 0, Value.int .u8 0, Value.int .u8 0, Value.int .u8 0, Value.int .u8 0] 25) = x := ⟨_, rfl⟩
  have T8 : Hid (w8.heap[w7.heap.size]? = some (.cells #[Value.int .u8 0, Value.int .u8 0, Value.int .u8 0, Value.int .u8 0, Value.int .u8 0, Value.int .u8 0, Value.int .u8 0, Value.int .u8 0, Value.int .u8 0, Value.int .u8 0, Value.int .u8 0, Value.int .u8 0, Value.int .u8 0, Value.int .u8 0, Value.int .u8 0, Value.int .u8 0] 25 (0, 0))) := Lib.hid (by rw [← hw8]; exact World.alloc_heap_new w7 _)
  obtain ⟨w9, hw9⟩ : ∃ x, w8.setRow w7.heap.size (Q16 m) = x := ⟨_, rfl⟩
  have b : Below w7.heap.size w7 w9 := by rw [← hw9, ← hw8]; exact below_setRow ((Below.refl _ _).alloc (Nat.le_refl _) _) (Nat.le_refl _) _
  have I9 : Hid (w9.heap[w7.heap.size]? = some (.cells (Q16 m) 25 (0, 0))) := Lib.hid (by rw [← hw9]; exact setRow_heap _ _ _ _ _ _ T8.out)
  have LI9 : Hid (w7.heap.size < w9.heap.size) := Lib.hid (Array.getElem?_eq_some_iff.1 I9.out).1
  have A9 := Lib.hid ((b.block w.heap.size LA7.out).trans A7.out)
  have LA9 : Hid (w.heap.size < w9.heap.size) := Lib.hid (Nat.lt_of_lt_of_le LA7.out b.size)
  have S9 := Lib.hid ((b.block w3.heap.size LS7.out).trans S7.out)
  have LS9 : Hid (w3.heap.size < w9.heap.size) := Lib.hid (Nat.lt_of_lt_of_le LS7.out b.size)
  have B9 := Lib.hid (B7.out.trans (b.mono (Nat.le_of_lt LA7.out)))
  clear b
  go_wp2_with (first | (refine wpList_store_row rfl 25 _ _ rfl w7.heap.size (Q16 m) rfl rfl 25 _ T8.out (ky_info _ rfl) rfl (arr_cells _ _ _) ?_; rw [hw9]) | (refine wpList_load_row rfl 25 _ rfl w3.heap.size rfl 25 _ _ _ S9.out Try.underlying25 rfl (ky_info _ (arr_size _ _ _)) ?_) | (refine wpList_load_row rfl 25 _ rfl w7.heap.size rfl 25 _ _ _ I9.out Try.underlying25 rfl (ky_info _ (arr_size _ _ _)) ?_))
  refine Calls.mono (EQ.out _) ?_
  rintro e w10 ⟨rfl, b⟩
  have A10 := Lib.hid ((b.block w.heap.size LA9.out).trans A9.out)
  have S10 := Lib.hid ((b.block w3.heap.size LS9.out).trans S9.out)
  have I10 := Lib.hid ((b.block w7.heap.size LI9.out).trans I9.out)
  have LA10 : Hid (w.heap.size < w10.heap.size) := Lib.hid (Nat.lt_of_lt_of_le LA9.out b.size)
  have LS10 : Hid (w3.heap.size < w10.heap.size) := Lib.hid (Nat.lt_of_lt_of_le LS9.out b.size)
  have LI10 : Hid (w7.heap.size < w10.heap.size) := Lib.hid (Nat.lt_of_lt_of_le LI9.out b.size)
  have B10 := Lib.hid (B9.out.trans (b.mono (Nat.le_of_lt LA9.out)))
  clear b
  go_wp2
  go_ret
  exact ⟨rfl, B10.out⟩
end Go.Proofs.Ytkijgadkgfapgaa
