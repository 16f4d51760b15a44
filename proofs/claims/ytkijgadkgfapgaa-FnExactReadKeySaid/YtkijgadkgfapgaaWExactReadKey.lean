/-
  THE WALK of the law, whole.
-/
import Derived.Test.YtkijgadkgfapgaaYg
namespace Go.Proofs.Ytkijgadkgfapgaa
open Go.ChangeShapes Go.WideShapes Go.ChangeAt Go.RowKit
set_option maxRecDepth 20000 in
set_option maxHeartbeats 4000000 in
theorem fnExactReadKey_walk (t : ByteArray) {p0 : Prop} (_ : p0) (w : World) :
    Calls Try.prog 5 #[.string t] w fun e w' => e = .returned (.bool true) ∧ Below w.heap.size w w' := by
  by_cases hl : t.size ≤ 1048576
  · have hl' : (t.size : Int) ≤ 1048576 := by omega
    have SC := Lib.hid (sRead_any t hl)
    have IC := Lib.hid (iRead_any t hl)
    have EQ := Lib.hid (eqKey_any (rkF t) (rkF t) rfl)
    generalize rkF t = m at SC IC EQ
    generalize rkC t = c at SC IC
    clear hl
    go_enter Try.func5, Try.ntmps5
    go_wp2_with fail
    refine Calls.mono (SC.out _) ?_
    rintro e w2 ⟨rfl, b⟩
    have B2 := Lib.hid b
    clear b
    obtain ⟨w3, hw3⟩ : ∃ x, w2.alloc (.cells #[Value.int .u8 0, Value.int .u8 0, Value.int .u8 0, Value.int .u8 0, Value.int .u8 0, Value.int .u8 0, Value.int .u8 0, Value.int .u8 0, Value.int .u8 0, Value.int .u8 0, Value.int .u8 0, Value.int .u8 0, Value.int .u8 0, Value.int .u8 0, Value.int .u8 0, Value.int .u8 0] 25) = x := ⟨_, rfl⟩
    have T3 : Hid (w3.heap[w2.heap.size]? = some (.cells #[Value.int .u8 0, Value.int .u8 0, Value.int .u8 0, Value.int .u8 0, Value.int .u8 0, Value.int .u8 0, Value.int .u8 0, Value.int .u8 0, Value.int .u8 0, Value.int .u8 0, Value.int .u8 0, Value.int .u8 0, Value.int .u8 0, Value.int .u8 0, Value.int .u8 0, Value.int .u8 0] 25 (0, 0))) := Lib.hid (by rw [← hw3]; exact World.alloc_heap_new w2 _)
    obtain ⟨w4, hw4⟩ : ∃ x, w3.setRow w2.heap.size (Q16 m) = x := ⟨_, rfl⟩
    have B4 : Hid (Below w.heap.size w w4) := Lib.hid (by rw [← hw4, ← hw3]; exact below_setRow (B2.out.alloc B2.out.size _) B2.out.size _)
    have S4 : Hid (w4.heap[w2.heap.size]? = some (.cells (Q16 m) 25 (0, 0))) := Lib.hid (by rw [← hw4]; exact setRow_heap _ _ _ _ _ _ T3.out)
    have L4 : Hid (w2.heap.size < w4.heap.size) := Lib.hid (Array.getElem?_eq_some_iff.1 S4.out).1
    go_wp2_with (refine wpList_store_row rfl 25 _ _ rfl w2.heap.size (Q16 m) rfl rfl 25 _ T3.out (ky_info _ rfl) rfl (arr_cells _ _ _) ?_; rw [hw4])
    clear hw3 hw4
    refine Calls.mono (IC.out _) ?_
    rintro e w5 ⟨rfl, b⟩
    have S5 := Lib.hid ((b.block w2.heap.size L4.out).trans S4.out)
    have L5 : Hid (w2.heap.size < w5.heap.size) := Lib.hid (Nat.lt_of_lt_of_le L4.out b.size)
    have B5 := Lib.hid (B4.out.trans (b.mono B4.out.size))
    clear b
    obtain ⟨w6, hw6⟩ : ∃ x, w5.alloc (.cells #[Value.int .u8 0, Value.int .u8 0, Value.int .u8 0, Value.int .u8 0, Value.int .u8 0, Value.int .u8 0, Value.int .u8 0, Value.int .u8 0, Value.int .u8 0, Value.int .u8 0, Value.int .u8 0, Value.int .u8 0, Value.int .u8 0, Value.int .u8 0, Value.int .u8 0, Value.int .u8 0] 25) = x := ⟨_, rfl⟩
    have T6 : Hid (w6.heap[w5.heap.size]? = some (.cells #[Value.int .u8 0, Value.int .u8 0, Value.int .u8 0, Value.int .u8 0, Value.int .u8 0, Value.int .u8 0, Value.int .u8 0, Value.int .u8 0, Value.int .u8 0, Value.int .u8 0, Value.int .u8 0, Value.int .u8 0, Value.int .u8 0, Value.int .u8 0, Value.int .u8 0, Value.int .u8 0] 25 (0, 0))) := Lib.hid (by rw [← hw6]; exact World.alloc_heap_new w5 _)
    obtain ⟨w7, hw7⟩ : ∃ x, w6.setRow w5.heap.size (Q16 m) = x := ⟨_, rfl⟩
    have b : Below w5.heap.size w5 w7 := by rw [← hw7, ← hw6]; exact below_setRow ((Below.refl _ _).alloc (Nat.le_refl _) _) (Nat.le_refl _) _
    have G7 : Hid (w7.heap[w5.heap.size]? = some (.cells (Q16 m) 25 (0, 0))) := Lib.hid (by rw [← hw7]; exact setRow_heap _ _ _ _ _ _ T6.out)
    have S7 := Lib.hid ((b.block w2.heap.size L5.out).trans S5.out)
    have B7 := Lib.hid (B5.out.trans (b.mono B5.out.size))
    clear b
    go_wp2_with (first | (refine wpList_store_row rfl 25 _ _ rfl w5.heap.size (Q16 m) rfl rfl 25 _ T6.out (ky_info _ rfl) rfl (arr_cells _ _ _) ?_; rw [hw7]) | (refine wpList_load_row rfl 25 _ rfl w5.heap.size rfl 25 _ _ _ G7.out Try.underlying25 rfl (ky_info _ (arr_size _ _ _)) ?_) | (refine wpList_load_row rfl 25 _ rfl w2.heap.size rfl 25 _ _ _ S7.out Try.underlying25 rfl (ky_info _ (arr_size _ _ _)) ?_))
    clear hw6 hw7
    refine Calls.mono (EQ.out _) ?_
    rintro e w8 ⟨rfl, b⟩
    have B8 := Lib.hid (B7.out.trans (b.mono B7.out.size))
    have e1 : (!(c == c)) = false := by simp
    have e2 : (c == c) = true := by simp
    clear b
    go_wp2
    go_ret
    exact ⟨rfl, B8.out⟩
  · have hl' : 1048576 < (t.size : Int) := by omega
    clear hl
    go_enter Try.func5, Try.ntmps5
    go_wp2
    go_ret
    exact ⟨rfl, Below.refl _ _⟩
end Go.Proofs.Ytkijgadkgfapgaa
