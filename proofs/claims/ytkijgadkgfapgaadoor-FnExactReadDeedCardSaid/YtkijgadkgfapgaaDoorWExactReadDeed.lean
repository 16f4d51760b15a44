/-
  THE WALK of the law, whole.
-/
import Derived.Test.YtkijgadkgfapgaaDoorYv
import Derived.Test.YtkijgadkgfapgaaDoorYw
namespace Go.Proofs.YtkijgadkgfapgaaDoor
open Go.ChangeShapes Go.WideShapes Go.ChangeAt Go.RowKit
set_option maxRecDepth 20000 in
set_option maxHeartbeats 4000000 in
theorem fnExactReadDeed_walk (T : ByteArray) (w : World) (hT : Pow w) (hG : 1 < w.heap.size) (m : Int) (hM : w.cell? ⟨2, 0, none⟩ = some (.int .i64 m)) (hM2 : 2 < w.heap.size) :
    Calls Tryd.prog 4 #[.string T] w fun e w' => e = .returned (.bool true) ∧ Below w.heap.size w w' := by
  by_cases hbig : 1048576 < T.size
  · have tb : (1048576 : Int) < (T.size : Int) := by omega
    clear hbig
    go_enter Tryd.func4, Tryd.ntmps4
    go_wp2
    go_ret
    exact ⟨rfl, Below.refl _ _⟩
  have tb : (T.size : Int) ≤ 1048576 := by omega
  have SC := Lib.hid (sReadDeed_any T)
  have IC := Lib.hid (fun w h1 h2 m h3 h4 => iReadDeed_any T (by omega) w h1 h2 m h3 h4)
  obtain ⟨k, a, b, c, hf⟩ := rdV_form T 9 1
  rw [hf] at SC IC
  have EQ := Lib.hid (eqDeed_any k a b)
  have HT := Lib.hid hT
  have HG := Lib.hid hG
  have HM := Lib.hid hM
  have HM2 := Lib.hid hM2
  clear hT hG hM hM2 hf hbig
  have GS : Hid ((D3 k a b).size = 3) := Lib.hid rfl
  have G1 : Hid ((D3 k a b).all (·.oneCell') = true) := Lib.hid (row3_oneD _ _ _)
  generalize D3 k a b = A at SC IC EQ GS G1
  go_enter Tryd.func4, Tryd.ntmps4
  go_wp2_with fail
  refine (SC.out _).mono ?_
  rintro e w1 ⟨rfl, b⟩
  have B1 := Lib.hid b
  clear b
  obtain ⟨w2, hw2⟩ : ∃ x, w1.alloc (.cells #[Value.int .i64 0, Value.int .i64 0, Value.int .i64 0] 25) = x := ⟨_, rfl⟩
  have T2 : Hid (w2.heap[w1.heap.size]? = some (.cells #[Value.int .i64 0, Value.int .i64 0, Value.int .i64 0] 25 (0, 0))) := Lib.hid (by rw [← hw2]; exact World.alloc_heap_new w1 _)
  obtain ⟨w3, hw3⟩ : ∃ x, w2.setRow w1.heap.size A = x := ⟨_, rfl⟩
  have R3 : Hid (w3.heap[w1.heap.size]? = some (.cells A 25 (0, 0))) := Lib.hid (by rw [← hw3]; exact setRow_heap _ _ _ _ _ _ T2.out)
  have C3 : Hid (Below w1.heap.size w1 w3) := Lib.hid (by rw [← hw3, ← hw2]; exact below_setRow ((Below.refl _ _).alloc (Nat.le_refl _) _) (Nat.le_refl _) _)
  have B3 := Lib.hid (B1.out.trans (C3.out.mono B1.out.size))
  have L3 : Hid (w1.heap.size < w3.heap.size) := Lib.hid (Array.getElem?_eq_some_iff.1 R3.out).1
  go_wp2_with (refine wpList_store_row rfl 25 _ _ rfl w1.heap.size A rfl rfl 25 _ T2.out (deed_info _ GS.out) (by rw [GS.out]; rfl) G1.out ?_; rw [hw3])
  clear hw2 hw3 T2
  refine (IC.out _ (HT.out.below B3.out HG.out) (Nat.lt_of_lt_of_le HG.out B3.out.size) m ((Below.cell B3.out HM2.out).trans HM.out) (Nat.lt_of_lt_of_le HM2.out B3.out.size)).mono ?_
  rintro e w4 ⟨rfl, b⟩
  have R4 := Lib.hid (far_row b R3.out)
  have B4 := Lib.hid (B3.out.trans (b.mono B3.out.size))
  have L4 : Hid (w1.heap.size < w4.heap.size) := Lib.hid (Array.getElem?_eq_some_iff.1 R4.out).1
  clear b R3
  obtain ⟨w5, hw5⟩ : ∃ x, w4.alloc (.cells #[Value.int .i64 0, Value.int .i64 0, Value.int .i64 0] 25) = x := ⟨_, rfl⟩
  have T5 : Hid (w5.heap[w4.heap.size]? = some (.cells #[Value.int .i64 0, Value.int .i64 0, Value.int .i64 0] 25 (0, 0))) := Lib.hid (by rw [← hw5]; exact World.alloc_heap_new w4 _)
  obtain ⟨w6, hw6⟩ : ∃ x, w5.setRow w4.heap.size A = x := ⟨_, rfl⟩
  have R6 : Hid (w6.heap[w4.heap.size]? = some (.cells A 25 (0, 0))) := Lib.hid (by rw [← hw6]; exact setRow_heap _ _ _ _ _ _ T5.out)
  have C6 : Hid (Below w4.heap.size w4 w6) := Lib.hid (by rw [← hw6, ← hw5]; exact below_setRow ((Below.refl _ _).alloc (Nat.le_refl _) _) (Nat.le_refl _) _)
  have B6 := Lib.hid (B4.out.trans (C6.out.mono B4.out.size))
  have Q6 := Lib.hid (far_row C6.out R4.out)
  go_wp2_with (first | (refine wpList_store_row rfl 25 _ _ rfl w4.heap.size A rfl rfl 25 _ T5.out (deed_info _ GS.out) (by rw [GS.out]; rfl) G1.out ?_; rw [hw6]) | (refine wpList_load_row rfl 25 _ rfl w4.heap.size rfl 25 _ _ _ R6.out Tryd.underlying25 rfl (deed_info _ GS.out) ?_) | (refine wpList_load_row rfl 25 _ rfl w1.heap.size rfl 25 _ _ _ Q6.out Tryd.underlying25 rfl (deed_info _ GS.out) ?_))
  refine (EQ.out _).mono ?_
  rintro e w7 ⟨rfl, b⟩
  have B7 := Lib.hid (B6.out.trans (b.mono B6.out.size))
  clear b hw5 hw6
  go_wp2
  go_ret
  exact ⟨rfl, B7.out⟩
end Go.Proofs.YtkijgadkgfapgaaDoor
