/-
  THE WALK of the law, whole.
-/
import Derived.Test.YtkijgadkgfapgaaDoorYr
namespace Go.Proofs.YtkijgadkgfapgaaDoor
open Go.ChangeShapes Go.WideShapes Go.ChangeAt Go.RowKit
set_option maxRecDepth 20000 in
set_option maxHeartbeats 4000000 in
theorem fnExactDeedText_walk (k a b : Int) (w : World) (hT : Pow w) (hG : 1 < w.heap.size) :
    Calls Tryd.prog 3 #[.agg (D3 k a b)] w fun e w' => e = .returned (.bool true) ∧ Below w.heap.size w w' := by
  have TO := Lib.hid (toDeed_any k a b)
  have SC := Lib.hid (sDeedText_any k a b)
  have IC := Lib.hid (fun w h g => iDeedText_any k a b w h g)
  generalize dtT k a b = r at SC IC
  have HT := Lib.hid hT
  have HG := Lib.hid hG
  clear hT hG
  have GS : Hid ((D3 k a b).size = 3) := Lib.hid rfl
  have DI : Hid ((D3 k a b) = #[.int .i64 k, .int .i64 a, .int .i64 b]) := Lib.hid rfl
  generalize D3 k a b = A at TO SC IC GS ⊢
  obtain ⟨w1, hw1⟩ : ∃ w1, w.alloc (.cells A 23) = w1 := ⟨_, rfl⟩
  have B1 : Hid (Below w.heap.size w w1) := Lib.hid (by rw [← hw1]; exact (Below.refl _ _).alloc (Nat.le_refl _) _)
  have A1 : Hid (w1.heap[w.heap.size]? = some (.cells A 23 (0, 0))) := Lib.hid (by rw [← hw1]; exact World.alloc_heap_new w _)
  have L1 : Hid (w.heap.size < w1.heap.size) := Lib.hid (by rw [← hw1]; simp)
  go_enter Tryd.func3, Tryd.ntmps3
  go_wp2_with (refine wpList_load_row rfl 23 _ rfl w.heap.size rfl 23 _ _ _ A1.out Tryd.underlying23 rfl (ldeed_info _ GS.out) ?_)
  clear hw1
  refine Calls.mono (TO.out _) ?_
  rintro e w2 ⟨rfl, b⟩
  have A2 := Lib.hid ((b.block w.heap.size L1.out).trans A1.out)
  have L2 : Hid (w.heap.size < w2.heap.size) := Lib.hid (Nat.lt_of_lt_of_le L1.out b.size)
  have B2 := Lib.hid (B1.out.trans (b.mono (Nat.le_of_lt L1.out)))
  clear b
  go_wp2_with fail
  refine Calls.mono (SC.out _) ?_
  rintro e w3 ⟨rfl, b⟩
  have A3 := Lib.hid ((b.block w.heap.size L2.out).trans A2.out)
  have L3 : Hid (w.heap.size < w3.heap.size) := Lib.hid (Nat.lt_of_lt_of_le L2.out b.size)
  have B3 := Lib.hid (B2.out.trans (b.mono (Nat.le_of_lt L2.out)))
  clear b
  go_wp2_with (refine wpList_load_row rfl 23 _ rfl w.heap.size rfl 23 _ _ _ A3.out Tryd.underlying23 rfl (ldeed_info _ GS.out) ?_)
  refine Calls.mono (TO.out _) ?_
  rintro e w4 ⟨rfl, b⟩
  have L4 : Hid (w.heap.size < w4.heap.size) := Lib.hid (Nat.lt_of_lt_of_le L3.out b.size)
  have B4 := Lib.hid (B3.out.trans (b.mono (Nat.le_of_lt L3.out)))
  clear b
  go_wp2_with fail
  refine Calls.mono (IC.out _ (HT.out.below B4.out HG.out) (Nat.lt_of_lt_of_le HG.out B4.out.size)) ?_
  rintro e w5 ⟨rfl, b⟩
  have B5 := Lib.hid (B4.out.trans (b.mono (Nat.le_of_lt L4.out)))
  clear b
  go_wp2
  go_ret
  exact ⟨rfl, B5.out⟩
end Go.Proofs.YtkijgadkgfapgaaDoor
