/-
  CONTRACTS: deeds compared by the law.
-/
import Derived.Test.YtkijgadkgfapgaaDoorYt
namespace Go.Proofs.YtkijgadkgfapgaaDoor
open Go.ChangeShapes Go.WideShapes Go.ChangeAt Go.RowKit
theorem rdV_form (T : ByteArray) : ∀ (n : Nat) (k : Int), ∃ k' a b c : Int, rdV T k n = .tuple #[.agg (D3 k' a b), .int .i64 c]
  | 0, k => ⟨0, 0, 0, 5, rfl⟩
  | n + 1, k => by
    rw [rdV]
    cases rdA T k with
    | none => exact rdV_form T n (k + 1)
    | some p => exact ⟨k, p.1, p.2, 0, rfl⟩
set_option maxRecDepth 20000 in
set_option maxHeartbeats 4000000 in
theorem eqDeed_any (k a b : Int) (w : World) :
    Calls Tryd.prog 11 #[.agg (D3 k a b), .agg (D3 k a b)] w fun e w' => e = .returned (.bool true) ∧ Below w.heap.size w w' := by
  obtain ⟨w1, hw1⟩ : ∃ x, (w.alloc (.cells (D3 k a b) 25)).alloc (.cells (D3 k a b) 25) = x := ⟨_, rfl⟩
  have R0 : Hid (w1.heap[w.heap.size]? = some (.cells (D3 k a b) 25 (0, 0))) := Lib.hid (by rw [← hw1]; exact (Below.heap_alloc _ _ _ (by simp)).trans (World.alloc_heap_new w _))
  have R1 : Hid (w1.heap[w.heap.size + 1]? = some (.cells (D3 k a b) 25 (0, 0))) := Lib.hid (by
    rw [← hw1]
    have := World.alloc_heap_new (w.alloc (.cells (D3 k a b) 25)) (.cells (D3 k a b) 25)
    rw [World.size_alloc] at this
    exact this)
  have BB : Hid (Below w.heap.size w w1) := Lib.hid (by rw [← hw1]; exact ((Below.refl _ w).alloc (Nat.le_refl _) _).alloc (by simp) _)
  have c0 : w1.cell? ⟨w.heap.size, 0, none⟩ = some (.int .i64 k) := Lib.cell_of_heap R0.out 0
  have c1 : w1.cell? ⟨w.heap.size, 1, none⟩ = some (.int .i64 a) := Lib.cell_of_heap R0.out 1
  have c2 : w1.cell? ⟨w.heap.size, 2, none⟩ = some (.int .i64 b) := Lib.cell_of_heap R0.out 2
  have d0 : w1.cell? ⟨w.heap.size + 1, 0, none⟩ = some (.int .i64 k) := Lib.cell_of_heap R1.out 0
  have d1 : w1.cell? ⟨w.heap.size + 1, 1, none⟩ = some (.int .i64 a) := Lib.cell_of_heap R1.out 1
  have d2 : w1.cell? ⟨w.heap.size + 1, 2, none⟩ = some (.int .i64 b) := Lib.cell_of_heap R1.out 2
  go_enter Tryd.func11, Tryd.ntmps11
  go_wp2
  go_ret
  exact ⟨rfl, BB.out⟩
end Go.Proofs.YtkijgadkgfapgaaDoor
