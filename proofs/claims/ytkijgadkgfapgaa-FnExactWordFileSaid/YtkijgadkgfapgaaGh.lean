/-
  CONTRACTS: BytesOfFrames of both sides.
-/
import Derived.Test.YtkijgadkgfapgaaGg
namespace Go.Proofs.Ytkijgadkgfapgaa
open Go.ChangeShapes Go.WideShapes Go.ChangeAt Go.RowKit
def boC (n : Nat) : Int := if 700 < n then 3 else 0
def boN (n : Nat) : Nat := if 700 < n then 0 else 16 * n
theorem boN_le (n : Nat) : boN n ≤ 1048576 := by unfold boN; split <;> omega
theorem OwnU.made (q : Nat → Int) (w : World) (base : Nat) (hb : base ≤ w.heap.size) : OwnU base (.slice (some ⟨w.heap.size, 0, none⟩) 0 0) 0 q (w.alloc (.cells #[] 5)) :=
  ⟨rfl, .inr ⟨w.heap.size, 0, #[], rfl, hb, heap_alloc_new w _, Nat.le_refl _, Nat.zero_le _, rfl, rfl⟩⟩
end Go.Proofs.Ytkijgadkgfapgaa
