/-
  CellsOf, as the law looks at it.
-/
import Derived.Test.YtandgjjfiniboaaCs
import Derived.Test.YtandgjjfiniboaaPp
namespace Go.Proofs.Ytandgjjfiniboaa
open Go.ChangeShapes Go.WideShapes Go.ChangeAt Go.RowKit
def NCellsOf (f : Nat → Int) : Nat := (cellL f).length
def GCellsOf (f : Nat → Int) : Nat → Value := listF (cellsV (cellL f))
theorem CellsOf_len (f : Nat → Int) : NCellsOf f ≤ 1000000 := Nat.le_trans (cellK_len f 256) (by omega)
theorem cellsV_pair (l : List Cl) : PairF l.length (listF (cellsV l)) := by
  induction l with
  | nil => intro j hj; simp at hj
  | cons c r ih =>
    intro j hj
    have e : cellsV (c :: r) = .int .i32 (c.1.1 : Int) :: .int .i32 (c.1.2 : Int) :: cellsV r := rfl
    match j with
    | 0 => exact ⟨_, rfl⟩
    | 1 => exact ⟨_, rfl⟩
    | k + 2 =>
      obtain ⟨x, hx⟩ := ih k (by simp at hj; omega)
      refine ⟨x, ?_⟩
      rw [e]
      exact hx
theorem CellsOf_pair (f : Nat → Int) : PairF (NCellsOf f) (GCellsOf f) := cellsV_pair _
theorem sCellsOf_pr (f : Nat → Int) (hf : MB f) (w : World) : Calls Try.prog 21 #[.agg (M16 f)] w fun e w' => ∃ v, e = .returned v ∧ PR 2 w.heap.size w'.heap.size w' v (NCellsOf f) (GCellsOf f) ∧ Below w.heap.size w w' :=
  (scellsOf_any f hf w).mono fun _ _ ⟨v, h1, h2, h3⟩ => ⟨v, h1, PR.of_own h2, h3⟩
theorem iCellsOf_pr (f : Nat → Int) (hf : MB f) (w : World) : Calls Try.prog 23 #[.agg (M16 f)] w fun e w' => ∃ v, e = .returned v ∧ PR 2 w.heap.size w'.heap.size w' v (NCellsOf f) (GCellsOf f) ∧ Below w.heap.size w w' :=
  (callsIn_wide.1 (icellsOf_in Fence.wide rfl 3 (Nat.le_refl _) f hf w)).mono fun _ _ ⟨v, h1, h2, h3⟩ => ⟨v, h1, PR.of_own h2, h3⟩
end Go.Proofs.Ytandgjjfiniboaa
