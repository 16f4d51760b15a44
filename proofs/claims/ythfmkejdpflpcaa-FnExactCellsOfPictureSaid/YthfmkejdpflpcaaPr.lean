/-
  ROWS OF CELLS BETWEEN TWO BLOCKS (no program in sight): what a slice that a call has made holds, and that later calls leave it.
-/
import Derived.WalkKit
import Derived.ProofKit
import Derived.OpenShut
import Derived.WalkLawsBesides
import Derived.ChangeShapes
import Derived.OwnWalk
import Derived.Below
import Derived.Deep.OwnRows
import Derived.Lib.Hide
namespace Go.Proofs.Ythfmkejdpflpcaa
open Go.ChangeShapes Go.WideShapes Go.ChangeAt Go.RowKit
/-- v is a slice of n elements of s cells each that hold f; its block lies from lo on and below hi -/
def PR (s lo hi : Nat) (w : World) (v : Value) (n : Nat) (f : Nat → Value) : Prop :=
  ∃ a cap, v = .slice a n cap ∧ (n = 0 ∨ ∃ g, a = some ⟨g, 0, none⟩ ∧ lo ≤ g ∧ g < hi ∧ hi ≤ w.heap.size ∧ (∀ j, j < n * s → w.cell? ⟨g, j, none⟩ = some (f j)) ∧ ∀ j, j < n * s → w.frozen? ⟨g, j, none⟩ = false)
theorem PR.below {s lo hi B : Nat} {w w' : World} {v : Value} {n : Nat} {f : Nat → Value} (hb : Below B w w') (hB : hi ≤ B) (h : PR s lo hi w v n f) : PR s lo hi w' v n f := by
  obtain ⟨a, cap, rfl, h0 | ⟨g, rfl, h1, h2, h3, h4, h5⟩⟩ := h
  · exact ⟨a, cap, rfl, .inl h0⟩
  · refine ⟨_, cap, rfl, .inr ⟨g, rfl, h1, h2, Nat.le_trans h3 hb.size, fun j hj => ?_, fun j hj => ?_⟩⟩
    · rw [hb.cell (p := ⟨g, j, none⟩) (Nat.lt_of_lt_of_le h2 hB)]; exact h4 j hj
    · rw [hb.frozen (p := ⟨g, j, none⟩) (Nat.lt_of_lt_of_le h2 hB)]; exact h5 j hj
/-- as a list of cells tells it -/
def listF (xs : List Value) (j : Nat) : Value := xs[j]?.getD undef
theorem PR.of_own {s lo : Nat} {w : World} {e : TypeId} {v : Value} {n : Nat} {xs : List Value} (h : w.ownsRow lo e s v n xs) : PR s lo w.heap.size w v n (listF xs) := by
  have hl := h.1
  rcases h.2 with ⟨rfl, h0⟩ | ⟨g, cap, cur, rfl, hb, hg, _⟩
  · exact ⟨none, 0, by rw [h0], .inl h0⟩
  · refine ⟨_, cap, rfl, .inr ⟨g, rfl, hb, (h.lt g rfl).2, Nat.le_refl _, fun j hj => ?_, fun j _ => h.frozenAt j⟩⟩
    rw [h.cellAt j hj]
    unfold listF
    rw [List.getElem?_eq_getElem (by omega)]
    rfl
end Go.Proofs.Ythfmkejdpflpcaa
