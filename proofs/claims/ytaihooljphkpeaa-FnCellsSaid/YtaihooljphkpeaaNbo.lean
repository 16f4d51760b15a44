/-
  A ROW OF THE EIGHT CELLS AROUND A CELL, OPENED.
-/
import Derived.Test.YtaihooljphkpeaaNb3
namespace Go.Proofs.Ytaihooljphkpeaa
open Go.ChangeShapes Go.WideShapes Go.ChangeAt Go.RowKit
theorem nbL_get (a b : Int) : ∀ j, j < 16 → ∃ x, (nbL a b)[j]? = some (.int .i32 x) := by
  intro j hj
  match j, hj with
  | 0, _ => exact ⟨_, rfl⟩
  | 1, _ => exact ⟨_, rfl⟩
  | 2, _ => exact ⟨_, rfl⟩
  | 3, _ => exact ⟨_, rfl⟩
  | 4, _ => exact ⟨_, rfl⟩
  | 5, _ => exact ⟨_, rfl⟩
  | 6, _ => exact ⟨_, rfl⟩
  | 7, _ => exact ⟨_, rfl⟩
  | 8, _ => exact ⟨_, rfl⟩
  | 9, _ => exact ⟨_, rfl⟩
  | 10, _ => exact ⟨_, rfl⟩
  | 11, _ => exact ⟨_, rfl⟩
  | 12, _ => exact ⟨_, rfl⟩
  | 13, _ => exact ⟨_, rfl⟩
  | 14, _ => exact ⟨_, rfl⟩
  | 15, _ => exact ⟨_, rfl⟩
  | k + 16, h => exact absurd h (by omega)
def nbF (a b : Int) (j : Nat) : Int := match (nbL a b)[j]? with | some (.int _ x) => x | _ => 0
theorem nbF_get (a b : Int) (j : Nat) (h : j < 16) : (nbL a b)[j]? = some (.int .i32 (nbF a b j)) := by
  obtain ⟨x, hx⟩ := nbL_get a b j h
  unfold nbF; rw [hx]
/-- a row of the eight cells, opened -/
theorem row_open {a b : Int} {base : Nat} {e : Ending} {w : World} (h : RowOf base (nbL a b) 8 e w) : ∃ g cap, e = .returned (.tuple #[.slice (some ⟨g, 0, none⟩) 8 cap, .int .i64 0]) ∧ base ≤ g ∧ g < w.heap.size ∧ (∀ j, j < 2 * 8 → w.cell? ⟨g, j, none⟩ = some (.int .i32 (nbF a b j))) ∧ ∀ j, w.frozen? ⟨g, j, none⟩ = false := by
  obtain ⟨v, he, ho⟩ := h
  rcases ho.2 with ⟨_, h0⟩ | ⟨g, cap, cur, hv, hb, hg, _⟩
  · omega
  · subst hv
    have hlt := (ho.lt g rfl).2
    exact ⟨g, cap, he, hb, hlt, fun j hj => by rw [ho.cellAt j (by omega)]; exact nbF_get a b j (by omega), fun j => ho.frozenAt j⟩
/-- none of them is the cell itself -/
theorem nbF_other (a b : Int) (k : Nat) (hk : k < 8) : nbF a b (2 * k) ≠ a ∨ nbF a b (2 * k + 1) ≠ b := by
  have hc : k = 0 ∨ k = 1 ∨ k = 2 ∨ k = 3 ∨ k = 4 ∨ k = 5 ∨ k = 6 ∨ k = 7 := by omega
  rcases hc with rfl | rfl | rfl | rfl | rfl | rfl | rfl | rfl
  · left; show a - 1 ≠ a; omega
  · left; show a - 1 ≠ a; omega
  · left; show a - 1 ≠ a; omega
  · right; show b - 1 ≠ b; omega
  · right; show b + 1 ≠ b; omega
  · left; show a + 1 ≠ a; omega
  · left; show a + 1 ≠ a; omega
  · left; show a + 1 ≠ a; omega
end Go.Proofs.Ytaihooljphkpeaa
