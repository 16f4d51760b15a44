/-
  CONTRACTS: the specification's counts of reduced words.
-/
import Derived.Test.YthcbejabpblacaaWdi
import Derived.LoopTactic
import Derived.Lib.Hide
namespace Go.Proofs.Ythcbejabpblacaa
open Go.ChangeShapes Go.WideShapes Go.ChangeAt Go.RowKit
/-- the number of reduced words of a length behind a letter, or, if there is none, of all -/
def ways (g : Int) (b : Bool) : Nat → Int
  | 0 => 1
  | k + 1 => if k = 0 ∧ b = false then ways g b k * 2 * g else ways g b k * (2 * g - 1)
theorem ways_pos {g : Int} (h1 : 1 ≤ g) (h2 : g ≤ 4) (b : Bool) (k : Nat) : 1 ≤ ways g b k ∧ ways g b k ≤ 8 ^ k := by
  induction k with
  | zero => simp [ways]
  | succ k ih =>
    have e : (8 : Int) ^ (k + 1) = 8 ^ k * 8 := by rw [Int.pow_succ]
    rw [e]
    unfold ways
    obtain ⟨i1, i2⟩ := ih
    generalize (8 : Int) ^ k = P at i2 ⊢
    generalize ways g b k = x at i1 i2 ⊢
    have hg : g = 1 ∨ g = 2 ∨ g = 3 ∨ g = 4 := by omega
    split <;> (rcases hg with rfl | rfl | rfl | rfl <;> omega)
theorem ways_le {g : Int} (h1 : 1 ≤ g) (h2 : g ≤ 4) (b : Bool) {k : Nat} (hk : k ≤ 12) : 1 ≤ ways g b k ∧ ways g b k ≤ 68719476736 := by
  obtain ⟨a, c⟩ := ways_pos h1 h2 b k
  refine ⟨a, Int.le_trans c ?_⟩
  have : (8 : Nat) ^ k ≤ 8 ^ 12 := Nat.pow_le_pow_right (by decide) hk
  have h3 : ((8 ^ k : Nat) : Int) ≤ ((8 ^ 12 : Nat) : Int) := by exact_mod_cast this
  have h4 : ((8 ^ k : Nat) : Int) = (8 : Int) ^ k := by simp
  rw [h4] at h3
  exact h3
end Go.Proofs.Ythcbejabpblacaa
