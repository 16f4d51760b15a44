/-
  SUMS FROM LEFT TO RIGHT: what they are ('none': NaN, whichever), and the two functions that make them.
-/
import Derived.Test.YtgjejolfkfpobaaEq
namespace Go.Proofs.Ytgjejolfkfpobaa
open Go.ChangeShapes Go.WideShapes Go.ChangeAt Go.RowKit Go.Deep
open Fl

theorem word_not_nan (s : Bool) {r : Nat} (h : r ≤ 2139095040) : nan32 (Ieee.single.word s r) = false := by
  unfold nan32
  have e : Ieee.single.word s r % 2147483648 = r := word_mod Ieee.single s (r := r) (by show r < 2147483648; omega)
  rw [e]; simpa using h
theorem write_not_nan (d : Ieee.Datum) (h : d.isNaN = false) : nan32 (Ieee.single.write d) = false := by
  cases d with
  | number s m p =>
    show nan32 (Ieee.single.nearest s m p) = false
    unfold Ieee.Format.nearest
    split
    · exact word_not_nan s (by omega)
    · exact word_not_nan s (Nat.min_le_right _ _)
  | infinity s => exact word_not_nan s (Nat.le_refl 2139095040)
  | nan s t => cases h
theorem sum_not_nan {d e f : Ieee.Datum} (h : Ieee.Datum.sum d e = some f) : f.isNaN = false := by
  unfold Ieee.Datum.sum at h
  split at h
  · cases h
  · cases h
  · split at h <;> cases h; rfl
  · cases h; rfl
  · cases h; rfl
  · cases h; rfl
theorem product_not_nan {d e f : Ieee.Datum} (h : Ieee.Datum.product d e = some f) : f.isNaN = false := by
  unfold Ieee.Datum.product at h
  split at h
  · cases h
  · cases h
  · cases h; rfl
  · split at h <;> cases h; rfl
  · split at h <;> cases h; rfl
  · cases h; rfl
theorem add_not_nan {x b s : Nat} (h : Ieee.single.add x b = some s) : kd s ≠ 4 := by
  unfold Ieee.Format.add at h
  obtain ⟨d, hd, rfl⟩ := Option.map_eq_some_iff.1 h
  have := write_not_nan d (sum_not_nan hd)
  rw [nan_kd] at this
  simpa using this
theorem mul_not_nan {x b s : Nat} (h : Ieee.single.mul x b = some s) : kd s ≠ 4 := by
  unfold Ieee.Format.mul at h
  obtain ⟨d, hd, rfl⟩ := Option.map_eq_some_iff.1 h
  have := write_not_nan d (product_not_nan hd)
  rw [nan_kd] at this
  simpa using this
theorem add_nan {x : Nat} (b : Nat) (h : kd x = 4) : Ieee.single.add x b = none := by
  have h' : nan32 x = true := by rw [nan_kd]; simpa using h
  have h2 : 2139095040 < x % 2147483648 := by simpa [nan32] using h'
  unfold Ieee.Format.add
  rw [read32 x, if_neg (by omega), if_neg (by omega), if_neg (by omega)]; rfl
/-- 'x stands for the sum': its very bits, or NaN -/
def rep (acc : Option Nat) (x : Nat) : Prop := (acc = some x ∧ kd x ≠ 4) ∨ (acc = none ∧ kd x = 4)
def st (b : Nat) : Option Nat := if kd b = 4 then none else some b
def addO (acc : Option Nat) (b : Nat) : Option Nat := match acc with | some x => Ieee.single.add x b | none => none
def sumK (f : Nat → Nat) : Nat → Option Nat
  | 0 => some 0
  | 1 => st (f 0)
  | k + 2 => addO (sumK f (k + 1)) (f (k + 1))
theorem rep_st (b : Nat) : rep (st b) b := by
  unfold rep st
  by_cases h : kd b = 4
  · right; exact ⟨by rw [if_pos h], h⟩
  · left; exact ⟨by rw [if_neg h], h⟩
theorem rep_add {acc : Option Nat} {x : Nat} (b : Nat) (h : rep acc x) : floatBits .add .f32 x b = addO acc b := by
  show Ieee.single.add x b = _
  rcases h with ⟨rfl, _⟩ | ⟨rfl, hk⟩
  · rfl
  · exact add_nan b hk
theorem rep_some {acc : Option Nat} {b s : Nat} (h : addO acc b = some s) : rep (addO acc b) s := by
  left
  refine ⟨h, ?_⟩
  cases acc with
  | none => cases h
  | some x => exact add_not_nan h
theorem rep_none {acc : Option Nat} {b s : Nat} (h : addO acc b = none) (hs : kd s = 4) : rep (addO acc b) s := .inr ⟨h, hs⟩
theorem sumK_step (f : Nat → Nat) (k : Nat) (h : 1 ≤ k) : sumK f (k + 1) = addO (sumK f k) (f k) := by
  obtain ⟨j, rfl⟩ : ∃ j, k = j + 1 := ⟨k - 1, by omega⟩
  rfl
end Go.Proofs.Ytgjejolfkfpobaa
