/-
  PLAIN MATHEMATICS (no program in sight): the texts of numbers: digits, divisors, the number with a text; and the quotient of such numbers.
-/
import Derived.Test.YtkijgadkgfapgaaDoorSf
import Derived.Lib.ItoaNum
namespace Go.Proofs.YtkijgadkgfapgaaDoor
open Fl Ieee
/-- the digits so far, and those behind -/
def digV : Nat → List UInt8 → Option Nat
  | a, [] => some a
  | a, x :: r => if 48 ≤ x.toNat ∧ x.toNat ≤ 57 then digV (10 * a + (x.toNat - 48)) r else none
/-- the number of one to six digits -/
def smallV (l : List UInt8) : Option Nat := if l = [] ∨ 6 < l.length then none else digV 0 l
theorem digV_lt : ∀ (l : List UInt8) (a k v : Nat), a < 10 ^ k → digV a l = some v → v < 10 ^ (k + l.length)
  | [], a, k, v, h, e => by simp [digV] at e; subst e; simpa using h
  | x :: r, a, k, v, h, e => by
    rw [digV] at e
    split at e
    · rename_i hx
      have hh : 10 * a + (x.toNat - 48) < 10 ^ (k + 1) := by rw [Nat.pow_succ]; omega
      have := digV_lt r _ (k + 1) v hh e
      rw [List.length_cons, show k + (r.length + 1) = k + 1 + r.length from by omega]
      exact this
    · cases e
theorem smallV_lt {l : List UInt8} {v : Nat} (h : smallV l = some v) : v < 1000000 := by
  unfold smallV at h
  split at h
  · cases h
  · rename_i hh
    have := digV_lt l 0 0 v (by decide) h
    have h6 : l.length ≤ 6 := by omega
    have h7 : 10 ^ (0 + l.length) ≤ 10 ^ 6 := Nat.pow_le_pow_right (by decide) (by omega)
    have h8 : (10 : Nat) ^ 6 = 1000000 := by decide
    omega
/-- the divisor's text -/
def decT (k : Nat) : List UInt8 := Lib.decDigits (2 ^ k)
/-- the divisor with a text, from 2^k on, n of them -/
def byF (l : List UInt8) : Nat → Nat → Option Nat
  | _, 0 => none
  | k, n + 1 => if l = decT k then some k else byF l (k + 1) n
def byV (l : List UInt8) : Option Nat := byF l 1 10
theorem byF_some {l : List UInt8} : ∀ {n k j : Nat}, byF l k n = some j → k ≤ j ∧ j < k + n ∧ l = decT j
  | 0, _, _, h => by cases h
  | n + 1, k, j, h => by
    rw [byF] at h
    split at h
    · rename_i e; cases h; exact ⟨Nat.le_refl _, by omega, e⟩
    · obtain ⟨a, b, c⟩ := byF_some h; exact ⟨by omega, by omega, c⟩
theorem byF_none {l : List UInt8} : ∀ {n k : Nat}, byF l k n = none → ∀ j, k ≤ j → j < k + n → l ≠ decT j
  | 0, _, _, j, h1, h2 => by omega
  | n + 1, k, h, j, h1, h2 => by
    rw [byF] at h
    split at h
    · cases h
    · rename_i e
      by_cases hj : j = k
      · subst hj; exact e
      · exact byF_none h j (by omega) (by omega)
theorem decT_val : decT 1 = [50] ∧ decT 2 = [52] ∧ decT 3 = [56] ∧ decT 4 = [49, 54] ∧ decT 5 = [51, 50] ∧ decT 6 = [54, 52] ∧ decT 7 = [49, 50, 56] ∧ decT 8 = [50, 53, 54] ∧ decT 9 = [53, 49, 50] ∧ decT 10 = [49, 48, 50, 52] := by decide +kernel
theorem decT_inj {i j : Nat} (h1 : 1 ≤ i) (h2 : i ≤ 10) (h3 : 1 ≤ j) (h4 : j ≤ 10) (h : decT i = decT j) : i = j := by
  have key : ∀ a : Fin 10, ∀ b : Fin 10, decT (a.val + 1) = decT (b.val + 1) → a = b := by decide +kernel
  have := key ⟨i - 1, by omega⟩ ⟨j - 1, by omega⟩ (by simpa [show i - 1 + 1 = i from by omega, show j - 1 + 1 = j from by omega] using h)
  have h5 := congrArg Fin.val this
  simp at h5; omega
theorem decT_slash {i : Nat} (h1 : 1 ≤ i) (h2 : i ≤ 10) : ∀ x ∈ decT i, x ≠ 47 := by
  have key : ∀ a : Fin 10, ∀ x ∈ decT (a.val + 1), x ≠ 47 := by decide +kernel
  have := key ⟨i - 1, by omega⟩
  simpa [show i - 1 + 1 = i from by omega] using this
theorem byV_iff {l : List UInt8} {j : Nat} (h1 : 1 ≤ j) (h2 : j ≤ 10) (h : l = decT j) : byV l = some j := by
  unfold byV
  cases hb : byF l 1 10 with
  | none => exact absurd h (byF_none hb j (by omega) (by omega))
  | some i =>
    obtain ⟨a, b, c⟩ := byF_some hb
    rw [decT_inj (by omega) (by omega) h1 h2 (c.symm.trans h)]
theorem byV_some {l : List UInt8} {j : Nat} (h : byV l = some j) : 1 ≤ j ∧ j ≤ 10 ∧ l = decT j := by
  obtain ⟨a, b, c⟩ := byF_some h; exact ⟨a, by omega, c⟩
/-- the whole number and the power of the divisor: of the parts between "/" -/
def partsV : List (List UInt8) → Option (Nat × Nat)
  | [a] => (smallV a).map fun n => (n, 0)
  | [a, b] => (smallV a).bind fun n => (byV b).map fun k => (n, k)
  | _ => none
/-- the sign, and the text behind it -/
def isNeg (l : List UInt8) : Bool := l.head? == some 45
def rest (l : List UInt8) : List UInt8 := if isNeg l then l.drop 1 else l
/-- the word of a quotient -/
def quoB (n : Int) (k : Nat) : Option Nat := floatBits .quo .f32 (floatOfInt .f32 n) (floatOfInt .f32 ((2 ^ k : Nat) : Int))
theorem read_ofInt (n : Int) (h : n.natAbs < 16777216) : ∃ s m q, single.read (floatOfInt .f32 n) = .number s m q := by
  show ∃ s m q, single.read (single.nearest (decide (n < 0)) n.natAbs 0) = .number s m q
  by_cases h0 : n.natAbs = 0
  · rw [h0, read_nearest_zero]; exact ⟨_, _, _, rfl⟩
  · rw [read_nearest_exact single _ n.natAbs 0 h0 (by
      have : n.natAbs.log2 < 24 := by rw [Nat.log2_lt h0]; exact h
      show n.natAbs.log2 ≤ 23
      omega) (by decide) (by
        have h2 : n.natAbs.log2 < 24 := by rw [Nat.log2_lt h0]; exact h
        have e1 : single.leastPlace = -149 := by decide
        have e2 : single.fractionBits = 23 := rfl
        have e3 : (2 : Nat) ^ single.exponentBits = 256 := by decide
        rw [e1, e2]
        first | (rw [e3]; omega) | omega)]
    · exact ⟨_, _, _, rfl⟩
    · decide
theorem read_by (k : Nat) (h : k ≤ 10) : ∃ m q, single.read (floatOfInt .f32 ((2 ^ k : Nat) : Int)) = .number false m q ∧ m ≠ 0 := by
  have key : ∀ a : Fin 11, (match single.read (floatOfInt .f32 ((2 ^ a.val : Nat) : Int)) with | .number false m _ => m != 0 | _ => false) = true := by decide +kernel
  have := key ⟨k, by omega⟩
  simp only at this
  cases hr : single.read (floatOfInt .f32 ((2 ^ k : Nat) : Int)) with
  | number s m q =>
    rw [hr] at this
    cases s
    · exact ⟨m, q, rfl, by simpa using this⟩
    · cases this
  | infinity s => rw [hr] at this; cases this
  | nan s f => rw [hr] at this; cases this
theorem kd_nearest (s : Bool) (m : Nat) (p : Int) : kd (single.nearest s m p) ≠ 4 := by
  intro h
  have h4 : nan32 (single.nearest s m p) = true := by rw [nan_kd]; simpa using h
  unfold nan32 at h4
  have hb : ∃ r, single.nearest s m p = single.word s r ∧ r ≤ 2139095040 := by
    unfold Format.nearest
    by_cases h0 : m = 0
    · rw [if_pos h0]; exact ⟨0, rfl, by omega⟩
    · rw [if_neg h0]; exact ⟨_, rfl, Nat.min_le_right _ _⟩
  obtain ⟨r, e, hr⟩ := hb
  have := word_mod single s (r := r) (by show r < 2147483648; omega)
  rw [e] at h4
  simp only [decide_eq_true_eq] at h4
  have e2 : single.signWeight = 2147483648 := by decide
  rw [e2] at this
  omega
theorem quo_ok (n : Int) (k : Nat) (h : n.natAbs < 16777216) (hk : k ≤ 10) : ∃ r, quoB n k = some r ∧ kd r ≠ 4 := by
  obtain ⟨s, m, q, e1⟩ := read_ofInt n h
  obtain ⟨m2, q2, e2, h2⟩ := read_by k hk
  have : quoB n k = ((single.read (floatOfInt .f32 n)).quotient (single.fractionBits + 2) (single.read (floatOfInt .f32 ((2 ^ k : Nat) : Int)))).map single.write := rfl
  rw [this, e1, e2]
  simp only [Datum.quotient, if_neg h2, Option.map_some]
  exact ⟨_, rfl, kd_nearest _ _ _⟩
/-- the number's word: of the text's bytes -/
def numV (spl : List UInt8 → List (List UInt8)) (l : List UInt8) : Option Nat := (partsV (spl (rest l))).bind fun p => quoB (if isNeg l then -(p.1 : Int) else p.1) p.2
end Go.Proofs.YtkijgadkgfapgaaDoor
