/-
  PLAIN MATHEMATICS (no program in sight): quotients of small whole numbers and of powers of two are exact.
-/
import Derived.Test.YtaihooljphkpeaaDoorQm
import Derived.Test.YtaihooljphkpeaaDoorRnd
namespace Go.Proofs.YtaihooljphkpeaaDoor
open Fl Ieee
/-- 24 digits -/
theorem lift24 {n : Nat} (h0 : n ≠ 0) (h : n < 16777216) : ∃ M d : Nat, M = n * 2 ^ d ∧ d ≤ 23 ∧ M ≠ 0 ∧ M.log2 = 23 := by
  have hl : n.log2 < 24 := by rw [Nat.log2_lt h0]; exact h
  refine ⟨n * 2 ^ (23 - n.log2), 23 - n.log2, rfl, by omega, ?_, ?_⟩
  · exact Nat.mul_ne_zero h0 (by have := Nat.two_pow_pos (23 - n.log2); omega)
  · have := log2_scale h0 (23 - n.log2)
    rw [this]; omega
theorem read_M (s : Bool) {M : Nat} (h0 : M ≠ 0) (hl : M.log2 = 23) (P : Int) (h1 : -149 ≤ P) (h2 : P ≤ 0) : single.read (single.nearest s M P) = .number s M P := by
  have e1 : single.leastPlace = -149 := by decide
  have e2 : single.fractionBits = 23 := rfl
  have e3 : (2 : Nat) ^ single.exponentBits = 256 := by decide
  have h := read_nearest_exact single s M P h0 (by rw [e2, hl]; exact Nat.le_refl _) (by rw [e1]; exact h1) (by rw [e1, e2, e3, hl]; omega) (by decide)
  rw [h, e1, e2, hl]
  have e4 : max (P + ((23 : Nat) : Int) - ((23 : Nat) : Int)) (-149) = P := by omega
  rw [e4]
  simp
theorem by_read (k : Nat) (h : k ≤ 10) : single.read (floatOfInt .f32 ((2 ^ k : Nat) : Int)) = .number false 8388608 ((k : Int) - 23) := by
  have key : ∀ a : Fin 11, single.read (floatOfInt .f32 ((2 ^ a.val : Nat) : Int)) = .number false 8388608 ((a.val : Int) - 23) := by decide +kernel
  exact key ⟨k, by omega⟩
theorem quo_M (s : Bool) {M : Nat} (h0 : M ≠ 0) (hl : M.log2 = 23) (P : Int) (h1 : -100 ≤ P) (h2 : P ≤ 0) (k : Nat) (hk : k ≤ 10) :
    single.div (single.nearest s M P) (floatOfInt .f32 ((2 ^ k : Nat) : Int)) = some (single.nearest s M (P - k)) := by
  unfold Format.div
  rw [read_M s h0 hl P (by omega) h2, by_read k hk]
  have e2 : single.fractionBits = 23 := rfl
  have e3 : Nat.log2 8388608 = 23 := by decide +kernel
  simp only [Datum.quotient, e2, e3, hl, Option.map_some]
  rw [if_neg (by decide)]
  have e4 : M <<< (23 + 2 + 23 - 23) = M * 4 * 8388608 := by rw [Nat.shiftLeft_eq]; omega
  rw [e4, Nat.mul_div_cancel _ (by decide), Nat.mul_mod_left]
  simp only [Option.map_some, Option.some.injEq]
  have a1 : (s ^^ false) = s := by cases s <;> rfl
  have a2 : 2 * (M * 4) + ((0 : Nat) != 0).toNat = M * 2 ^ 3 := by
    have : ((0 : Nat) != 0).toNat = 0 := rfl
    rw [this]; omega
  have a3 : P - ((k : Int) - 23) - ((23 + 2 + 23 - 23 : Nat) : Int) - 1 = P - k - ((3 : Nat) : Int) := by omega
  have hw : single.write (.number (s ^^ false) (2 * (M * 4) + ((0 : Nat) != 0).toNat) (P - ((k : Int) - 23) - ((23 + 2 + 23 - 23 : Nat) : Int) - 1)) = single.nearest (s ^^ false) (2 * (M * 4) + ((0 : Nat) != 0).toNat) (P - ((k : Int) - 23) - ((23 + 2 + 23 - 23 : Nat) : Int) - 1) := by rw [Format.write]
  rw [hw, a1, a2, a3, nearest_scale]
theorem mul_M (s : Bool) {M : Nat} (h0 : M ≠ 0) (hl : M.log2 = 23) (P : Int) (h1 : -100 ≤ P) (h2 : P ≤ 0) (k : Nat) (hk : k ≤ 10) :
    single.mul (single.nearest s M (P - k)) (floatOfInt .f32 ((2 ^ k : Nat) : Int)) = some (single.nearest s M P) := by
  unfold Format.mul
  rw [read_M s h0 hl (P - k) (by omega) (by omega), by_read k hk]
  simp only [Datum.product, Option.map_some, Option.some.injEq]
  have a1 : (s ^^ false) = s := by cases s <;> rfl
  have a2 : M * 8388608 = M * 2 ^ 23 := by omega
  have a3 : P - (k : Int) + ((k : Int) - 23) = P - ((23 : Nat) : Int) := by omega
  rw [Format.write, a1, a2, a3, nearest_scale]
theorem ofInt_M {n : Nat} (h0 : n ≠ 0) (h : n < 16777216) (x : Int) (hx : x.natAbs = n) : ∃ (M : Nat) (P : Int), M ≠ 0 ∧ M.log2 = 23 ∧ -23 ≤ P ∧ P ≤ 0 ∧ floatOfInt .f32 x = single.nearest (decide (x < 0)) M P := by
  obtain ⟨M, d, e, hd, hM, hl⟩ := lift24 h0 h
  refine ⟨M, -(d : Int), hM, hl, by omega, by omega, ?_⟩
  show single.nearest (decide (x < 0)) x.natAbs 0 = _
  rw [hx, ← nearest_scale single (decide (x < 0)) n 0 d, ← e]
  congr 1
  omega
/-- the quotient, multiplied again -/
theorem quo_back (x : Int) (h : x.natAbs < 16777216) (hx : x ≠ 0) (k : Nat) (hk : k ≤ 10) : ∃ r, quoB x k = some r ∧ single.mul r (floatOfInt .f32 ((2 ^ k : Nat) : Int)) = some (floatOfInt .f32 x) := by
  obtain ⟨M, P, h1, h2, h3, h4, e⟩ := ofInt_M (n := x.natAbs) (by omega) h x rfl
  refine ⟨single.nearest (decide (x < 0)) M (P - k), ?_, ?_⟩
  · show single.div _ _ = _
    rw [e]
    exact quo_M _ h1 h2 P (by omega) h4 k hk
  · rw [e]
    exact mul_M _ h1 h2 P (by omega) h4 k hk
theorem quo_one (x : Int) (h : x.natAbs < 16777216) : quoB x 0 = some (floatOfInt .f32 x) := by
  by_cases hx : x = 0
  · subst hx; decide +kernel
  · obtain ⟨M, P, h1, h2, h3, h4, e⟩ := ofInt_M (n := x.natAbs) (by omega) h x rfl
    show single.div _ _ = _
    rw [e]
    have := quo_M (decide (x < 0)) h1 h2 P (by omega) h4 0 (by omega)
    simpa using this
theorem quo_zero (k : Nat) (hk : k ≤ 10) : quoB 0 k = some 0 ∧ single.mul 0 (floatOfInt .f32 ((2 ^ k : Nat) : Int)) = some 0 := by
  have key : ∀ a : Fin 11, quoB 0 a.val = some 0 ∧ single.mul 0 (floatOfInt .f32 ((2 ^ a.val : Nat) : Int)) = some 0 := by decide +kernel
  exact key ⟨k, by omega⟩
/-- the texts -/
theorem digV_app : ∀ (l r : List UInt8) (a : Nat), digV a (l ++ r) = (digV a l).bind fun b => digV b r
  | [], r, a => by simp [digV]
  | x :: l, r, a => by
    rw [List.cons_append, digV, digV]
    split
    · exact digV_app l r _
    · rfl
theorem dec_dig (d : Nat) (h : d < 10) (a : Nat) : digV a [UInt8.ofNat (48 + d)] = some (10 * a + d) := by
  have e : (UInt8.ofNat (48 + d)).toNat = 48 + d := by
    have key : ∀ a : Fin 10, (UInt8.ofNat (48 + a.val)).toNat = 48 + a.val := by decide +kernel
    exact key ⟨d, h⟩
  rw [digV, e, if_pos (by omega), digV]
  congr 1; omega
theorem digV_dec : ∀ n : Nat, digV 0 (Lib.decDigits n) = some n := by
  intro n
  induction n using Nat.strongRecOn with
  | ind n ih =>
    by_cases h : n < 10
    · rw [Lib.decDigits_one h, dec_dig n h]; congr 1; omega
    · rw [Lib.decDigits.eq_def n, dif_neg h, digV_app, ih (n / 10) (by omega)]
      simp only [Option.bind_some]
      rw [dec_dig (n % 10) (by omega)]
      congr 1; omega
theorem dec_mem : ∀ n : Nat, ∀ x ∈ Lib.decDigits n, 48 ≤ x.toNat := by
  intro n
  induction n using Nat.strongRecOn with
  | ind n ih =>
    have key : ∀ a : Fin 10, 48 ≤ (UInt8.ofNat (48 + a.val)).toNat := by decide +kernel
    by_cases h : n < 10
    · rw [Lib.decDigits_one h]
      intro x hx
      simp only [List.mem_singleton] at hx
      subst hx
      exact key ⟨n, h⟩
    · rw [Lib.decDigits.eq_def n, dif_neg h]
      intro x hx
      rcases List.mem_append.1 hx with hx | hx
      · exact ih (n / 10) (by omega) x hx
      · simp only [List.mem_singleton] at hx
        subst hx
        exact key ⟨n % 10, by omega⟩
theorem dec_ne (n : Nat) : ∀ x ∈ Lib.decDigits n, x ≠ 47 ∧ x ≠ 45 := fun x hx => by
  have := dec_mem n x hx
  constructor <;> (intro e; subst e; revert this; decide)
theorem dec_len {n k : Nat} (h : n < 10 ^ (k + 1)) : 1 ≤ (Lib.decDigits n).length ∧ (Lib.decDigits n).length ≤ k + 1 := by
  rw [Lib.decDigits_length]
  refine ⟨Lib.nDigits_pos n, ?_⟩
  have hle : ∀ (k n : Nat), n < 10 ^ (k + 1) → Lib.nDigits n ≤ k + 1 := by
    intro k
    induction k with
    | zero => intro n h; rw [Lib.nDigits_small (by omega)]; omega
    | succ k ih =>
      intro n h
      by_cases h0 : n < 10
      · rw [Lib.nDigits_small h0]; omega
      · rw [Lib.nDigits_big h0]
        have := ih (n / 10) (by rw [Nat.pow_succ] at h; omega)
        omega
  exact hle k n h
theorem small_dec {n : Nat} (h : n < 1000000) : smallV (Lib.decDigits n) = some n := by
  have := dec_len (n := n) (k := 5) (by omega)
  unfold smallV
  rw [if_neg (by
    rintro (h | h)
    · rw [h] at this; simp at this
    · omega), digV_dec]
theorem byV_next (k : Nat) (h1 : 1 ≤ k) (h2 : k ≤ 10) : byV (Lib.decDigits (2 ^ k + 1)) = none := by
  have key : ∀ a : Fin 10, byV (Lib.decDigits (2 ^ (a.val + 1) + 1)) = none := by decide +kernel
  have := key ⟨k - 1, by omega⟩
  simpa [show k - 1 + 1 = k by omega] using this
end Go.Proofs.YtaihooljphkpeaaDoor
