/-
  PLAIN FACTS ON BITS OF NUMBERS (no program in sight): the size of a word, its class, its place, its opposite.
-/
import Derived.Test.YtkijgadkgfapgaaDoorFl
import Derived.Laws.BitsAllLaws
namespace Go.Proofs.YtkijgadkgfapgaaDoor
open Fl

/-- the size: all bits but the sign -/
def sz (a : Nat) : Nat := a % 2147483648
def W32 (a : Nat) : Prop := a < 4294967296
theorem W32.of_wf {a : Nat} (h : (Lit.float .f32 a).wf = true) : W32 a := by unfold W32; simpa [Lit.wf] using h
theorem W32.wf {a : Nat} (h : W32 a) : (Lit.float .f32 a).wf = true := by unfold W32 at h; simpa [Lit.wf] using h
theorem and_mask (a : Nat) (h : W32 a) : bits .and .u32 (a : Int) 2147483647 = (sz a : Int) := by
  unfold W32 at h
  unfold sz
  rw [show (2147483647 : Int) = ((2147483647 : Nat) : Int) from rfl, u32_and_nat a _ h (by omega), show (2147483647 : Nat) = 2 ^ 31 - 1 from rfl, Nat.and_two_pow_sub_one_eq_mod]

def kd (a : Nat) : Int :=
  if sz a = 0 then 0 else if sz a < 8388608 then 1 else if sz a < 2139095040 then 2 else if sz a = 2139095040 then 3 else 4
def neg (a : Nat) : Bool := decide (2147483648 ≤ a)

/-- THE FIVE CLASSES, each with its tests in the walk's own form. -/
theorem cls (a : Nat) : (kd a = 0 ∧ ((sz a : Int) == 0) = true) ∨ (kd a = 1 ∧ ((sz a : Int) == 0) = false ∧ decide ((sz a : Int) < 8388608) = true) ∨
    (kd a = 2 ∧ ((sz a : Int) == 0) = false ∧ decide ((sz a : Int) < 8388608) = false ∧ decide ((sz a : Int) < 2139095040) = true) ∨
    (kd a = 3 ∧ ((sz a : Int) == 0) = false ∧ decide ((sz a : Int) < 8388608) = false ∧ decide ((sz a : Int) < 2139095040) = false ∧ ((sz a : Int) == 2139095040) = true) ∨
    (kd a = 4 ∧ ((sz a : Int) == 0) = false ∧ decide ((sz a : Int) < 8388608) = false ∧ decide ((sz a : Int) < 2139095040) = false ∧ ((sz a : Int) == 2139095040) = false) := by
  unfold kd
  by_cases h1 : sz a = 0
  · left; simp [h1]
  · by_cases h2 : sz a < 8388608
    · right; left; simp [h1, h2]; omega
    · by_cases h3 : sz a < 2139095040
      · right; right; left; simp [h1, h2, h3]; omega
      · by_cases h4 : sz a = 2139095040
        · right; right; right; left; simp [h4]
        · right; right; right; right; simp [h1, h2, h3, h4]; omega

theorem nan_kd (a : Nat) : nan32 a = decide (kd a = 4) := by
  unfold nan32 kd sz
  by_cases h1 : a % 2147483648 = 0
  · simp [h1]
  · by_cases h2 : a % 2147483648 < 8388608
    · simp [h1, h2]; omega
    · by_cases h3 : a % 2147483648 < 2139095040
      · simp [h1, h2, h3]; omega
      · by_cases h4 : a % 2147483648 = 2139095040
        · simp [h4]
        · simp [h1, h2, h3, h4]; omega
/-- Go's 'a != a' -/
theorem neq_self (a : Nat) : (FloatKind.f32.format.order a a != some .eq) = decide (kd a = 4) := by
  rw [← nan_kd]
  show (Ieee.single.order a a != some .eq) = _
  cases h : nan32 a
  · rw [order32_self h]; rfl
  · rw [order32_nanL a h]; rfl

/-! ### bit by bit -/
theorem i64_wrap_nat (n : Nat) (h : n < 9223372036854775808) : IntKind.i64.wrap (n : Int) = n := by
  simp [IntKind.wrap, IntKind.bits, IntKind.signed]; omega
theorem ofInt_i64 (a : Nat) (ha : a < 18446744073709551616) : (BitVec.ofInt 64 (a : Int)).toNat = a := by
  rw [BitVec.ofInt_natCast, BitVec.toNat_ofNat]; exact Nat.mod_eq_of_lt (by omega)
theorem i64_and_nat (a b : Nat) (ha : a < 9223372036854775808) (hb : b < 9223372036854775808) : bits .and .i64 (a : Int) (b : Int) = ((a &&& b : Nat) : Int) := by
  have hx : a &&& b < 2 ^ 63 := Nat.and_lt_two_pow _ (by omega)
  show IntKind.i64.wrap ((BitVec.ofInt 64 (a : Int) &&& BitVec.ofInt 64 (b : Int)).toNat : Int) = _
  rw [BitVec.toNat_and, ofInt_i64 a (by omega), ofInt_i64 b (by omega), i64_wrap_nat _ (by omega)]
theorem i64_or_nat (a b : Nat) (ha : a < 9223372036854775808) (hb : b < 9223372036854775808) : bits .or .i64 (a : Int) (b : Int) = ((a ||| b : Nat) : Int) := by
  have hx : a ||| b < 2 ^ 63 := Nat.or_lt_two_pow (by omega) (by omega)
  show IntKind.i64.wrap ((BitVec.ofInt 64 (a : Int) ||| BitVec.ofInt 64 (b : Int)).toNat : Int) = _
  rw [BitVec.toNat_or, ofInt_i64 a (by omega), ofInt_i64 b (by omega), i64_wrap_nat _ (by omega)]
theorem sz_lt (a : Nat) : sz a < 2147483648 := Nat.mod_lt _ (by omega)
theorem split_bits {a : Nat} (h : W32 a) : a = sz a + (if neg a then 2147483648 else 0) := by
  unfold W32 at h; unfold sz neg; by_cases hn : 2147483648 ≤ a <;> simp [hn] <;> omega
theorem nat_and_sign (a : Nat) (h : W32 a) : a &&& 2147483648 = if neg a then 2147483648 else 0 := by
  unfold W32 at h
  rw [show (2147483648 : Nat) = 2 ^ 31 from rfl, nat_bit]
  unfold neg
  by_cases hn : 2147483648 ≤ a
  · rw [if_pos (by simpa using hn)]; omega
  · rw [if_neg (by simpa using hn)]; omega
theorem and_sign (a : Nat) (h : W32 a) : bits .and .u32 (a : Int) 2147483648 = (if neg a then 2147483648 else 0 : Int) := by
  have h' := h
  unfold W32 at h'
  rw [show (2147483648 : Int) = ((2147483648 : Nat) : Int) from rfl, u32_and_nat a _ h' (by omega), nat_and_sign a h]
  cases neg a <;> rfl
/-- the opposite number: the sign's bit turned -/
def opp (a : Nat) : Nat := if neg a then sz a else sz a + 2147483648
theorem xor_sign_nat (a : Nat) (h : W32 a) : a ^^^ 2147483648 = opp a := by
  unfold W32 at h
  have hlow : (a ^^^ 2147483648) % 2147483648 = a % 2147483648 := by
    have e := Nat.xor_mod_two_pow (a := a) (b := 2147483648) (n := 31)
    simpa using e
  have hhi : (a ^^^ 2147483648) / 2147483648 = a / 2147483648 ^^^ 1 := by
    have e := Nat.xor_div_two_pow (a := a) (b := 2147483648) (n := 31)
    simpa using e
  have hc : a / 2147483648 = 0 ∨ a / 2147483648 = 1 := by omega
  unfold opp neg sz
  rcases hc with hc | hc
  · rw [hc] at hhi
    have : ¬ 2147483648 ≤ a := by omega
    simp only [this, decide_false]
    have h2 : (0 ^^^ 1 : Nat) = 1 := rfl
    rw [h2] at hhi
    simp only [Bool.false_eq_true, ↓reduceIte]
    omega
  · rw [hc] at hhi
    have : 2147483648 ≤ a := by omega
    simp only [this, decide_true]
    have h2 : (1 ^^^ 1 : Nat) = 0 := rfl
    rw [h2] at hhi
    simp only [↓reduceIte]
    omega
theorem xor_sign (a : Nat) (h : W32 a) : bits .xor .u32 (a : Int) 2147483648 = (opp a : Int) := by
  have h' := h
  unfold W32 at h'
  rw [show (2147483648 : Int) = ((2147483648 : Nat) : Int) from rfl, u32_xor_nat a _ h' (by omega), xor_sign_nat a h]
theorem negFloat_32 (a : Nat) (h : W32 a) : Op.negFloat .f32 a = opp a := xor_sign_nat a h
theorem opp_W32 (a : Nat) : W32 (opp a) := by
  have := sz_lt a
  unfold W32 opp; split <;> omega
theorem opp_sz (a : Nat) : sz (opp a) = sz a := by
  have := sz_lt a
  unfold opp; split
  · unfold sz; omega
  · unfold sz at *; omega
theorem opp_kd (a : Nat) : kd (opp a) = kd a := by unfold kd; rw [opp_sz]

/-! ### parts and places -/
def frac (a : Nat) : Nat := if sz a < 8388608 then sz a else 8388608 + sz a % 8388608
def expo (a : Nat) : Int := if sz a < 8388608 then -149 else (sz a / 8388608 : Nat) - 150
theorem nat_low23 (a : Nat) : a &&& 8388607 = a % 8388608 := by
  rw [show (8388607 : Nat) = 2 ^ 23 - 1 from rfl, Nat.and_two_pow_sub_one_eq_mod]
theorem low23 (a : Nat) (h : W32 a) : bits .and .i64 (a : Int) 8388607 = ((sz a % 8388608 : Nat) : Int) := by
  unfold W32 at h
  rw [show (8388607 : Int) = ((8388607 : Nat) : Int) from rfl, i64_and_nat a _ (by omega) (by omega), nat_low23]
  unfold sz; congr 1; omega
theorem low23' (a : Nat) : bits .and .i64 (sz a : Int) 8388607 = ((sz a % 8388608 : Nat) : Int) := by
  have := sz_lt a
  rw [show (8388607 : Int) = ((8388607 : Nat) : Int) from rfl, i64_and_nat (sz a) _ (by omega) (by omega), nat_low23]
theorem hid23 (x : Nat) : bits .or .i64 ((x % 8388608 : Nat) : Int) 8388608 = ((8388608 + x % 8388608 : Nat) : Int) := by
  rw [show (8388608 : Int) = ((8388608 : Nat) : Int) from rfl, i64_or_nat _ _ (by omega) (by omega)]
  rw [Nat.or_comm, nat_join 23 8388608 (x % 8388608) (by decide) (by omega)]
theorem field8 (a : Nat) (h : W32 a) : bits .and .i64 ((a / 8388608 : Nat) : Int) 255 = ((sz a / 8388608 : Nat) : Int) := by
  unfold W32 at h
  rw [show (255 : Int) = ((255 : Nat) : Int) from rfl, i64_and_nat _ _ (by omega) (by omega), nat_mask8]
  unfold sz; congr 1; omega
theorem sign31 (a : Nat) (h : W32 a) : a / 2147483648 = if neg a then 1 else 0 := by
  unfold W32 at h; unfold neg; by_cases hn : 2147483648 ≤ a <;> simp [hn] <;> omega
/-- the place in the order -/
def key (a : Nat) : Int := if neg a then -1 - (sz a : Int) else sz a
def fromKey (k : Int) : Nat := if k < 0 then ((-1 - k) % 2147483648).toNat + 2147483648 else k.toNat
theorem or_sign (x : Nat) (h : x < 2147483648) : x ||| 2147483648 = x + 2147483648 := by
  rw [Nat.or_comm, nat_join 31 2147483648 x (by decide) (by omega), Nat.add_comm]
theorem fromKey_key (a : Nat) (h : W32 a) : fromKey (key a) = a := by
  have h1 := sz_lt a
  have h2 := split_bits h
  unfold fromKey key
  cases hn : neg a
  · rw [hn] at h2; simp only [Bool.false_eq_true, ↓reduceIte] at h2 ⊢; rw [if_neg (by omega)]; omega
  · rw [hn] at h2; simp only [↓reduceIte] at h2 ⊢; rw [if_pos (by omega)]; omega
theorem top31 (a : Nat) (h : W32 a) : ((a : Int) / 2147483648 == 1) = neg a := by
  unfold W32 at h; unfold neg
  rw [Bool.eq_iff_iff]; simp; omega
theorem low31 (a : Nat) (h : W32 a) : bits .and .i64 (a : Int) 2147483647 = (sz a : Int) := by
  unfold W32 at h
  rw [show (2147483647 : Int) = ((2147483647 : Nat) : Int) from rfl, i64_and_nat a _ (by omega) (by omega), show (2147483647 : Nat) = 2 ^ 31 - 1 from rfl, Nat.and_two_pow_sub_one_eq_mod]
  rfl
end Go.Proofs.YtkijgadkgfapgaaDoor
