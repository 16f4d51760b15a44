/-
  PLAIN MATHEMATICS OF LIMBS (no program in sight): numbers in limbs of 64 bits, by index; sums with carries, differences with borrows; windows of bits; the highest bit; what lies below a bit.
-/
import Derived.Test.YtgjejolfkfpobaaRnd
namespace Go.Proofs.Ytgjejolfkfpobaa.Fl

/-- 2 to the power 64 -/
def B64 : Nat := 18446744073709551616
theorem B64_pos : 0 < B64 := by unfold B64; omega
theorem B64_pow (i : Nat) : B64 ^ i = 2 ^ (64 * i) := by
  rw [Nat.pow_mul]; rfl
/-- the number whose limbs are f 0, f 1, .. f (n - 1) -/
def pv (f : Nat → Nat) : Nat → Nat
  | 0 => 0
  | n + 1 => pv f n + f n * B64 ^ n
theorem pv_congr {f g : Nat → Nat} : ∀ n, (∀ i, i < n → f i = g i) → pv f n = pv g n
  | 0, _ => rfl
  | n + 1, h => by
    show pv f n + f n * B64 ^ n = pv g n + g n * B64 ^ n
    rw [pv_congr n (fun i hi => h i (by omega)), h n (by omega)]
theorem pv_zero : ∀ n, pv (fun _ => 0) n = 0
  | 0 => rfl
  | n + 1 => by show pv _ n + 0 * B64 ^ n = 0; rw [pv_zero n, Nat.zero_mul]
theorem pv_lt {f : Nat → Nat} : ∀ n, (∀ i, i < n → f i < B64) → pv f n < B64 ^ n
  | 0, _ => by show 0 < B64 ^ 0; rw [Nat.pow_zero]; omega
  | n + 1, h => by
    have ih := pv_lt n (fun i hi => h i (by omega))
    have h1 := h n (by omega)
    show pv f n + f n * B64 ^ n < B64 ^ (n + 1)
    have h2 : f n + 1 ≤ B64 := h1
    have h3 := Nat.mul_le_mul_right (B64 ^ n) h2
    rw [Nat.add_mul, Nat.one_mul] at h3
    rw [Nat.pow_succ, Nat.mul_comm (B64 ^ n) B64]
    omega
/-- the first limb apart -/
theorem pv_succ (f : Nat → Nat) : ∀ n, pv f (n + 1) = f 0 + B64 * pv (fun i => f (i + 1)) n
  | 0 => by show 0 + f 0 * B64 ^ 0 = f 0 + B64 * 0; rw [Nat.pow_zero]; omega
  | n + 1 => by
    have ih := pv_succ f n
    show pv f (n + 1) + f (n + 1) * B64 ^ (n + 1) = f 0 + B64 * (pv (fun i => f (i + 1)) n + f (n + 1) * B64 ^ n)
    rw [ih, Nat.mul_add, Nat.pow_succ, Nat.add_assoc]
    congr 2
    rw [Nat.mul_comm B64 (f (n + 1) * B64 ^ n), Nat.mul_assoc]
/-! ### sums -/
def cy (f g : Nat → Nat) : Nat → Nat
  | 0 => 0
  | n + 1 => (f n + g n + cy f g n) / B64
def sm (f g : Nat → Nat) (n : Nat) : Nat := (f n + g n + cy f g n) % B64
theorem sm_lt (f g : Nat → Nat) (n : Nat) : sm f g n < B64 := Nat.mod_lt _ B64_pos
theorem cy_le {f g : Nat → Nat} (hf : ∀ i, f i < B64) (hg : ∀ i, g i < B64) : ∀ n, cy f g n ≤ 1
  | 0 => by show 0 ≤ 1; omega
  | n + 1 => by
    have ih := cy_le hf hg n
    have h1 := hf n
    have h2 := hg n
    show (f n + g n + cy f g n) / B64 ≤ 1
    have : (f n + g n + cy f g n) / B64 < 2 := by
      rw [Nat.div_lt_iff_lt_mul B64_pos]; omega
    omega
theorem add_chain (f g : Nat → Nat) : ∀ n, pv (sm f g) n + cy f g n * B64 ^ n = pv f n + pv g n
  | 0 => by show 0 + 0 * B64 ^ 0 = 0 + 0; omega
  | n + 1 => by
    have ih := add_chain f g n
    have hd := Nat.div_add_mod (f n + g n + cy f g n) B64
    show pv (sm f g) n + (f n + g n + cy f g n) % B64 * B64 ^ n + (f n + g n + cy f g n) / B64 * B64 ^ (n + 1) = pv f n + f n * B64 ^ n + (pv g n + g n * B64 ^ n)
    obtain ⟨q, hq⟩ : ∃ q, (f n + g n + cy f g n) / B64 = q := ⟨_, rfl⟩
    obtain ⟨r, hr⟩ : ∃ r, (f n + g n + cy f g n) % B64 = r := ⟨_, rfl⟩
    rw [hq, hr] at hd
    rw [hq, hr, Nat.pow_succ]
    have e1 : q * (B64 ^ n * B64) = B64 * q * B64 ^ n := by
      rw [Nat.mul_comm (B64 ^ n) B64, ← Nat.mul_assoc, Nat.mul_comm q B64]
    have e2 : (B64 * q + r) * B64 ^ n = (f n + g n + cy f g n) * B64 ^ n := by rw [hd]
    rw [Nat.add_mul, Nat.add_mul, Nat.add_mul] at e2
    rw [e1]
    omega
/-- THE SUM: what is kept of it. -/
theorem pv_sum {f g : Nat → Nat} (n : Nat) : pv (sm f g) n = (pv f n + pv g n) % B64 ^ n := by
  have h := add_chain f g n
  have hl := pv_lt n (fun i _ => sm_lt f g i)
  rw [← h, Nat.mul_comm (cy f g n), Nat.add_mul_mod_self_left, Nat.mod_eq_of_lt hl]
/-! ### differences -/
def bo (f g : Nat → Nat) : Nat → Nat
  | 0 => 0
  | n + 1 => if f n < g n + bo f g n then 1 else 0
def df (f g : Nat → Nat) (n : Nat) : Nat := if f n < g n + bo f g n then f n + B64 - (g n + bo f g n) else f n - (g n + bo f g n)
theorem bo_le (f g : Nat → Nat) : ∀ n, bo f g n ≤ 1
  | 0 => by show 0 ≤ 1; omega
  | n + 1 => by show (if f n < g n + bo f g n then 1 else 0) ≤ 1; split <;> omega
theorem df_lt {f g : Nat → Nat} (hf : ∀ i, f i < B64) (n : Nat) : df f g n < B64 := by
  have := hf n
  unfold df; split <;> omega
theorem sub_chain {f g : Nat → Nat} (hg : ∀ i, g i < B64) : ∀ n, pv f n + bo f g n * B64 ^ n = pv g n + pv (df f g) n
  | 0 => by show 0 + 0 * B64 ^ 0 = 0 + 0; omega
  | n + 1 => by
    have ih := sub_chain (f := f) hg n
    have hb := bo_le f g n
    have h2 := hg n
    show pv f n + f n * B64 ^ n + bo f g (n + 1) * B64 ^ (n + 1) = pv g n + g n * B64 ^ n + (pv (df f g) n + df f g n * B64 ^ n)
    have key : f n + bo f g (n + 1) * B64 = g n + bo f g n + df f g n := by
      show f n + (if f n < g n + bo f g n then 1 else 0) * B64 = g n + bo f g n + (if f n < g n + bo f g n then f n + B64 - (g n + bo f g n) else f n - (g n + bo f g n))
      split <;> omega
    have e1 : bo f g (n + 1) * B64 ^ (n + 1) = bo f g (n + 1) * B64 * B64 ^ n := by
      rw [Nat.pow_succ, Nat.mul_comm (B64 ^ n) B64, ← Nat.mul_assoc]
    have e2 : (f n + bo f g (n + 1) * B64) * B64 ^ n = (g n + bo f g n + df f g n) * B64 ^ n := by rw [key]
    rw [Nat.add_mul, Nat.add_mul, Nat.add_mul] at e2
    rw [e1]
    omega
/-- THE DIFFERENCE: what is kept of it. -/
theorem pv_diff {f g : Nat → Nat} (hf : ∀ i, f i < B64) (hg : ∀ i, g i < B64) (n : Nat) : pv (df f g) n = (pv f n + (B64 ^ n - pv g n)) % B64 ^ n := by
  have h := sub_chain (f := f) hg n
  have hl := pv_lt n (fun i _ => df_lt (g := g) hf i)
  have h1 := pv_lt n (fun i _ => hg i)
  have h2 := pv_lt n (fun i _ => hf i)
  have hb := bo_le f g n
  have hc : bo f g n = 0 ∨ bo f g n = 1 := by omega
  rcases hc with hc | hc
  · rw [hc, Nat.zero_mul] at h
    rw [show pv f n + (B64 ^ n - pv g n) = pv (df f g) n + B64 ^ n from by omega, Nat.add_mod_right, Nat.mod_eq_of_lt hl]
  · rw [hc, Nat.one_mul] at h
    rw [show pv f n + (B64 ^ n - pv g n) = pv (df f g) n from by omega, Nat.mod_eq_of_lt hl]
/-! ### windows of bits -/
/-- the limbs from one on -/
theorem pv_split (f : Nat → Nat) (i : Nat) : ∀ n, pv f (i + n) = pv f i + B64 ^ i * pv (fun j => f (i + j)) n
  | 0 => by show pv f i = pv f i + B64 ^ i * 0; omega
  | n + 1 => by
    have ih := pv_split f i n
    show pv f (i + n) + f (i + n) * B64 ^ (i + n) = pv f i + B64 ^ i * (pv (fun j => f (i + j)) n + f (i + n) * B64 ^ n)
    rw [ih, Nat.mul_add, Nat.pow_add, Nat.add_assoc]
    congr 2
    rw [Nat.mul_left_comm]
theorem pv_div {f : Nat → Nat} (hf : ∀ i, f i < B64) (i n : Nat) : pv f (i + n) / B64 ^ i = pv (fun j => f (i + j)) n := by
  have hp : 0 < B64 ^ i := Nat.pow_pos B64_pos
  rw [pv_split f i n, Nat.add_mul_div_left _ _ hp, Nat.div_eq_of_lt (pv_lt i (fun j _ => hf j)), Nat.zero_add]
theorem pv_mod {f : Nat → Nat} (hf : ∀ i, f i < B64) (i n : Nat) : pv f (i + n) % B64 ^ i = pv f i := by
  rw [pv_split f i n, Nat.add_mul_mod_self_left, Nat.mod_eq_of_lt (pv_lt i (fun j _ => hf j))]
/-- 64 bits from a place on, out of two limbs -/
theorem window {f : Nat → Nat} (hf : ∀ i, f i < B64) (i n s : Nat) (hs : s < 64) :
    pv f (i + (n + 2)) / 2 ^ (64 * i + s) % B64 = (f i / 2 ^ s + f (i + 1) * 2 ^ (64 - s)) % B64 := by
  have hp := Nat.two_pow_pos s
  have e0 : B64 = 2 ^ s * 2 ^ (64 - s) := by rw [← Nat.pow_add, show s + (64 - s) = 64 from by omega]; rfl
  rw [Nat.pow_add, ← B64_pow, ← Nat.div_div_eq_div_mul, pv_div hf, pv_succ, pv_succ]
  obtain ⟨rest, hr⟩ : ∃ rest, pv (fun j => f (i + (j + 1 + 1))) n = rest := ⟨_, rfl⟩
  show (f (i + 0) + B64 * (f (i + (0 + 1)) + B64 * pv (fun j => f (i + (j + 1 + 1))) n)) / 2 ^ s % B64 = _
  rw [hr, Nat.add_zero, Nat.zero_add]
  have e1 : B64 * (f (i + 1) + B64 * rest) = 2 ^ s * (2 ^ (64 - s) * (f (i + 1) + B64 * rest)) := by
    conv => lhs; rw [e0]
    rw [Nat.mul_assoc, ← e0]
  rw [e1, Nat.add_mul_div_left _ _ hp, Nat.mul_add, Nat.mul_comm (2 ^ (64 - s)) (f (i + 1)), ← Nat.add_assoc]
  rw [show 2 ^ (64 - s) * (B64 * rest) = B64 * (2 ^ (64 - s) * rest) from Nat.mul_left_comm .., Nat.add_mul_mod_self_left]
/-- nothing lies below a bit -/
theorem low_zero {f : Nat → Nat} (hf : ∀ i, f i < B64) (i n s : Nat) (hs : s < 64) :
    pv f (i + (n + 1)) % 2 ^ (64 * i + s) = 0 ↔ pv f i = 0 ∧ f i % 2 ^ s = 0 := by
  have hp := Nat.two_pow_pos s
  have hB : 0 < B64 ^ i := Nat.pow_pos B64_pos
  have e0 : B64 = 2 ^ s * 2 ^ (64 - s) := by rw [← Nat.pow_add, show s + (64 - s) = 64 from by omega]; rfl
  rw [Nat.pow_add, ← B64_pow, Nat.mod_mul, pv_mod hf, pv_div hf, pv_succ]
  show pv f i + B64 ^ i * ((f (i + 0) + B64 * pv (fun j => f (i + (j + 1))) n) % 2 ^ s) = 0 ↔ _
  have e1 : (f (i + 0) + B64 * pv (fun j => f (i + (j + 1))) n) % 2 ^ s = f i % 2 ^ s := by
    rw [Nat.add_zero, e0, Nat.mul_assoc, Nat.add_mul_mod_self_left]
  rw [e1, Nat.add_eq_zero_iff, Nat.mul_eq_zero]
  constructor
  · rintro ⟨h1, h2 | h2⟩
    · omega
    · exact ⟨h1, h2⟩
  · rintro ⟨h1, h2⟩
    exact ⟨h1, .inr h2⟩
theorem pv_eq_zero {f : Nat → Nat} : ∀ n, pv f n = 0 ↔ ∀ i, i < n → f i = 0
  | 0 => ⟨fun _ i hi => absurd hi (by omega), fun _ => rfl⟩
  | n + 1 => by
    have ih := pv_eq_zero (f := f) n
    have hB : 0 < B64 ^ n := Nat.pow_pos B64_pos
    show pv f n + f n * B64 ^ n = 0 ↔ _
    rw [Nat.add_eq_zero_iff, Nat.mul_eq_zero, ih]
    constructor
    · rintro ⟨h1, h2 | h2⟩
      · intro i hi
        by_cases h : i < n
        · exact h1 i h
        · rw [show i = n from by omega]; exact h2
      · omega
    · intro h
      exact ⟨fun i hi => h i (by omega), .inl (h n (by omega))⟩
/-- the highest bit, where the limbs above are zero -/
theorem top_bit {f : Nat → Nat} (hf : ∀ i, f i < B64) (i n : Nat) (h0 : f i ≠ 0) (hz : ∀ j, i < j → j < i + (n + 1) → f j = 0) :
    (pv f (i + (n + 1))).log2 = 64 * i + (f i).log2 := by
  have hB : 0 < B64 ^ i := Nat.pow_pos B64_pos
  have e : pv f (i + (n + 1)) = pv f i + f i * B64 ^ i := by
    rw [pv_split f i (n + 1), pv_succ, (pv_eq_zero n).2 (fun j hj => hz (i + (j + 1)) (by omega) (by omega))]
    show pv f i + B64 ^ i * (f (i + 0) + B64 * 0) = _
    rw [Nat.mul_zero, Nat.add_zero, Nat.add_zero, Nat.mul_comm]
  have hl := pv_lt i (fun j _ => hf j)
  have hge := Nat.log2_self_le h0
  have hlt := Nat.lt_log2_self (n := f i)
  have hne : pv f i + f i * B64 ^ i ≠ 0 := by
    have := Nat.mul_pos (Nat.pos_of_ne_zero h0) hB
    omega
  rw [e, Nat.log2_eq_iff hne]
  constructor
  · rw [Nat.pow_add, ← B64_pow, Nat.mul_comm]
    exact Nat.le_trans (Nat.mul_le_mul_right _ hge) (Nat.le_add_left _ _)
  · rw [Nat.add_assoc, Nat.pow_add, ← B64_pow, Nat.mul_comm (B64 ^ i)]
    have h1 := Nat.mul_le_mul_right (B64 ^ i) (show f i + 1 ≤ 2 ^ ((f i).log2 + 1) from hlt)
    rw [Nat.add_mul, Nat.one_mul] at h1
    omega
end Go.Proofs.Ytgjejolfkfpobaa.Fl
