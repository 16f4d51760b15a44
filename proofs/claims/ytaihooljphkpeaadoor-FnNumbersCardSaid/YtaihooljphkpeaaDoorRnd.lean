/-
  PLAIN MATHEMATICS OF ROUNDING (no program in sight): the nearest word does not depend on how the number is written; how limbs are rounded.
-/
import Derived.Test.YtaihooljphkpeaaDoorFl2
namespace Go.Proofs.YtaihooljphkpeaaDoor.Fl
open Ieee

theorem log2_scale {m : Nat} (hm : m ≠ 0) (k : Nat) : (m * 2 ^ k).log2 = m.log2 + k := by
  have hp := Nat.two_pow_pos k
  have hne : m * 2 ^ k ≠ 0 := Nat.mul_ne_zero hm (by omega)
  rw [Nat.log2_eq_iff hne]
  constructor
  · rw [Nat.pow_add]; exact Nat.mul_le_mul_right _ (Nat.log2_self_le hm)
  · rw [show m.log2 + k + 1 = (m.log2 + 1) + k from by omega, Nat.pow_add]
    exact (Nat.mul_lt_mul_right hp).2 Nat.lt_log2_self
theorem cut_scale (s : Bool) {n : Nat} (hn : n ≠ 0) (d k : Nat) : Toward.even.cut s (n * 2 ^ k) (d + k) = Toward.even.cut s n d := by
  have hp := Nat.two_pow_pos k
  unfold Toward.cut
  simp only [Nat.one_shiftLeft]
  rw [log2_scale hn, show min (d + k) (n.log2 + k + 2) = min d (n.log2 + 2) + k from by omega, Nat.pow_add]
  rw [Nat.mul_div_mul_right _ _ hp, Nat.mul_mod_mul_right]
  have e1 : ∀ a b : Nat, decide (a * 2 ^ k < 2 * (b * 2 ^ k)) = decide (a < 2 * b) := fun a b => by
    rw [← Nat.mul_assoc, decide_eq_decide]; exact Nat.mul_lt_mul_right hp
  have e2 : ∀ a b : Nat, (a * 2 ^ k == 2 * (b * 2 ^ k)) = (a == 2 * b) := fun a b => by
    rw [← Nat.mul_assoc, Bool.eq_iff_iff, beq_iff_eq, beq_iff_eq]
    exact ⟨fun h => Nat.eq_of_mul_eq_mul_right hp h, fun h => by rw [h]⟩
  simp only [e1, e2]
theorem cut_exact (s : Bool) {n : Nat} (hn : n ≠ 0) (d : Nat) : Toward.even.cut s (n * 2 ^ d) d = n := by
  have h := cut_scale s hn 0 d
  rw [Nat.zero_add] at h
  rw [h, cut_zero]
/-- The nearest word does not depend on how the number is written. -/
theorem nearest_scale (f : Format) (s : Bool) (m : Nat) (p : Int) (k : Nat) : f.nearest s (m * 2 ^ k) (p - k) = f.nearest s m p := by
  by_cases hm : m = 0
  · subst hm; rw [Nat.zero_mul]; rfl
  · have hp := Nat.two_pow_pos k
    have hne : m * 2 ^ k ≠ 0 := Nat.mul_ne_zero hm (by omega)
    have hl := log2_scale hm k
    unfold Format.nearest
    rw [if_neg hne, if_neg hm]
    have e0 : (p - (k : Int)) + ((m * 2 ^ k).log2 : Int) - (f.fractionBits : Int) = p + (m.log2 : Int) - (f.fractionBits : Int) := by rw [hl]; omega
    simp only [e0]
    obtain ⟨last, hlast⟩ : ∃ last, last = max (p + (m.log2 : Int) - (f.fractionBits : Int)) f.leastPlace := ⟨_, rfl⟩
    rw [← hlast]
    congr 3
    by_cases h1 : last ≤ p - k
    · rw [show (last - (p - k)).toNat = 0 from by omega, show (last - p).toNat = 0 from by omega, cut_zero, cut_zero, Nat.shiftLeft_eq, Nat.shiftLeft_eq, Nat.mul_assoc, ← Nat.pow_add]
      congr 2; omega
    · by_cases h2 : last ≤ p
      · obtain ⟨d, hd⟩ : ∃ d : Nat, (last - (p - k)).toNat = d := ⟨_, rfl⟩
        rw [hd, show (p - k - last).toNat = 0 from by omega, show (last - p).toNat = 0 from by omega, cut_zero, Nat.shiftLeft_zero, Nat.shiftLeft_eq]
        have hk : k = (p - last).toNat + d := by omega
        have hne2 : m * 2 ^ (p - last).toNat ≠ 0 := Nat.mul_ne_zero hm (by have := Nat.two_pow_pos (p - last).toNat; omega)
        rw [show m * 2 ^ k = m * 2 ^ (p - last).toNat * 2 ^ d from by rw [Nat.mul_assoc, ← Nat.pow_add, ← hk]]
        exact cut_exact s hne2 d
      · obtain ⟨d, hd⟩ : ∃ d : Nat, (last - p).toNat = d := ⟨_, rfl⟩
        rw [hd, show (last - (p - k)).toNat = d + k from by omega, show (p - k - last).toNat = 0 from by omega, show (p - last).toNat = 0 from by omega, Nat.shiftLeft_zero, Nat.shiftLeft_zero]
        exact cut_scale s hm d k

/-! ### how a great whole number, in units of 2 to the power -640, is rounded by its bits -/
/-- the place of the last bit that is kept -/
def lastBit (V : Nat) : Nat := max (V.log2 - 23) 491
/-- what is kept of the number, rounded -/
def keptBits (V : Nat) : Nat :=
  V / 2 ^ (lastBit V - 1) / 2 + (V / 2 ^ (lastBit V - 1) % 2 == 1 && (V / 2 ^ (lastBit V - 1) / 2 % 2 == 1 || V % 2 ^ (lastBit V - 1) != 0)).toNat
theorem cut_kept (s : Bool) (V : Nat) (hV : V ≠ 0) : Toward.even.cut s V (lastBit V) = keptBits V := by
  obtain ⟨h, hh⟩ : ∃ h, lastBit V = h + 1 := ⟨lastBit V - 1, by unfold lastBit; omega⟩
  unfold keptBits
  rw [hh, Nat.add_sub_cancel]
  have hH := Nat.two_pow_pos h
  have hlt : V < 2 ^ (V.log2 + 1) := Nat.lt_log2_self
  unfold Toward.cut
  simp only [Nat.one_shiftLeft]
  by_cases hc : h + 1 ≤ V.log2 + 2
  · rw [Nat.min_eq_left hc]
    have e2 : 2 ^ (h + 1) = 2 ^ h * 2 := Nat.pow_succ ..
    rw [e2, ← Nat.div_div_eq_div_mul]
    obtain ⟨H, hHe⟩ : ∃ H, H = 2 ^ h := ⟨_, rfl⟩
    rw [← hHe] at hH ⊢
    obtain ⟨a, ha⟩ : ∃ a, V / H = a := ⟨_, rfl⟩
    obtain ⟨r, hr⟩ : ∃ r, V % H = r := ⟨_, rfl⟩
    have hV2 : V = H * a + r := by rw [← ha, ← hr]; exact (Nat.div_add_mod V H).symm
    have hrH : r < H := by rw [← hr]; exact Nat.mod_lt _ hH
    clear hHe e2
    have hmod : V % (H * 2) = H * (a % 2) + r := by
      rw [Nat.mod_mul, hr, ha]; omega
    rw [ha, hr, hmod]
    congr 2
    rcases Nat.mod_two_eq_zero_or_one a with h0 | h0
    · rw [h0, Nat.mul_zero, Nat.zero_add]
      have : decide (H * 2 < 2 * r) = false := by simp; omega
      have : (H * 2 == 2 * r) = false := by simp; omega
      simp [*]
    · rw [h0, Nat.mul_one]
      by_cases hr0 : r = 0
      · subst hr0
        have e3 : decide (H * 2 < 2 * (H + 0)) = false := by simp; omega
        have e4 : (H * 2 == 2 * (H + 0)) = true := by simp; omega
        rw [e3, e4]; simp
      · have e3 : decide (H * 2 < 2 * (H + r)) = true := by simp; omega
        have e5 : (r != 0) = true := by simpa using hr0
        rw [e3, e5]; simp
  · rw [Nat.min_eq_right (by omega)]
    have hsmall : V < 2 ^ h := Nat.lt_of_lt_of_le hlt (Nat.pow_le_pow_right (by omega) (by omega))
    have h4 : 2 ^ (V.log2 + 2) = 2 ^ (V.log2 + 1) * 2 := Nat.pow_succ ..
    have hz : V / 2 ^ (V.log2 + 2) = 0 := Nat.div_eq_of_lt (by omega)
    have hm : V % 2 ^ (V.log2 + 2) = V := Nat.mod_eq_of_lt (by omega)
    have hz2 : V / 2 ^ h = 0 := Nat.div_eq_of_lt hsmall
    rw [hz, hm, hz2]
    have e3 : decide (2 ^ (V.log2 + 2) < 2 * V) = false := by simp; omega
    have e4 : (2 ^ (V.log2 + 2) == 2 * V) = false := by simp; omega
    rw [e3, e4]; simp
theorem nearest_limbs (s : Bool) (V : Nat) (hV : V ≠ 0) :
    single.nearest s V (-640) = single.word s (min ((lastBit V - 491) * 8388608 + keptBits V) 2139095040) := by
  unfold Format.nearest
  rw [if_neg hV]
  have e1 : single.fractionBits = 23 := rfl
  have e2 : single.leastPlace = -149 := rfl
  have e3 : single.binade = 8388608 := rfl
  have e4 : single.infRung = 2139095040 := rfl
  have hl : max (-640 + (V.log2 : Int) - (single.fractionBits : Int)) single.leastPlace = (lastBit V : Int) - 640 := by
    rw [e1, e2]; unfold lastBit; omega
  have hge : 491 ≤ lastBit V := by unfold lastBit; omega
  dsimp only
  rw [hl, e2, e3, e4]
  rw [show (-640 - ((lastBit V : Int) - 640)).toNat = 0 from by omega, Nat.shiftLeft_zero, show ((lastBit V : Int) - 640 - -640).toNat = lastBit V from by omega, show ((lastBit V : Int) - 640 - -149).toNat = lastBit V - 491 from by omega, cut_kept s V hV]
end Go.Proofs.YtaihooljphkpeaaDoor.Fl
