/-
  A NUMBER AND ITS PARTS; a number and the next one.
-/
import Derived.Test.YtanepboepeijoaaDoorUni
namespace Go.Proofs.YtanepboepeijoaaDoor
open Go.ChangeShapes Go.WideShapes Go.ChangeAt Go.RowKit Go.Deep
open Fl Ieee
theorem fin_sz {a : Nat} (hf : kd a < 3) : sz a < 2139095040 := by
  unfold kd at hf
  repeat (split at hf <;> try omega)
theorem frac_mm (a : Nat) : frac a = mm (sz a) := rfl
theorem expo_ex (a : Nat) : expo a = -149 + (ex (sz a) : Nat) := by
  unfold expo ex
  split <;> omega
theorem nearest_one {e : Int} (p : Nat) (hp : e + 640 = p) (h0 : -149 ≤ e) (h1 : e ≤ 104) : single.nearest false 1 e = wordE (1 * 2 ^ p) := by
  have hx := exact_one (fr := 1) (p := p) (by omega) (by omega) (by omega)
  have hV : 1 * 2 ^ p ≠ 0 := by have := Nat.two_pow_pos p; omega
  have a2 := nearest_scale single false 1 e p
  rw [show e - (p : Int) = -640 from by omega] at a2
  rw [← a2, nearest_limbs _ _ hV, keptBits_exact hx.even, word_false]
  unfold wordE sizeZ
  rw [Nat.add_comm]
/-- the next number less the number: the unit -/
theorem sub_next (a p : Nat) (h : a + 1 < 2139095040) (hp : expo a + 640 = p) : single.sub (a + 1) a = some (wordE (1 * 2 ^ p)) := by
  have ha : sz a = a := Nat.mod_eq_of_lt (by omega)
  have hu : sz (a + 1) = a + 1 := Nat.mod_eq_of_lt (by omega)
  have hn : neg a = false := by unfold neg; simp; omega
  have hnu : neg (a + 1) = false := by unfold neg; simp; omega
  have e0 := expo_ex a
  rw [ha] at e0
  have hexm : ex a ≤ ex (a + 1) := by unfold ex; split <;> split <;> omega
  have hex1 : ex a ≤ 253 := by unfold ex; split <;> omega
  show ((single.read (a + 1)).sum (single.read a).opposite).map single.write = _
  rw [read_fin (b := a + 1) (by unfold W32; omega) (by rw [hu]; omega), read_fin (b := a) (by unfold W32; omega) (by rw [ha]; omega), hn, hnu, ha, hu]
  have hb : min (-149 + ((ex (a + 1) : Nat) : Int)) (-149 + ((ex a : Nat) : Int)) = -149 + ((ex a : Nat) : Int) := by omega
  have e1 : ((-149 + ((ex (a + 1) : Nat) : Int)) - (-149 + ((ex a : Nat) : Int))).toNat = ex (a + 1) - ex a := by omega
  have e2 : ((-149 + ((ex a : Nat) : Int)) - (-149 + ((ex a : Nat) : Int))).toNat = 0 := by omega
  have hv : mm (a + 1) * 2 ^ (ex (a + 1) - ex a) = mm a + 1 := by
    have h1 := vl_succ a
    unfold vl at h1
    have h2 : mm (a + 1) * 2 ^ ex (a + 1) = mm (a + 1) * 2 ^ (ex (a + 1) - ex a) * 2 ^ ex a := by
      rw [Nat.mul_assoc, ← Nat.pow_add, Nat.sub_add_cancel hexm]
    rw [h2, show mm a * 2 ^ ex a + 2 ^ ex a = (mm a + 1) * 2 ^ ex a from by rw [Nat.add_mul, Nat.one_mul]] at h1
    exact Nat.eq_of_mul_eq_mul_right (Nat.two_pow_pos _) h1
  have ht : signed false (mm (a + 1)) (ex (a + 1) - ex a) + signed true (mm a) 0 = 1 := by
    unfold signed
    rw [Nat.shiftLeft_eq, Nat.shiftLeft_eq, hv]
    simp
    omega
  simp only [Datum.opposite, Datum.sum, Bool.not_false]
  rw [hb, e1, e2, ht]
  show some (single.nearest false 1 (-149 + ((ex a : Nat) : Int))) = _
  rw [nearest_one p (by omega) (by omega) (by omega)]
/-- the parts of a number, put together -/
theorem wordE_parts (a p : Nat) (hf : kd a < 3) (hp : expo a + 640 = p) : wordE (frac a * 2 ^ p) = sz a := by
  have hs := fin_sz hf
  rw [frac_mm]
  have he := expo_ex a
  generalize sz a = s at *
  have hp' : p = 491 + ex s := by omega
  have hl : lastBit (mm s * 2 ^ p) = p := by
    unfold lastBit
    rcases Nat.eq_zero_or_pos (mm s) with h0 | h0
    · rw [h0, Nat.zero_mul]
      have : ex s = 0 := by unfold mm at h0; unfold ex; split at h0 <;> simp_all
      rw [Nat.log2_zero]; omega
    · rw [log2_scale (by omega)]
      unfold mm ex at *
      split at hp'
      · rename_i h1
        rw [if_pos h1] at h0 ⊢
        have := log2_lt24 (m := s) (by omega)
        omega
      · rename_i h1
        rw [if_neg h1] at h0 ⊢
        have h2 : (8388608 + s % 8388608).log2 = 23 := by
          rw [Nat.log2_eq_iff (by omega)]
          constructor <;> omega
        rw [h2]; omega
  unfold wordE
  rw [hl, Nat.mul_div_cancel _ (Nat.two_pow_pos p), hp']
  unfold sizeZ mm ex
  split <;> omega
end Go.Proofs.YtanepboepeijoaaDoor
