/-
  HOW NARROW NUMBERS STAND TO EACH OTHER, by sign and size; the places of a number's neighbours (no program in sight).
-/
import Derived.Test.YtanepboepeijoaaDoorPart
namespace Go.Proofs.YtanepboepeijoaaDoor
open Go.ChangeShapes Go.WideShapes Go.ChangeAt Go.RowKit Go.Deep
open Fl Ieee
def ks (b : Nat) : Int := if neg b then -((sz b : Nat) : Int) else ((sz b : Nat) : Int)
theorem vl_le {s t : Nat} (h : s ≤ t) : vl s ≤ vl t := by
  rcases Nat.eq_or_lt_of_le h with rfl | h
  · exact Nat.le_refl _
  · exact Nat.le_of_lt (vl_lt h)
theorem val_ks (x y : Nat) : compare (valS x) (valS y) = compare (ks x) (ks y) := by
  unfold valS ks
  generalize sz x = s
  generalize sz y = t
  have v0 : ∀ n, 0 < n → 0 < vl n := fun n h => by have := vl_lt h; rw [vl_zero] at this; exact this
  have hz : ∀ n, n = 0 → vl n = 0 := fun n h => by rw [h]; exact vl_zero
  have a1 := v0 s
  have a2 := v0 t
  have b1 := hz s
  have b2 := hz t
  rcases Nat.lt_trichotomy s t with h | h | h
  · have := vl_lt h
    cases neg x <;> cases neg y <;> simp only [Bool.false_eq_true, ↓reduceIte]
    · rw [Int.compare_eq_lt.2 (by omega), Int.compare_eq_lt.2 (by omega)]
    · rw [Int.compare_eq_gt.2 (by omega), Int.compare_eq_gt.2 (by omega)]
    · rw [Int.compare_eq_lt.2 (by omega), Int.compare_eq_lt.2 (by omega)]
    · rw [Int.compare_eq_gt.2 (by omega), Int.compare_eq_gt.2 (by omega)]
  · subst h
    cases neg x <;> cases neg y <;> simp only [Bool.false_eq_true, ↓reduceIte]
    · rw [Int.compare_eq_eq.2 rfl, Int.compare_eq_eq.2 rfl]
    · rcases Nat.eq_zero_or_pos s with h | h
      · have := b1 h
        rw [Int.compare_eq_eq.2 (by omega), Int.compare_eq_eq.2 (by omega)]
      · have := a1 h
        rw [Int.compare_eq_gt.2 (by omega), Int.compare_eq_gt.2 (by omega)]
    · rcases Nat.eq_zero_or_pos s with h | h
      · have := b1 h
        rw [Int.compare_eq_eq.2 (by omega), Int.compare_eq_eq.2 (by omega)]
      · have := a1 h
        rw [Int.compare_eq_lt.2 (by omega), Int.compare_eq_lt.2 (by omega)]
    · rw [Int.compare_eq_eq.2 rfl, Int.compare_eq_eq.2 rfl]
  · have := vl_lt h
    cases neg x <;> cases neg y <;> simp only [Bool.false_eq_true, ↓reduceIte]
    · rw [Int.compare_eq_gt.2 (by omega), Int.compare_eq_gt.2 (by omega)]
    · rw [Int.compare_eq_gt.2 (by omega), Int.compare_eq_gt.2 (by omega)]
    · rw [Int.compare_eq_lt.2 (by omega), Int.compare_eq_lt.2 (by omega)]
    · rw [Int.compare_eq_lt.2 (by omega), Int.compare_eq_lt.2 (by omega)]
theorem read_inf {b : Nat} (hb : W32 b) (h : sz b = 2139095040) : single.read b = .infinity (neg b) := by
  have hn : (b / 2147483648 % 2 == 1) = neg b := by
    unfold neg W32 at *
    rcases Nat.lt_or_ge b 2147483648 with h1 | h1
    · rw [Nat.div_eq_of_lt h1]; simp; omega
    · have : b / 2147483648 = 1 := by omega
      rw [this]; simp; omega
  rw [read32, hn]
  unfold sz at h
  rw [if_neg (by omega), if_neg (by omega), if_pos h]
theorem order_ks {x y : Nat} (hx : W32 x) (hy : W32 y) (kx : sz x ≤ 2139095040) (ky : sz y ≤ 2139095040) : single.order x y = some (compare (ks x) (ks y)) := by
  rcases Nat.lt_or_ge (sz x) 2139095040 with fx | fx
  · rcases Nat.lt_or_ge (sz y) 2139095040 with fy | fy
    · rw [order_fin hx hy fx fy, val_ks]
    · show (single.read x).order (single.read y) = _
      rw [read_fin hx fx, read_inf hy (by omega)]
      unfold ks
      have e : sz y = 2139095040 := by omega
      rw [e]
      cases neg y <;> simp only [Bool.false_eq_true, ↓reduceIte]
      · rw [Int.compare_eq_lt.2 (by split <;> omega)]; rfl
      · rw [Int.compare_eq_gt.2 (by split <;> omega)]; rfl
  · have e : sz x = 2139095040 := by omega
    rcases Nat.lt_or_ge (sz y) 2139095040 with fy | fy
    · show (single.read x).order (single.read y) = _
      rw [read_inf hx e, read_fin hy fy]
      unfold ks
      rw [e]
      cases neg x <;> simp only [Bool.false_eq_true, ↓reduceIte]
      · rw [Int.compare_eq_gt.2 (by split <;> omega)]; rfl
      · rw [Int.compare_eq_lt.2 (by split <;> omega)]; rfl
    · have e2 : sz y = 2139095040 := by omega
      show (single.read x).order (single.read y) = _
      rw [read_inf hx e, read_inf hy e2]
      unfold ks
      rw [e, e2]
      cases neg x <;> cases neg y <;> decide
theorem key_fromKey (k : Int) (h : Place k) : key (fromKey k) = k := by
  unfold Place at h
  unfold key fromKey neg sz
  by_cases hn : k < 0
  · rw [if_pos hn]; simp only [decide_eq_true_eq]; split <;> omega
  · rw [if_neg hn]; simp only [decide_eq_true_eq]; split <;> omega
theorem ks_key (a : Nat) : ks a = if key a < 0 then key a + 1 else key a := by
  unfold ks key
  cases neg a <;> simp only [Bool.false_eq_true, ↓reduceIte] <;> split <;> omega
theorem key_opp (a : Nat) : key (opp a) = -1 - key a := by
  unfold key
  rw [opp_sz]
  have : neg (opp a) = !neg a := by
    unfold opp neg sz
    by_cases h : a ≥ 2147483648 <;> simp [h] <;> omega
  rw [this]
  cases neg a <;> simp <;> omega
theorem kd_fin_key (a : Nat) (hf : kd a < 3) : -2139095040 ≤ key a ∧ key a < 2139095040 := by
  have := fin_sz hf
  unfold key
  cases neg a <;> simp only [Bool.false_eq_true, ↓reduceIte] <;> omega
theorem key_above (a : Nat) (hf : kd a < 3) (h0 : kd a ≠ 0) : key (above a) = key a + 1 := by
  have := kd_fin_key a hf
  unfold above
  rw [if_neg (by omega), if_neg (by omega), if_neg h0]
  exact key_fromKey _ (by unfold Place; omega)
theorem key_above0 (a : Nat) (h0 : kd a = 0) : key (above a) = 1 := by
  have := kd_fin_key a (by omega)
  unfold above
  rw [if_neg (by omega), if_neg (by omega), if_pos h0]
  exact key_fromKey _ place_one
theorem key_below (a : Nat) (hf : kd a < 3) (h0 : kd a ≠ 0) : key (below a) = key a - 1 := by
  unfold below
  rw [key_opp, key_above _ (by rw [opp_kd]; exact hf) (by rw [opp_kd]; exact h0), key_opp]
  omega
theorem key_below0 (a : Nat) (h0 : kd a = 0) : key (below a) = -2 := by
  unfold below
  rw [key_opp, key_above0 _ (by rw [opp_kd]; exact h0)]
  omega
theorem key_not (a : Nat) (h0 : kd a ≠ 0) : key a ≠ 0 ∧ key a ≠ -1 := by
  have : sz a ≠ 0 := fun hc => h0 ((kd_zero_sz a).2 hc)
  unfold key; cases neg a <;> simp only [Bool.false_eq_true, ↓reduceIte] <;> omega
theorem ks_above (a : Nat) (hf : kd a < 3) : ks a < ks (above a) := by
  rw [ks_key, ks_key]
  by_cases h0 : kd a = 0
  · have := key_zero a h0
    rw [key_above0 a h0, this]
    cases neg a <;> simp
  · have := key_not a h0
    rw [key_above a hf h0]
    split <;> split <;> omega
theorem ks_below (a : Nat) (hf : kd a < 3) : ks (below a) < ks a := by
  rw [ks_key, ks_key]
  by_cases h0 : kd a = 0
  · have := key_zero a h0
    rw [key_below0 a h0, this]
    cases neg a <;> simp
  · have := key_not a h0
    rw [key_below a hf h0]
    split <;> split <;> omega
theorem order_above (a : Nat) (h : W32 a) (hf : kd a < 3) : single.order (above a) a = some .gt := by
  rw [order_ks (above_W32 a h) h (kd_le _ (by rw [Ne, kd_above]; omega)) (kd_le a (by omega)), Int.compare_eq_gt.2 (ks_above a hf)]
theorem order_below (a : Nat) (h : W32 a) (hf : kd a < 3) : single.order (below a) a = some .lt := by
  rw [order_ks (below_W32 a) h (kd_le _ (by rw [Ne, kd_below]; omega)) (kd_le a (by omega)), Int.compare_eq_lt.2 (ks_below a hf)]
theorem order_zero (a : Nat) (h : W32 a) (hk : kd a ≠ 4) : single.order a 0 = some (compare (ks a) 0) := by
  rw [order_ks h (by unfold W32; omega) (kd_le a hk) (by decide)]; rfl
/-- a positive number's next one -/
theorem above_pos (a : Nat) (h : W32 a) (hf : kd a < 3) (hn : neg a = false) : above a = a + 1 := by
  have ha : a = sz a := by unfold neg at hn; unfold sz; unfold W32 at h; simp at hn; omega
  have hs := fin_sz hf
  have hk : key a = (a : Int) := by unfold key; rw [hn, ← ha]; rfl
  unfold above
  rw [if_neg (by omega), if_neg (by omega)]
  by_cases h0 : kd a = 0
  · rw [if_pos h0]
    have := (kd_zero_sz a).1 h0
    obtain rfl : a = 0 := by omega
    rfl
  · rw [if_neg h0, hk]
    unfold fromKey
    rw [if_neg (by omega)]
    omega
theorem kd_inf {a : Nat} (hk : kd a = 3) : sz a = 2139095040 := by
  unfold kd at hk
  repeat (split at hk <;> try omega)
theorem above_inf (a : Nat) (hk : kd a = 3) (hn : neg a = false) : above a = a := by
  have hs := kd_inf hk
  unfold above
  rw [if_neg (by omega), if_pos (by unfold key; rw [hn, hs]; rfl)]
theorem below_inf (a : Nat) (h : W32 a) (hk : kd a = 3) (hn : neg a = true) : below a = a := by
  have hno : neg (opp a) = false := by
    unfold opp neg at *
    simp at hn ⊢
    unfold sz W32 at *
    split <;> omega
  unfold below
  rw [above_inf (opp a) (by rw [opp_kd]; exact hk) hno]
  unfold opp neg sz at *
  unfold W32 at h
  simp at hn hno ⊢
  repeat (split <;> try omega)
end Go.Proofs.YtanepboepeijoaaDoor
