/-
  HOW FINITE NARROW NUMBERS STAND TO EACH OTHER, by their values in units of 2 to the power -149 (no program in sight).
-/
import Derived.Test.YtanepboepeijoaaDoorBits
import Derived.Test.YtanepboepeijoaaDoorRnd
namespace Go.Proofs.YtanepboepeijoaaDoor.Fl
open Ieee
/-- the value of a size, in the least unit -/
def ex (s : Nat) : Nat := if s < 8388608 then 0 else s / 8388608 - 1
def mm (s : Nat) : Nat := if s < 8388608 then s else 8388608 + s % 8388608
def vl (s : Nat) : Nat := mm s * 2 ^ ex s
theorem vl_succ (s : Nat) : vl (s + 1) = vl s + 2 ^ ex s := by
  unfold vl mm ex
  by_cases h1 : s + 1 < 8388608
  · rw [if_pos h1, if_pos h1, if_pos (by omega), if_pos (by omega)]; omega
  · by_cases h2 : s < 8388608
    · obtain rfl : s = 8388607 := by omega
      decide
    · rw [if_neg h1, if_neg h1, if_neg h2, if_neg h2]
      by_cases h3 : s % 8388608 = 8388607
      · have e1 : (s + 1) % 8388608 = 0 := by omega
        have e2 : (s + 1) / 8388608 = s / 8388608 + 1 := by omega
        have e3 : s / 8388608 + 1 - 1 = (s / 8388608 - 1) + 1 := by omega
        rw [e1, e2, e3, h3, Nat.pow_succ]
        omega
      · have e1 : (s + 1) % 8388608 = s % 8388608 + 1 := by omega
        have e2 : (s + 1) / 8388608 = s / 8388608 := by omega
        rw [e1, e2, ← Nat.add_assoc, Nat.add_mul, Nat.one_mul]
theorem vl_lt {s t : Nat} (h : s < t) : vl s < vl t := by
  induction t with
  | zero => omega
  | succ t ih =>
    rw [vl_succ]
    have := Nat.two_pow_pos (ex t)
    rcases Nat.lt_or_ge s t with h1 | h1
    · have := ih h1; omega
    · obtain rfl : s = t := by omega
      omega
theorem vl_zero : vl 0 = 0 := by decide
theorem read_fin {b : Nat} (hb : W32 b) (h : sz b < 2139095040) : single.read b = .number (neg b) (mm (sz b)) (-149 + (ex (sz b) : Nat)) := by
  have hn : (b / 2147483648 % 2 == 1) = neg b := by
    unfold neg W32 at *
    rcases Nat.lt_or_ge b 2147483648 with h1 | h1
    · rw [Nat.div_eq_of_lt h1]; simp; omega
    · have : b / 2147483648 = 1 := by omega
      rw [this]; simp; omega
  rw [read32, hn]
  unfold mm ex
  unfold sz at *
  by_cases h1 : b % 2147483648 < 8388608
  · rw [if_pos h1, if_pos h1, if_pos h1]; rfl
  · rw [if_neg h1, if_neg h1, if_neg h1, if_pos h]
/-- the value with its sign -/
def valS (b : Nat) : Int := if neg b then -((vl (sz b) : Nat) : Int) else ((vl (sz b) : Nat) : Int)
theorem compare_scale (a b : Int) (c : Nat) : compare (a * ((2 ^ c : Nat) : Int)) (b * ((2 ^ c : Nat) : Int)) = compare a b := by
  have hc : (0 : Int) < ((2 ^ c : Nat) : Int) := by have := Nat.two_pow_pos c; omega
  rcases Int.lt_trichotomy a b with h | h | h
  · rw [Int.compare_eq_lt.2 h, Int.compare_eq_lt.2 (Int.mul_lt_mul_of_pos_right h hc)]
  · subst h; rw [Int.compare_eq_eq.2 rfl, Int.compare_eq_eq.2 rfl]
  · rw [Int.compare_eq_gt.2 h, Int.compare_eq_gt.2 (Int.mul_lt_mul_of_pos_right h hc)]
theorem signed_val (s : Bool) (m k c : Nat) : signed s m k * ((2 ^ c : Nat) : Int) = if s then -((m * 2 ^ (k + c) : Nat) : Int) else ((m * 2 ^ (k + c) : Nat) : Int) := by
  unfold signed
  rw [Nat.shiftLeft_eq, Nat.pow_add, ← Nat.mul_assoc]
  cases s
  · simp
  · simp [Int.neg_mul]
theorem order_fin {x y : Nat} (hx : W32 x) (hy : W32 y) (fx : sz x < 2139095040) (fy : sz y < 2139095040) : single.order x y = some (compare (valS x) (valS y)) := by
  show (single.read x).order (single.read y) = _
  rw [read_fin hx fx, read_fin hy fy]
  show some (compare (signed (neg x) (mm (sz x)) ((-149 + ((ex (sz x) : Nat) : Int)) - min (-149 + ((ex (sz x) : Nat) : Int)) (-149 + ((ex (sz y) : Nat) : Int))).toNat) (signed (neg y) (mm (sz y)) ((-149 + ((ex (sz y) : Nat) : Int)) - min (-149 + ((ex (sz x) : Nat) : Int)) (-149 + ((ex (sz y) : Nat) : Int))).toNat)) = _
  have e1 : ((-149 + ((ex (sz x) : Nat) : Int)) - min (-149 + ((ex (sz x) : Nat) : Int)) (-149 + ((ex (sz y) : Nat) : Int))).toNat = ex (sz x) - min (ex (sz x)) (ex (sz y)) := by omega
  have e2 : ((-149 + ((ex (sz y) : Nat) : Int)) - min (-149 + ((ex (sz x) : Nat) : Int)) (-149 + ((ex (sz y) : Nat) : Int))).toNat = ex (sz y) - min (ex (sz x)) (ex (sz y)) := by omega
  rw [e1, e2, ← compare_scale _ _ (min (ex (sz x)) (ex (sz y))), signed_val, signed_val]
  rw [Nat.sub_add_cancel (Nat.min_le_left _ _), Nat.sub_add_cancel (Nat.min_le_right _ _)]
  rfl
/-- a size that is the next one's distance: the difference of neighbours -/
theorem order_gt {x y : Nat} (hx : W32 x) (hy : W32 y) (fx : sz x < 2139095040) (fy : sz y < 2139095040) (h : valS y < valS x) : single.order x y = some .gt := by
  rw [order_fin hx hy fx fy, Int.compare_eq_gt.2 h]
theorem order_lt {x y : Nat} (hx : W32 x) (hy : W32 y) (fx : sz x < 2139095040) (fy : sz y < 2139095040) (h : valS x < valS y) : single.order x y = some .lt := by
  rw [order_fin hx hy fx fy, Int.compare_eq_lt.2 h]
theorem order_eq {x y : Nat} (hx : W32 x) (hy : W32 y) (fx : sz x < 2139095040) (fy : sz y < 2139095040) (h : valS x = valS y) : single.order x y = some .eq := by
  rw [order_fin hx hy fx fy, Int.compare_eq_eq.2 h]
end Go.Proofs.YtanepboepeijoaaDoor.Fl
