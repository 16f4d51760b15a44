import Derived.Test.YtanepboepeijoaaDoorPc
namespace Go.Proofs.YtanepboepeijoaaDoor
open Go.ChangeShapes Go.WideShapes Go.ChangeAt Go.RowKit
open Fl
@[go_sem] theorem call_f64bits (b : Nat) (w : World) : (callFunc 87 #[.float .f64 b]).run Tryd.prog w = .ok (.value (.int .u64 b)) w := by
  rw [run_callFunc_extern Tryd.func87 (by kernel_rfl) (by kernel_rfl) (by kernel_rfl) (e := Extern.MathFloatBits.float64bits) (by kernel_rfl)]; rfl
/-- a zero with the sign of a wide number -/
def zeroAs (x : Nat) : Nat := if 9223372036854775808 ≤ x then 9223372036854775808 else 0
theorem and_top (x : Nat) (h : x < 18446744073709551616) : bits .and .u64 (x : Int) 9223372036854775808 = (zeroAs x : Int) := by
  rw [show (9223372036854775808 : Int) = ((9223372036854775808 : Nat) : Int) from rfl, u64_and_nat x _ h (by omega)]
  congr 1
  rw [show (9223372036854775808 : Nat) = 2 ^ 63 from rfl, nat_bit]
  unfold zeroAs
  by_cases hn : 9223372036854775808 ≤ x
  · rw [if_pos hn]; omega
  · rw [if_neg hn]; omega
theorem andNot_zero : bits .andNot .u64 0 9223372036854775808 = 0 := by
  rw [show (9223372036854775808 : Int) = ((9223372036854775808 : Nat) : Int) from rfl, show (0 : Int) = ((0 : Nat) : Int) from rfl, u64_andNot_nat 0 _ (by omega) (by omega)]
  rw [Nat.zero_and]
theorem or_zero (x : Nat) (h : x < 18446744073709551616) : bits .or .u64 0 (x : Int) = (x : Int) := by
  rw [show (0 : Int) = ((0 : Nat) : Int) from rfl, u64_or_nat 0 x (by omega) h, Nat.zero_or]
theorem zeroAs_lt (x : Nat) : zeroAs x < 18446744073709551616 := by unfold zeroAs; split <;> omega
set_option maxRecDepth 100000 in
theorem copysign_zero (x : Nat) (h : x < 18446744073709551616) (w : World) :
    Calls Tryd.prog 65 #[.float .f64 0, .float .f64 x] w fun e w' => e = .returned (.float .f64 (zeroAs x)) ∧ w = w' := by
  have h1 := and_top x h
  have h2 := andNot_zero
  have h3 := or_zero (zeroAs x) (zeroAs_lt x)
  clear h
  go_enter Tryd.func65, Tryd.ntmps65
  go_wp2
  go_ret
  exact ⟨rfl, rfl⟩
theorem narrow_zeroAs (x : Nat) (w : World) : (convert 28 22 (.float .f64 (zeroAs x))).run Tryd.prog w = .ok (.float .f32 (if 9223372036854775808 ≤ x then 2147483648 else 0)) w := by
  unfold zeroAs
  by_cases hx : 9223372036854775808 ≤ x
  · rw [if_pos hx, if_pos hx]
    exact run_convert_float_float w 28 22 .f64 .f32 _ _ (by rw [Tryd.underlying28]; rfl) Tryd.underlying22 narrow_minus
  · rw [if_neg hx, if_neg hx]
    exact run_convert_float_float w 28 22 .f64 .f32 _ _ (by rw [Tryd.underlying28]; rfl) Tryd.underlying22 narrow_zero
end Go.Proofs.YtanepboepeijoaaDoor
