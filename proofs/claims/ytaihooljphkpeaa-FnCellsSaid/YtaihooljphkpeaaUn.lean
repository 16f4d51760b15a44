import Derived.Test.YtaihooljphkpeaaSf
import Derived.BigQuiet
import Derived.Deep.QuietTactic
import Derived.Deep.DeepFit
namespace Go.Proofs.Ytaihooljphkpeaa
open Go.ChangeShapes Go.WideShapes Go.ChangeAt Go.RowKit
open Fl
@[go_sem] theorem call_f32bits (b : Nat) (w : World) : (callFunc 32 #[.float .f32 b]).run Try.prog w = .ok (.value (.int .u32 b)) w := by
  rw [run_callFunc_extern Try.func32 (by kernel_rfl) (by kernel_rfl) (by kernel_rfl) (e := Extern.MathFloatBits.float32bits) (by kernel_rfl)]; rfl
theorem kindOf_any (a : Nat) (h : W32 a) (w : World) :
    Calls Try.prog 26 #[.float .f32 a] w fun e w' => e = .returned (.int .i64 (kd a)) ∧ w = w' := by
  have hm := and_mask a h
  rcases cls a with ⟨hk, h1⟩ | ⟨hk, h1, h2⟩ | ⟨hk, h1, h2, h3⟩ | ⟨hk, h1, h2, h3, h4⟩ | ⟨hk, h1, h2, h3, h4⟩
  all_goals
    go_enter Try.func26, Try.ntmps26
    go_wp2
    go_ret
    exact ⟨by rw [hk]; rfl, rfl⟩
theorem fin_kd (a : Nat) : fin32 a = decide (kd a < 3) := by
  unfold fin32 kd sz
  by_cases h1 : a % 2147483648 = 0
  · simp [h1]
  · by_cases h2 : a % 2147483648 < 8388608
    · simp [h1, h2]; omega
    · by_cases h3 : a % 2147483648 < 2139095040
      · simp [h1, h2, h3]
      · by_cases h4 : a % 2147483648 = 2139095040
        · simp [h4]
        · simp [h1, h2, h3, h4]
theorem order32_zero : (FloatKind.f32.format.order 0 0 == some .eq) = true := by decide
theorem l01Finite_fin (a : Nat) (hf : kd a < 3) (w : World) :
    Calls Try.prog 30 #[.float .f32 a] w fun e w' => e = .returned (.bool true) ∧ w = w' := by
  have hop : ∀ t w, (binOp .sub t (.float .f32 a) (.float .f32 a)).run Try.prog w = .ok (.float .f32 0) w := fun t w => run_float_arith w .sub t .f32 a a 0 (sub_self_fin (by rw [fin_kd]; simpa using hf))
  have h0 := order32_zero
  go_enter Try.func30, Try.ntmps30
  go_wp2_with (simp only [hop])
  go_ret
  exact ⟨rfl, rfl⟩
theorem l01Finite_odd (a : Nat) (hf : 3 ≤ kd a) (w : World) :
    Calls Try.prog 30 #[.float .f32 a] w fun e w' => e = .returned (.bool false) ∧ w.drew = w' := by
  have hop : ∀ t w, (binOp .sub t (.float .f32 a) (.float .f32 a)).run Try.prog w = .ok (.float .f32 (nanS a a w)) w.drew := fun t w => run_arith_nan32 w .sub t a a (by simp) (sub_self_odd (by rw [fin_kd]; simpa using hf))
  have h0 : ∀ w, (FloatKind.f32.format.order (nanS a a w) 0 == some .eq) = false := fun w => by rw [show FloatKind.f32.format.order (nanS a a w) 0 = none from order32_nanL 0 (nanS_nan a a w)]; rfl
  go_enter Try.func30, Try.ntmps30
  go_wp2_with (simp only [hop])
  go_ret
  exact ⟨rfl, rfl⟩
@[go_sem] theorem call_f64from (n : Int) (w : World) : (callFunc 39 #[.int .u64 n]).run Try.prog w = .ok (.value (.float .f64 n.toNat)) w := by
  rw [run_callFunc_extern Try.func39 (by kernel_rfl) (by kernel_rfl) (by kernel_rfl) (e := Extern.MathFloatBits.float64frombits) (by kernel_rfl)]; rfl
theorem frac_sub (a : Nat) (h : kd a = 0 ∨ kd a = 1) : sz a < 8388608 := by
  rcases Nat.lt_or_ge (sz a) 8388608 with hc | hc
  · exact hc
  · exfalso
    unfold kd at h
    rw [if_neg (by omega), if_neg (by omega)] at h
    split at h
    · omega
    · split at h <;> omega
theorem frac_nor (a : Nat) (h : kd a = 2) : 8388608 ≤ sz a ∧ sz a < 2139095040 := by
  unfold kd at h
  split at h
  · omega
  · split at h
    · omega
    · split at h
      · omega
      · split at h <;> omega
theorem field_test (a : Nat) : ((sz a / 8388608 : Nat) : Int) = 0 ↔ sz a < 8388608 := by omega
end Go.Proofs.Ytaihooljphkpeaa
