/-
  CONTRACTS of the functions that take numbers apart and find their places.
-/
import Derived.Test.YtkinonlebhmkhaaCon
namespace Go.Proofs.Ytkinonlebhmkhaa
open Go.ChangeShapes Go.WideShapes Go.ChangeAt Go.RowKit
open Fl

theorem fin_kd (a : Nat) : fin32 a = decide (kd a < 3) := by
  unfold fin32 kd sz
  by_cases h1 : a % 2147483648 = 0
  · simp [h1]
  · by_cases h2 : a % 2147483648 < 8388608
    · simp [h1, h2]; omega
    · by_cases h3 : a % 2147483648 < 2139095040
      · simp [h1, h2, h3]
      · by_cases h4 : a % 2147483648 = 2139095040
        · simp [h4]
        · simp [h1, h2, h3, h4]
/-- 'the world has at most drawn from the tape' -/
def Drew (w w' : World) : Prop := ∃ n, w' = w.drewN n
theorem order32_zero : (FloatKind.f32.format.order 0 0 == some .eq) = true := by decide
theorem l01Finite_fin (a : Nat) (hf : kd a < 3) (w : World) :
    Calls Try.prog 43 #[.float .f32 a] w fun e w' => e = .returned (.bool true) ∧ w = w' := by
  have hop : ∀ t w, (binOp .sub t (.float .f32 a) (.float .f32 a)).run Try.prog w = .ok (.float .f32 0) w := fun t w => run_float_arith w .sub t .f32 a a 0 (sub_self_fin (by rw [fin_kd]; simpa using hf))
  have h0 := order32_zero
  go_enter Try.func43, Try.ntmps43
  go_wp2_with (simp only [hop])
  go_ret
  exact ⟨rfl, rfl⟩
theorem l01Finite_odd (a : Nat) (hf : 3 ≤ kd a) (w : World) :
    Calls Try.prog 43 #[.float .f32 a] w fun e w' => e = .returned (.bool false) ∧ w.drew = w' := by
  have hop : ∀ t w, (binOp .sub t (.float .f32 a) (.float .f32 a)).run Try.prog w = .ok (.float .f32 (nanS a a w)) w.drew := fun t w => run_arith_nan32 w .sub t a a (by simp) (sub_self_odd (by rw [fin_kd]; simpa using hf))
  have h0 : ∀ w, (FloatKind.f32.format.order (nanS a a w) 0 == some .eq) = false := fun w => by rw [show FloatKind.f32.format.order (nanS a a w) 0 = none from order32_nanL 0 (nanS_nan a a w)]; rfl
  go_enter Try.func43, Try.ntmps43
  go_wp2_with (simp only [hop])
  go_ret
  exact ⟨rfl, rfl⟩
theorem specKindOf_any (a : Nat) (h : W32 a) (w : World) :
    Calls Try.prog 17 #[.float .f32 a] w fun e w' => e = .returned (.int .i64 (kd a)) ∧ (w = w' ∨ w.drew = w') := by
  have hm := and_mask a h
  rcases cls a with ⟨hk, h1⟩ | ⟨hk, h1, h2⟩ | ⟨hk, h1, h2, h3⟩ | ⟨hk, h1, h2, h3, h4⟩ | ⟨hk, h1, h2, h3, h4⟩
  all_goals
    go_enter Try.func17, Try.ntmps17
    go_wp2_with (first | (go_at_call 42; refine (l01NaN_any _ _).mono ?_; rintro e w' ⟨rfl, rfl⟩) | (go_at_call 43; first | (refine (l01Finite_fin _ (by rw [hk]; decide) _).mono ?_; rintro e w' ⟨rfl, rfl⟩) | (refine (l01Finite_odd _ (by rw [hk]; decide) _).mono ?_; rintro e w' ⟨rfl, rfl⟩)))
    go_ret
    first | exact ⟨by rw [hk]; rfl, .inl rfl⟩ | exact ⟨by rw [hk]; rfl, .inr rfl⟩
theorem implKindOf_any (a : Nat) (h : W32 a) (w : World) :
    Calls Try.prog 18 #[.float .f32 a] w fun e w' => e = .returned (.int .i64 (kd a)) ∧ w = w' := by
  go_enter Try.func18, Try.ntmps18
  go_wp2_with (go_at_call 44; refine (kindOf_any _ h _).mono ?_; rintro e w' ⟨rfl, rfl⟩)
  go_ret
  exact ⟨rfl, rfl⟩
end Go.Proofs.Ytkinonlebhmkhaa
