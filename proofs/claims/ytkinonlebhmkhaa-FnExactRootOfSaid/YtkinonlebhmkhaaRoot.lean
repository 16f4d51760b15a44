/-
  CONTRACTS: square roots.
-/
import Derived.Test.YtkinonlebhmkhaaCon5
import Derived.Test.YtkinonlebhmkhaaFl2
namespace Go.Proofs.Ytkinonlebhmkhaa
open Go.ChangeShapes Go.WideShapes Go.ChangeAt Go.RowKit
open Fl

theorem sqrt_nan {x : Nat} (h : nan64 x = true) : Ieee.double.sqrt x = none := by
  have h' : 9218868437227405312 < x % 9223372036854775808 := by simpa [nan64] using h
  unfold Ieee.Format.sqrt
  rw [read64, if_neg (by omega), if_neg (by omega), if_neg (by omega)]; rfl
theorem read_widen_inf {a : Nat} (hf : fin32 a = false) (hn : nan32 a = false) : Ieee.double.read (widen a) = .infinity (a / 2147483648 % 2 == 1) := by
  unfold widen
  rw [read32_inf hf hn]
  cases (a / 2147483648 % 2 == 1) <;> decide
/-- The root of a number: a number, or there is none. -/
theorem sqrt_cases (a : Nat) (hk : nan32 a = false) :
    (∃ y r, Ieee.double.sqrt (widen a) = some y ∧ floatToFloatBits .f64 y .f32 = some r ∧ nan32 r = false) ∨ Ieee.double.sqrt (widen a) = none := by
  cases hf : fin32 a
  · have hr := read_widen_inf hf hk
    cases hs : (a / 2147483648 % 2 == 1)
    · rw [hs] at hr
      left
      obtain ⟨r, h1, h2⟩ := narrow_inf (x := Ieee.double.write (.infinity false)) (s := false) (by decide)
      refine ⟨_, r, ?_, h1, h2⟩
      unfold Ieee.Format.sqrt; rw [hr]; rfl
    · rw [hs] at hr
      right
      unfold Ieee.Format.sqrt; rw [hr]; rfl
  · obtain ⟨s, m, p, hr, hm, h1, h2⟩ := read32_num hf
    obtain ⟨k, q, hw, hq⟩ := read_widen_num hr hm h1 h2
    by_cases h0 : m = 0
    · subst h0
      left
      rw [Nat.zero_mul] at hw
      have hwr : Ieee.double.read (Ieee.double.write (.number s 0 q)) = .number s 0 Ieee.double.leastPlace := read_nearest_zero _ _ _
      obtain ⟨r, g1, g2⟩ := narrow_num hwr (fun hc => absurd rfl hc)
      refine ⟨_, r, ?_, g1, g2⟩
      unfold Ieee.Format.sqrt; rw [hw]; rfl
    · cases s
      · left
        have hl := log2_lt24 hm
        obtain ⟨y, n, q', g1, g2, g3⟩ := sqrt_num hw (fun _ => by
          rw [hq h0]
          have : (m * 2 ^ k).log2 ≤ m.log2 + k := by
            have hp := Nat.two_pow_pos k
            refine log2_le (Nat.mul_ne_zero h0 (by omega)) ?_
            calc m * 2 ^ k < 2 ^ (m.log2 + 1) * 2 ^ k := (Nat.mul_lt_mul_right hp).2 Nat.lt_log2_self
              _ = 2 ^ (m.log2 + k + 1) := by rw [← Nat.pow_add]; congr 1; omega
          omega)
        obtain ⟨r, g4, g5⟩ := narrow_num g2 g3
        exact ⟨y, r, g1, g4, g5⟩
      · right
        have hne : m * 2 ^ k ≠ 0 := Nat.mul_ne_zero h0 (by have := Nat.two_pow_pos k; omega)
        unfold Ieee.Format.sqrt
        rw [hw]
        unfold Ieee.Datum.root
        simp only [hne, ↓reduceIte]; rfl

theorem run_sqrt_some {x y : Nat} (h : Ieee.double.sqrt x = some y) (w : World) : (callFunc 62 #[.float .f64 x]).run Try.prog w = .ok (.value (.float .f64 y)) w := by
  rw [run_callFunc_extern Try.func62 (by kernel_rfl) (by kernel_rfl) (by kernel_rfl) (e := Extern.MathSqrt.sqrt) (by kernel_rfl)]
  have h' : FloatKind.f64.format.sqrt x = some y := h
  change (Sem.run Try.prog (match FloatKind.f64.format.sqrt x with | some r => (pure (.float .f64 r) : Sem Value) | none => (do pure (.float .f64 (← choose (.nanBits .f64 x x))))) w).andThen _ = _
  rw [h']
  rfl
theorem run_sqrt_none {x : Nat} (h : Ieee.double.sqrt x = none) (w : World) : (callFunc 62 #[.float .f64 x]).run Try.prog w = .ok (.value (.float .f64 (nanD x x w))) w.drew := by
  rw [run_callFunc_extern Try.func62 (by kernel_rfl) (by kernel_rfl) (by kernel_rfl) (e := Extern.MathSqrt.sqrt) (by kernel_rfl)]
  have h' : FloatKind.f64.format.sqrt x = none := h
  change (Sem.run Try.prog (match FloatKind.f64.format.sqrt x with | some r => (pure (.float .f64 r) : Sem Value) | none => (do pure (.float .f64 (← choose (.nanBits .f64 x x))))) w).andThen _ = _
  rw [h']
  simp [nanD, Question.forced]
theorem Sqrt_some {x y : Nat} (h : Ieee.double.sqrt x = some y) (w : World) :
    Calls Try.prog 58 #[.float .f64 x] w fun e w' => e = .returned (.float .f64 y) ∧ w = w' := by
  have hr := run_sqrt_some h
  clear h
  go_enter Try.func58, Try.ntmps58
  go_wp2
  go_ret
  exact ⟨rfl, rfl⟩
theorem Sqrt_none {x : Nat} (h : Ieee.double.sqrt x = none) (w : World) :
    Calls Try.prog 58 #[.float .f64 x] w fun e w' => e = .returned (.float .f64 (nanD x x w)) ∧ w.drew = w' := by
  have hr := run_sqrt_none h
  clear h
  go_enter Try.func58, Try.ntmps58
  go_wp2
  go_ret
  exact ⟨rfl, rfl⟩
/-- some NaN comes back, and the world has at most drawn from the tape -/
def SomeNaN (w : World) (e : Ending) (w' : World) : Prop := ∃ r, e = .returned (.float .f32 r) ∧ kd r = 4 ∧ ∃ n, w' = w.drewN n
theorem nan_kd4 {r : Nat} (h : nan32 r = true) : kd r = 4 := by rw [nan_kd] at h; simpa using h
theorem implRoot_num {a y r : Nat} (hk : kd a ≠ 4) (h1 : Ieee.double.sqrt (widen a) = some y) (h2 : floatToFloatBits .f64 y .f32 = some r) (w : World) :
    Calls Try.prog 35 #[.float .f32 a] w fun e w' => e = .returned (.float .f32 r) ∧ w = w' := by
  have hc := conv_num a hk
  have hd : ∀ w, (convert 35 24 (.float .f64 y)).run Try.prog w = .ok (.float .f32 r) w := fun w =>
    run_convert_float_float w 35 24 .f64 .f32 y r (by rw [Try.underlying35]; rfl) Try.underlying24 h2
  clear h2 hk
  go_enter Try.func35, Try.ntmps35
  go_wp2_with (go_at_call 58; refine (Sqrt_some h1 _).mono ?_; rintro e w' ⟨rfl, rfl⟩)
  go_ret
  exact ⟨rfl, rfl⟩
theorem l01Root_num {a y r : Nat} (hk : kd a ≠ 4) (h1 : Ieee.double.sqrt (widen a) = some y) (h2 : floatToFloatBits .f64 y .f32 = some r) (w : World) :
    Calls Try.prog 57 #[.float .f32 a] w fun e w' => e = .returned (.float .f32 r) ∧ w = w' := by
  have hc := conv_num a hk
  have hd : ∀ w, (convert 35 24 (.float .f64 y)).run Try.prog w = .ok (.float .f32 r) w := fun w =>
    run_convert_float_float w 35 24 .f64 .f32 y r (by rw [Try.underlying35]; rfl) Try.underlying24 h2
  clear h2 hk
  go_enter Try.func57, Try.ntmps57
  go_wp2_with (go_at_call 58; refine (Sqrt_some h1 _).mono ?_; rintro e w' ⟨rfl, rfl⟩)
  go_ret
  exact ⟨rfl, rfl⟩
theorem narrow_nan64 (y : Nat) (h : nan64 y = true) (w : World) : (convert 35 24 (.float .f64 y)).run Try.prog w = .ok (.float .f32 (nanC32 y w)) w.drew :=
  run_narrow_nan w 35 24 y Try.underlying35 Try.underlying24 h
theorem implRoot_none {a : Nat} (hk : kd a ≠ 4) (h1 : Ieee.double.sqrt (widen a) = none) (w : World) :
    Calls Try.prog 35 #[.float .f32 a] w (SomeNaN w) := by
  have hc := conv_num a hk
  have hd := narrow_nan64 (nanD (widen a) (widen a) w) (nanD_nan _ _ _)
  clear hk
  go_enter Try.func35, Try.ntmps35
  go_wp2_with (go_at_call 58; refine (Sqrt_none h1 _).mono ?_; rintro e w' ⟨rfl, rfl⟩)
  go_ret
  exact ⟨_, rfl, nan_kd4 (nanC32_nan _ _), 2, rfl⟩
theorem implRoot_nan {a : Nat} (hk : kd a = 4) (w : World) :
    Calls Try.prog 35 #[.float .f32 a] w (SomeNaN w) := by
  have hc := conv_nan a hk
  have h1 := sqrt_nan (nanC64_nan a w)
  have hd := narrow_nan64 (nanD (nanC64 a w) (nanC64 a w) w.drew) (nanD_nan _ _ _)
  clear hk
  go_enter Try.func35, Try.ntmps35
  go_wp2_with (go_at_call 58; refine (Sqrt_none h1 _).mono ?_; rintro e w' ⟨rfl, rfl⟩)
  go_ret
  exact ⟨_, rfl, nan_kd4 (nanC32_nan _ _), 3, rfl⟩
theorem l01Root_none {a : Nat} (hk : kd a ≠ 4) (h1 : Ieee.double.sqrt (widen a) = none) (w : World) :
    Calls Try.prog 57 #[.float .f32 a] w (SomeNaN w) := by
  have hc := conv_num a hk
  have hd := narrow_nan64 (nanD (widen a) (widen a) w) (nanD_nan _ _ _)
  clear hk
  go_enter Try.func57, Try.ntmps57
  go_wp2_with (go_at_call 58; refine (Sqrt_none h1 _).mono ?_; rintro e w' ⟨rfl, rfl⟩)
  go_ret
  exact ⟨_, rfl, nan_kd4 (nanC32_nan _ _), 2, rfl⟩
theorem l01Root_nan {a : Nat} (hk : kd a = 4) (w : World) :
    Calls Try.prog 57 #[.float .f32 a] w (SomeNaN w) := by
  have hc := conv_nan a hk
  have h1 := sqrt_nan (nanC64_nan a w)
  have hd := narrow_nan64 (nanD (nanC64 a w) (nanC64 a w) w.drew) (nanD_nan _ _ _)
  clear hk
  go_enter Try.func57, Try.ntmps57
  go_wp2_with (go_at_call 58; refine (Sqrt_none h1 _).mono ?_; rintro e w' ⟨rfl, rfl⟩)
  go_ret
  exact ⟨_, rfl, nan_kd4 (nanC32_nan _ _), 3, rfl⟩
end Go.Proofs.Ytkinonlebhmkhaa
