import Derived.Test.YtgjejolfkfpobaaSf
import Derived.BigQuiet
import Derived.Deep.QuietTactic
import Derived.Deep.DeepFit
namespace Go.Proofs.Ytgjejolfkfpobaa
open Go.ChangeShapes Go.WideShapes Go.ChangeAt Go.RowKit
open Fl
@[go_sem] theorem call_f32bits (b : Nat) (w : World) : (callFunc 81 #[.float .f32 b]).run Try.prog w = .ok (.value (.int .u32 b)) w := by
  rw [run_callFunc_extern Try.func81 (by kernel_rfl) (by kernel_rfl) (by kernel_rfl) (e := Extern.MathFloatBits.float32bits) (by kernel_rfl)]; rfl
@[go_sem] theorem call_f32from (n : Int) (w : World) : (callFunc 72 #[.int .u32 n]).run Try.prog w = .ok (.value (.float .f32 n.toNat)) w := by
  rw [run_callFunc_extern Try.func72 (by kernel_rfl) (by kernel_rfl) (by kernel_rfl) (e := Extern.MathFloatBits.float32frombits) (by kernel_rfl)]; rfl
theorem kindOf_any (a : Nat) (h : W32 a) (w : World) :
    Calls Try.prog 87 #[.float .f32 a] w fun e w' => e = .returned (.int .i64 (kd a)) ∧ w = w' := by
  have hm := and_mask a h
  rcases cls a with ⟨hk, h1⟩ | ⟨hk, h1, h2⟩ | ⟨hk, h1, h2, h3⟩ | ⟨hk, h1, h2, h3, h4⟩ | ⟨hk, h1, h2, h3, h4⟩
  all_goals
    go_enter Try.func87, Try.ntmps87
    go_wp2
    go_ret
    exact ⟨by rw [hk]; rfl, rfl⟩
theorem isNegative_any (a : Nat) (h : W32 a) (w : World) :
    Calls Try.prog 133 #[.float .f32 a] w fun e w' => e = .returned (.bool (neg a)) ∧ w = w' := by
  have hm := and_sign a h
  cases hn : neg a
  all_goals
    rw [hn] at hm
    simp only [Bool.false_eq_true, ↓reduceIte] at hm
    go_enter Try.func133, Try.ntmps133
    go_wp2
    go_ret
    exact ⟨rfl, rfl⟩
theorem fin_kd (a : Nat) : fin32 a = decide (kd a < 3) := by
  unfold fin32 kd sz
  by_cases h1 : a % 2147483648 = 0
  · simp [h1]
  · by_cases h2 : a % 2147483648 < 8388608
    · simp [h1, h2]; omega
    · by_cases h3 : a % 2147483648 < 2139095040
      · simp [h1, h2, h3]
      · by_cases h4 : a % 2147483648 = 2139095040
        · simp [h4]
        · simp [h1, h2, h3, h4]
theorem order32_zero : (FloatKind.f32.format.order 0 0 == some .eq) = true := by decide
theorem l01Finite_fin (a : Nat) (hf : kd a < 3) (w : World) :
    Calls Try.prog 63 #[.float .f32 a] w fun e w' => e = .returned (.bool true) ∧ w = w' := by
  have hop : ∀ t w, (binOp .sub t (.float .f32 a) (.float .f32 a)).run Try.prog w = .ok (.float .f32 0) w := fun t w => run_float_arith w .sub t .f32 a a 0 (sub_self_fin (by rw [fin_kd]; simpa using hf))
  have h0 := order32_zero
  go_enter Try.func63, Try.ntmps63
  go_wp2_with (simp only [hop])
  go_ret
  exact ⟨rfl, rfl⟩
theorem l01Finite_odd (a : Nat) (hf : 3 ≤ kd a) (w : World) :
    Calls Try.prog 63 #[.float .f32 a] w fun e w' => e = .returned (.bool false) ∧ w.drew = w' := by
  have hop : ∀ t w, (binOp .sub t (.float .f32 a) (.float .f32 a)).run Try.prog w = .ok (.float .f32 (nanS a a w)) w.drew := fun t w => run_arith_nan32 w .sub t a a (by simp) (sub_self_odd (by rw [fin_kd]; simpa using hf))
  have h0 : ∀ w, (FloatKind.f32.format.order (nanS a a w) 0 == some .eq) = false := fun w => by rw [show FloatKind.f32.format.order (nanS a a w) 0 = none from order32_nanL 0 (nanS_nan a a w)]; rfl
  go_enter Try.func63, Try.ntmps63
  go_wp2_with (simp only [hop])
  go_ret
  exact ⟨rfl, rfl⟩
@[go_sem] theorem call_f64from (n : Int) (w : World) : (callFunc 96 #[.int .u64 n]).run Try.prog w = .ok (.value (.float .f64 n.toNat)) w := by
  rw [run_callFunc_extern Try.func96 (by kernel_rfl) (by kernel_rfl) (by kernel_rfl) (e := Extern.MathFloatBits.float64frombits) (by kernel_rfl)]; rfl
theorem frac_sub (a : Nat) (h : kd a = 0 ∨ kd a = 1) : sz a < 8388608 := by
  rcases Nat.lt_or_ge (sz a) 8388608 with hc | hc
  · exact hc
  · exfalso
    unfold kd at h
    rw [if_neg (by omega), if_neg (by omega)] at h
    split at h
    · omega
    · split at h <;> omega
theorem frac_nor (a : Nat) (h : kd a = 2) : 8388608 ≤ sz a ∧ sz a < 2139095040 := by
  unfold kd at h
  split at h
  · omega
  · split at h
    · omega
    · split at h
      · omega
      · split at h <;> omega
theorem field_test (a : Nat) : ((sz a / 8388608 : Nat) : Int) = 0 ↔ sz a < 8388608 := by omega
theorem l01Parts_any (a : Nat) (h : W32 a) (w : World) :
    Calls Try.prog 122 #[.float .f32 a] w fun e w' => e = .returned (.tuple #[.bool (neg a), .int .i64 (frac a), .int .i64 (expo a)]) ∧ w = w' := by
  have h1 := top31 a h
  have h2 := low23 a h
  have h3 := field8 a h
  have hl : sz a ≤ 2147483647 := by have := sz_lt a; omega
  have hl2 : a ≤ 4294967295 := by unfold W32 at h; omega
  rw [show ((a / 8388608 : Nat) : Int) = (a : Int) / 8388608 from by omega] at h3
  by_cases hs : sz a < 8388608
  · have h4 : (((sz a / 8388608 : Nat) : Int) == 0) = true := by simp; omega
    have e1 : frac a = sz a % 8388608 := by unfold frac; rw [if_pos hs]; omega
    have e2 : expo a = -149 := by unfold expo; rw [if_pos hs]
    have e1 := Lib.hid e1
    have e2 := Lib.hid e2
    clear hs
    go_enter Try.func122, Try.ntmps122
    go_wp2
    go_ret3
    exact ⟨by rw [e1.out, e2.out]; rfl, rfl⟩
  · have h4 : (((sz a / 8388608 : Nat) : Int) == 0) = false := by simp; omega
    have e1 : ((frac a : Nat) : Int) = ((sz a % 8388608 : Nat) : Int) + 8388608 := by unfold frac; rw [if_neg hs]; omega
    have e2 : expo a = ((sz a / 8388608 : Nat) : Int) - 150 := by unfold expo; rw [if_neg hs]
    have b1 : ((sz a % 8388608 : Nat) : Int) ≤ 8388607 := by omega
    have b2 : ((sz a / 8388608 : Nat) : Int) ≤ 255 := by omega
    have b3 : (0 : Int) ≤ ((sz a % 8388608 : Nat) : Int) := by omega
    have b4 : (0 : Int) ≤ ((sz a / 8388608 : Nat) : Int) := by omega
    have e1 := Lib.hid e1
    have e2 := Lib.hid e2
    clear hs
    go_enter Try.func122, Try.ntmps122
    go_wp2
    go_ret3
    exact ⟨by rw [e1.out, e2.out]; rfl, rfl⟩
theorem implSplit_odd (a : Nat) (h : W32 a) (hf : 3 ≤ kd a) (w : World) :
    Calls Try.prog 125 #[.float .f32 a] w fun e w' => e = .returned (.tuple #[.bool false, .int .i64 0, .int .i64 0, .int .i64 2]) ∧ w = w' := by
  have hm := and_mask a h
  have g0 : (kd a == 0) = false := by simp; omega
  have g1 : (kd a == 1) = false := by simp; omega
  have g2 : (kd a == 2) = false := by simp; omega
  go_enter Try.func125, Try.ntmps125
  go_wp2_with (go_at_call 87; refine (kindOf_any _ h _).mono ?_; rintro e w' ⟨rfl, rfl⟩)
  exact bodyPost_ret (v := .tuple #[.bool false, .int .i64 0, .int .i64 0, .int .i64 2]) (by simp [results, Try.results125, go_sem]) rfl ⟨rfl, rfl⟩
theorem implSplit_fin (a : Nat) (h : W32 a) (hf : kd a < 3) (w : World) :
    Calls Try.prog 125 #[.float .f32 a] w fun e w' => e = .returned (.tuple #[.bool (neg a), .int .i64 (frac a), .int .i64 (expo a), .int .i64 0]) ∧ w = w' := by
  have hm := and_mask a h
  have hl : (sz a : Int) ≤ 2147483647 := by have := sz_lt a; omega
  have hl0 : (0 : Int) ≤ (sz a : Int) := by omega
  rcases cls a with ⟨hk, _⟩ | ⟨hk, _⟩ | ⟨hk, _⟩ | ⟨hk, _⟩ | ⟨hk, _⟩
  · have hs := frac_sub a (.inl hk)
    have e1 : frac a = sz a := by unfold frac; rw [if_pos hs]
    have e2 : expo a = -149 := by unfold expo; rw [if_pos hs]
    rw [e1, e2]
    clear e1 e2 hs hf
    go_enter Try.func125, Try.ntmps125
    go_wp2_with (first | (go_at_call 87; refine (kindOf_any _ h _).mono ?_; rintro e w' ⟨rfl, rfl⟩) | (go_at_call 133; refine (isNegative_any _ h _).mono ?_; rintro e w' ⟨rfl, rfl⟩))
    exact bodyPost_ret (v := .tuple #[.bool (neg a), .int .i64 (sz a), .int .i64 (-149), .int .i64 0]) (by simp [results, Try.results125, go_sem]) rfl ⟨rfl, rfl⟩
  · have hs := frac_sub a (.inr hk)
    have e1 : frac a = sz a := by unfold frac; rw [if_pos hs]
    have e2 : expo a = -149 := by unfold expo; rw [if_pos hs]
    rw [e1, e2]
    clear e1 e2 hs hf
    go_enter Try.func125, Try.ntmps125
    go_wp2_with (first | (go_at_call 87; refine (kindOf_any _ h _).mono ?_; rintro e w' ⟨rfl, rfl⟩) | (go_at_call 133; refine (isNegative_any _ h _).mono ?_; rintro e w' ⟨rfl, rfl⟩))
    exact bodyPost_ret (v := .tuple #[.bool (neg a), .int .i64 (sz a), .int .i64 (-149), .int .i64 0]) (by simp [results, Try.results125, go_sem]) rfl ⟨rfl, rfl⟩
  · have hs := frac_nor a hk
    have l1 := low23' a
    have l2 : bits .or .i64 ((sz a : Int) % 8388608) 8388608 = 8388608 + (sz a : Int) % 8388608 := by
      rw [show ((sz a : Int) % 8388608) = ((sz a % 8388608 : Nat) : Int) from by omega, hid23 (sz a)]; omega
    have e1 : (frac a : Int) = 8388608 + (sz a : Int) % 8388608 := by unfold frac; rw [if_neg (by omega)]; omega
    have e2 : expo a = (sz a : Int) / 8388608 - 1 + -149 := by unfold expo; rw [if_neg (by omega)]; omega
    have b1 : (1 : Int) ≤ (sz a : Int) / 8388608 := by omega
    have b2 : (sz a : Int) / 8388608 ≤ 255 := by omega
    rw [e1, e2]
    clear e1 e2 hs hf
    go_enter Try.func125, Try.ntmps125
    go_wp2_with (first | (go_at_call 87; refine (kindOf_any _ h _).mono ?_; rintro e w' ⟨rfl, rfl⟩) | (go_at_call 133; refine (isNegative_any _ h _).mono ?_; rintro e w' ⟨rfl, rfl⟩))
    exact bodyPost_ret (v := .tuple #[.bool (neg a), .int .i64 (8388608 + (sz a : Int) % 8388608), .int .i64 ((sz a : Int) / 8388608 - 1 + -149), .int .i64 0]) (by simp [results, Try.results125, go_sem]) rfl ⟨rfl, rfl⟩
  · omega
  · omega
end Go.Proofs.Ytgjejolfkfpobaa
