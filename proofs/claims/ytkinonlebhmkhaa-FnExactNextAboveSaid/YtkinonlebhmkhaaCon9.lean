/-
  CONTRACTS: the specification's flush; parts of numbers.
-/
import Derived.Test.YtkinonlebhmkhaaCon8
namespace Go.Proofs.Ytkinonlebhmkhaa
open Go.ChangeShapes Go.WideShapes Go.ChangeAt Go.RowKit
open Fl

theorem narrow_zeroAs (x : Nat) (w : World) : (convert 35 24 (.float .f64 (zeroAs x))).run Try.prog w = .ok (.float .f32 (if 9223372036854775808 ≤ x then 2147483648 else 0)) w := by
  unfold zeroAs
  by_cases hx : 9223372036854775808 ≤ x
  · rw [if_pos hx, if_pos hx]
    exact run_convert_float_float w 35 24 .f64 .f32 _ _ (by rw [Try.underlying35]; rfl) Try.underlying24 narrow_minus
  · rw [if_neg hx, if_neg hx]
    exact run_convert_float_float w 35 24 .f64 .f32 _ _ (by rw [Try.underlying35]; rfl) Try.underlying24 narrow_zero
theorem flush_value (a : Nat) (h : W32 a) (hk : kd a = 1) : (if 9223372036854775808 ≤ widen a then 2147483648 else 0) = flush a := by
  have hs := widen_sign (b := a) (by rw [fin_kd, hk]; rfl) h
  unfold flush
  rw [if_pos hk]
  unfold neg
  by_cases hn : 2147483648 ≤ a
  · rw [if_pos (hs.2 hn), if_pos (by simpa using hn)]
  · rw [if_neg (fun hc => hn (hs.1 hc)), if_neg (by simpa using hn)]
theorem specFlush_any (a : Nat) (h : W32 a) (w : World) :
    Calls Try.prog 32 #[.float .f32 a] w fun e w' => e = .returned (.float .f32 (flush a)) ∧ (w = w' ∨ w.drew = w') := by
  by_cases hk : kd a = 1
  · have hc := conv_num a (by rw [hk]; decide)
    have hz := narrow_zeroAs (widen a)
    have hf := flush_value a h hk
    rw [hf] at hz
    clear hf
    go_enter Try.func32, Try.ntmps32
    go_wp2_with (first | (go_at_call 17; refine (specKindOf_any _ h _).mono ?_; rintro e w' ⟨rfl, rfl | rfl⟩) | (go_at_call 55; refine (copysign_zero _ (widen_lt a) _).mono ?_; rintro e w' ⟨rfl, rfl⟩))
    all_goals
      go_ret
      first | exact ⟨rfl, .inl rfl⟩ | exact ⟨rfl, .inr rfl⟩
  · have hb : (kd a != 1) = true := by simpa using hk
    have hfl : flush a = a := by unfold flush; rw [if_neg hk]
    have hfl := Lib.hid hfl
    go_enter Try.func32, Try.ntmps32
    go_wp2_with (go_at_call 17; refine (specKindOf_any _ h _).mono ?_; rintro e w' ⟨rfl, rfl | rfl⟩)
    all_goals
      go_ret
      first | exact ⟨ret_float hfl.out.symm, .inl rfl⟩ | exact ⟨ret_float hfl.out.symm, .inr rfl⟩
theorem kd_flush (a : Nat) : kd (flush a) = 4 ↔ kd a = 4 := by
  unfold flush
  split
  · rename_i hk
    rw [hk]
    split <;> exact ⟨fun h => absurd h (by decide), fun h => absurd h (by decide)⟩
  · rfl
/-! ### parts -/
theorem frac_sub (a : Nat) (h : kd a = 0 ∨ kd a = 1) : sz a < 8388608 := by
  rcases Nat.lt_or_ge (sz a) 8388608 with hc | hc
  · exact hc
  · exfalso
    unfold kd at h
    rw [if_neg (by omega), if_neg (by omega)] at h
    split at h
    · omega
    · split at h <;> omega
theorem frac_nor (a : Nat) (h : kd a = 2) : 8388608 ≤ sz a ∧ sz a < 2139095040 := by
  unfold kd at h
  split at h
  · omega
  · split at h
    · omega
    · split at h
      · omega
      · split at h <;> omega
theorem field_test (a : Nat) : ((sz a / 8388608 : Nat) : Int) = 0 ↔ sz a < 8388608 := by omega
theorem l01Parts_any (a : Nat) (h : W32 a) (w : World) :
    Calls Try.prog 47 #[.float .f32 a] w fun e w' => e = .returned (.tuple #[.bool (neg a), .int .i64 (frac a), .int .i64 (expo a)]) ∧ w = w' := by
  have h1 := top31 a h
  have h2 := low23 a h
  have h3 := field8 a h
  have hl : sz a ≤ 2147483647 := by have := sz_lt a; omega
  have hl2 : a ≤ 4294967295 := by unfold W32 at h; omega
  rw [show ((a / 8388608 : Nat) : Int) = (a : Int) / 8388608 from by omega] at h3
  by_cases hs : sz a < 8388608
  · have h4 : (((sz a / 8388608 : Nat) : Int) == 0) = true := by simp; omega
    have e1 : frac a = sz a % 8388608 := by unfold frac; rw [if_pos hs]; omega
    have e2 : expo a = -149 := by unfold expo; rw [if_pos hs]
    have e1 := Lib.hid e1
    have e2 := Lib.hid e2
    clear hs
    go_enter Try.func47, Try.ntmps47
    go_wp2
    go_ret3
    exact ⟨by rw [e1.out, e2.out]; rfl, rfl⟩
  · have h4 : (((sz a / 8388608 : Nat) : Int) == 0) = false := by simp; omega
    have e1 : ((frac a : Nat) : Int) = ((sz a % 8388608 : Nat) : Int) + 8388608 := by unfold frac; rw [if_neg hs]; omega
    have e2 : expo a = ((sz a / 8388608 : Nat) : Int) - 150 := by unfold expo; rw [if_neg hs]
    have b1 : ((sz a % 8388608 : Nat) : Int) ≤ 8388607 := by omega
    have b2 : ((sz a / 8388608 : Nat) : Int) ≤ 255 := by omega
    have b3 : (0 : Int) ≤ ((sz a % 8388608 : Nat) : Int) := by omega
    have b4 : (0 : Int) ≤ ((sz a / 8388608 : Nat) : Int) := by omega
    have e1 := Lib.hid e1
    have e2 := Lib.hid e2
    clear hs
    go_enter Try.func47, Try.ntmps47
    go_wp2
    go_ret3
    exact ⟨by rw [e1.out, e2.out]; rfl, rfl⟩
end Go.Proofs.Ytkinonlebhmkhaa
