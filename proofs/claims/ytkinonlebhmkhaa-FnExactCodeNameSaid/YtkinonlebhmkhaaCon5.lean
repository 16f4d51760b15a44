/-
  CONTRACTS: numbers at places, the next numbers.
-/
import Derived.Test.YtkinonlebhmkhaaCon4
namespace Go.Proofs.Ytkinonlebhmkhaa
open Go.ChangeShapes Go.WideShapes Go.ChangeAt Go.RowKit
open Fl

theorem l00In_yes (n l r : Int) (h1 : l ≤ n) (h2 : n ≤ r) (w : World) :
    Calls Try.prog 40 #[.int .i64 n, .int .i64 l, .int .i64 r] w fun e w' => e = .returned (.bool true) ∧ w = w' := by
  have g1 : decide (l ≤ n) = true := by simpa using h1
  have g2 : decide (n ≤ r) = true := by simpa using h2
  go_enter Try.func40, Try.ntmps40
  go_wp2
  go_ret
  exact ⟨rfl, rfl⟩
theorem l00In_no (n l r : Int) (h : n < l ∨ r < n) (w : World) :
    Calls Try.prog 40 #[.int .i64 n, .int .i64 l, .int .i64 r] w fun e w' => e = .returned (.bool false) ∧ w = w' := by
  rcases h with h | h
  · have g1 : decide (l ≤ n) = false := by simp; omega
    go_enter Try.func40, Try.ntmps40
    go_wp2
    go_ret
    exact ⟨rfl, rfl⟩
  · by_cases hl : l ≤ n
    · have g1 : decide (l ≤ n) = true := by simpa using hl
      have g2 : decide (n ≤ r) = false := by simp; omega
      go_enter Try.func40, Try.ntmps40
      go_wp2
      go_ret
      exact ⟨rfl, rfl⟩
    · have g1 : decide (l ≤ n) = false := by simp; omega
      go_enter Try.func40, Try.ntmps40
      go_wp2
      go_ret
      exact ⟨rfl, rfl⟩
theorem implFromOrderKey_yes (k : Int) (h : Place k) (w : World) :
    Calls Try.prog 26 #[.int .i64 k] w fun e w' => e = .returned (.tuple #[.float .f32 (fromKey k), .int .i64 0]) ∧ w = w' := by
  have hp := h
  unfold Place at hp
  have g1 : decide (k < -2139095041) = false := by simp; omega
  have g2 : decide (2139095040 < k) = false := by simp; omega
  clear hp
  go_enter Try.func26, Try.ntmps26
  go_wp2_with (go_at_call 52; refine (atPlace_any _ h _).mono ?_; rintro e w' ⟨rfl, rfl⟩)
  go_ret2
  exact ⟨rfl, rfl⟩
theorem implFromOrderKey_no (k : Int) (h : ¬ Place k) (w : World) :
    Calls Try.prog 26 #[.int .i64 k] w fun e w' => e = .returned (.tuple #[.float .f32 0, .int .i64 2]) ∧ w = w' := by
  have hp := h
  unfold Place at hp
  by_cases c : k < -2139095041
  · have g1 : decide (k < -2139095041) = true := by simpa using c
    clear hp c
    go_enter Try.func26, Try.ntmps26
    go_wp2
    go_ret2
    exact ⟨rfl, rfl⟩
  · have g1 : decide (k < -2139095041) = false := by simpa using c
    have g2 : decide (2139095040 < k) = true := by simp; omega
    clear hp c
    go_enter Try.func26, Try.ntmps26
    go_wp2
    go_ret2
    exact ⟨rfl, rfl⟩
theorem specFromOrderKey_yes (k : Int) (h : Place k) (w : World) :
    Calls Try.prog 25 #[.int .i64 k] w fun e w' => e = .returned (.tuple #[.float .f32 (fromKey k), .int .i64 0]) ∧ w = w' := by
  go_enter Try.func25, Try.ntmps25
  go_wp2_with (first | (go_at_call 40; refine (l00In_yes _ _ _ h.1 h.2 _).mono ?_; rintro e w' ⟨rfl, rfl⟩) | (go_at_call 51; refine (l01FromKey_any _ h _).mono ?_; rintro e w' ⟨rfl, rfl⟩))
  go_ret2
  exact ⟨rfl, rfl⟩
theorem specFromOrderKey_no (k : Int) (h : ¬ Place k) (w : World) :
    Calls Try.prog 25 #[.int .i64 k] w fun e w' => e = .returned (.tuple #[.float .f32 0, .int .i64 2]) ∧ w = w' := by
  have hp : k < -2139095041 ∨ 2139095040 < k := by unfold Place at h; omega
  go_enter Try.func25, Try.ntmps25
  go_wp2_with (go_at_call 40; refine (l00In_no _ _ _ hp _).mono ?_; rintro e w' ⟨rfl, rfl⟩)
  go_ret2
  exact ⟨rfl, rfl⟩
/-! ### how a number of 32 bits is widened -/
theorem conv_num (g : Nat) (h : kd g ≠ 4) (w : World) : (convert 24 35 (.float .f32 g)).run Try.prog w = .ok (.float .f64 (widen g)) w :=
  run_convert_float_float w 24 35 .f32 .f64 g (widen g) (by rw [Try.underlying24]; rfl) Try.underlying35 (widen_bits (by rw [nan_kd]; simpa using h)).1
theorem widen_num (g : Nat) (h : kd g ≠ 4) : nan64 (widen g) = false := (widen_bits (by rw [nan_kd]; simpa using h)).2
theorem conv_nan (g : Nat) (h : kd g = 4) (w : World) : (convert 24 35 (.float .f32 g)).run Try.prog w = .ok (.float .f64 (nanC64 g w)) w.drew :=
  run_widen_nan w 24 35 g Try.underlying24 Try.underlying35 (by rw [nan_kd]; simpa using h)
theorem kd_fromKey (k : Int) (h : Place k) : kd (fromKey k) ≠ 4 := by
  unfold Place at h
  have hs : sz (fromKey k) ≤ 2139095040 := by
    unfold fromKey sz
    by_cases hn : k < 0
    · rw [if_pos hn]; omega
    · rw [if_neg hn]; omega
  unfold kd
  split
  · decide
  · split
    · decide
    · split
      · decide
      · split
        · decide
        · omega
theorem kd_0 : kd 0 = 0 := rfl
end Go.Proofs.Ytkinonlebhmkhaa
