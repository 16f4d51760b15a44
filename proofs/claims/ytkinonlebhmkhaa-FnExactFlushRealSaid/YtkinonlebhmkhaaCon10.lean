/-
  CONTRACTS: parts of numbers, as the exported functions give them.
-/
import Derived.Test.YtkinonlebhmkhaaCon9
namespace Go.Proofs.Ytkinonlebhmkhaa
open Go.ChangeShapes Go.WideShapes Go.ChangeAt Go.RowKit
open Fl

theorem specSplit_fin (a : Nat) (h : W32 a) (hf : kd a < 3) (w : World) :
    Calls Try.prog 21 #[.float .f32 a] w fun e w' => e = .returned (.tuple #[.bool (neg a), .int .i64 (frac a), .int .i64 (expo a), .int .i64 0]) ∧ w = w' := by
  go_enter Try.func21, Try.ntmps21
  go_wp2_with (first | (go_at_call 43; refine (l01Finite_fin _ hf _).mono ?_; rintro e w' ⟨rfl, rfl⟩) | (go_at_call 47; refine (l01Parts_any _ h _).mono ?_; rintro e w' ⟨rfl, rfl⟩))
  exact bodyPost_ret (v := .tuple #[.bool (neg a), .int .i64 (frac a), .int .i64 (expo a), .int .i64 0]) (by simp [results, Try.results21, go_sem]) rfl ⟨rfl, rfl⟩
theorem specSplit_odd (a : Nat) (hf : 3 ≤ kd a) (w : World) :
    Calls Try.prog 21 #[.float .f32 a] w fun e w' => e = .returned (.tuple #[.bool false, .int .i64 0, .int .i64 0, .int .i64 2]) ∧ w.drew = w' := by
  go_enter Try.func21, Try.ntmps21
  go_wp2_with (go_at_call 43; refine (l01Finite_odd _ hf _).mono ?_; rintro e w' ⟨rfl, rfl⟩)
  exact bodyPost_ret (v := .tuple #[.bool false, .int .i64 0, .int .i64 0, .int .i64 2]) (by simp [results, Try.results21, go_sem]) rfl ⟨rfl, rfl⟩
theorem implSplit_odd (a : Nat) (h : W32 a) (hf : 3 ≤ kd a) (w : World) :
    Calls Try.prog 22 #[.float .f32 a] w fun e w' => e = .returned (.tuple #[.bool false, .int .i64 0, .int .i64 0, .int .i64 2]) ∧ w = w' := by
  have hm := and_mask a h
  have g0 : (kd a == 0) = false := by simp; omega
  have g1 : (kd a == 1) = false := by simp; omega
  have g2 : (kd a == 2) = false := by simp; omega
  go_enter Try.func22, Try.ntmps22
  go_wp2_with (go_at_call 44; refine (kindOf_any _ h _).mono ?_; rintro e w' ⟨rfl, rfl⟩)
  exact bodyPost_ret (v := .tuple #[.bool false, .int .i64 0, .int .i64 0, .int .i64 2]) (by simp [results, Try.results22, go_sem]) rfl ⟨rfl, rfl⟩
theorem implSplit_fin (a : Nat) (h : W32 a) (hf : kd a < 3) (w : World) :
    Calls Try.prog 22 #[.float .f32 a] w fun e w' => e = .returned (.tuple #[.bool (neg a), .int .i64 (frac a), .int .i64 (expo a), .int .i64 0]) ∧ w = w' := by
  have hm := and_mask a h
  have hl : (sz a : Int) ≤ 2147483647 := by have := sz_lt a; omega
  have hl0 : (0 : Int) ≤ (sz a : Int) := by omega
  rcases cls a with ⟨hk, _⟩ | ⟨hk, _⟩ | ⟨hk, _⟩ | ⟨hk, _⟩ | ⟨hk, _⟩
  · have hs := frac_sub a (.inl hk)
    have e1 : frac a = sz a := by unfold frac; rw [if_pos hs]
    have e2 : expo a = -149 := by unfold expo; rw [if_pos hs]
    rw [e1, e2]
    clear e1 e2 hs hf
    go_enter Try.func22, Try.ntmps22
    go_wp2_with (first | (go_at_call 44; refine (kindOf_any _ h _).mono ?_; rintro e w' ⟨rfl, rfl⟩) | (go_at_call 48; refine (isNegative_any _ h _).mono ?_; rintro e w' ⟨rfl, rfl⟩))
    exact bodyPost_ret (v := .tuple #[.bool (neg a), .int .i64 (sz a), .int .i64 (-149), .int .i64 0]) (by simp [results, Try.results22, go_sem]) rfl ⟨rfl, rfl⟩
  · have hs := frac_sub a (.inr hk)
    have e1 : frac a = sz a := by unfold frac; rw [if_pos hs]
    have e2 : expo a = -149 := by unfold expo; rw [if_pos hs]
    rw [e1, e2]
    clear e1 e2 hs hf
    go_enter Try.func22, Try.ntmps22
    go_wp2_with (first | (go_at_call 44; refine (kindOf_any _ h _).mono ?_; rintro e w' ⟨rfl, rfl⟩) | (go_at_call 48; refine (isNegative_any _ h _).mono ?_; rintro e w' ⟨rfl, rfl⟩))
    exact bodyPost_ret (v := .tuple #[.bool (neg a), .int .i64 (sz a), .int .i64 (-149), .int .i64 0]) (by simp [results, Try.results22, go_sem]) rfl ⟨rfl, rfl⟩
  · have hs := frac_nor a hk
    have l1 := low23' a
    have l2 : bits .or .i64 ((sz a : Int) % 8388608) 8388608 = 8388608 + (sz a : Int) % 8388608 := by
      rw [show ((sz a : Int) % 8388608) = ((sz a % 8388608 : Nat) : Int) from by omega, hid23 (sz a)]; omega
    have e1 : (frac a : Int) = 8388608 + (sz a : Int) % 8388608 := by unfold frac; rw [if_neg (by omega)]; omega
    have e2 : expo a = (sz a : Int) / 8388608 - 1 + -149 := by unfold expo; rw [if_neg (by omega)]; omega
    have b1 : (1 : Int) ≤ (sz a : Int) / 8388608 := by omega
    have b2 : (sz a : Int) / 8388608 ≤ 255 := by omega
    rw [e1, e2]
    clear e1 e2 hs hf
    go_enter Try.func22, Try.ntmps22
    go_wp2_with (first | (go_at_call 44; refine (kindOf_any _ h _).mono ?_; rintro e w' ⟨rfl, rfl⟩) | (go_at_call 48; refine (isNegative_any _ h _).mono ?_; rintro e w' ⟨rfl, rfl⟩))
    exact bodyPost_ret (v := .tuple #[.bool (neg a), .int .i64 (8388608 + (sz a : Int) % 8388608), .int .i64 ((sz a : Int) / 8388608 - 1 + -149), .int .i64 0]) (by simp [results, Try.results22, go_sem]) rfl ⟨rfl, rfl⟩
  · omega
  · omega
end Go.Proofs.Ytkinonlebhmkhaa
