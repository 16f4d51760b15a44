/-
  CONTRACTS of the functions that find places in the order, and numbers at places.
-/
import Derived.Test.YtkinonlebhmkhaaCon2
import Derived.Lib.Hide
namespace Go.Proofs.Ytkinonlebhmkhaa
open Go.ChangeShapes Go.WideShapes Go.ChangeAt Go.RowKit
open Fl

theorem placeOf_any (a : Nat) (h : W32 a) (w : World) :
    Calls Try.prog 50 #[.float .f32 a] w fun e w' => e = .returned (.int .i64 (key a)) ∧ w = w' := by
  have hm := and_mask a h
  have hl : sz a ≤ 2147483647 := by have := sz_lt a; omega
  cases hn : neg a
  all_goals
    go_enter Try.func50, Try.ntmps50
    go_wp2_with (go_at_call 48; refine (isNegative_any _ h _).mono ?_; rintro e w' ⟨rfl, rfl⟩)
    go_ret
    exact ⟨ret_int (by simp [key, hn]), rfl⟩
theorem l01Key_any (a : Nat) (h : W32 a) (w : World) :
    Calls Try.prog 49 #[.float .f32 a] w fun e w' => e = .returned (.int .i64 (key a)) ∧ w = w' := by
  have hl : sz a ≤ 2147483647 := by have := sz_lt a; omega
  have hl2 : a ≤ 4294967295 := by unfold W32 at h; omega
  have ht := top31 a h
  have hm := low31 a h
  have e := split_bits h
  cases hn : neg a
  all_goals
    rw [hn] at ht e
    have E := Lib.hid e
    clear e
    go_enter Try.func49, Try.ntmps49
    go_wp2
    go_ret
    refine ⟨ret_int ?_, rfl⟩
    have e := E.out
    simp only [Bool.false_eq_true, ↓reduceIte] at e
    simp only [key, hn, Bool.false_eq_true, ↓reduceIte]
    first | done | omega
/-- a place that there is -/
def Place (k : Int) : Prop := -2139095041 ≤ k ∧ k ≤ 2139095040
theorem or_place (k : Int) (h : Place k) (hn : k < 0) : (bits BinOp.or IntKind.u32 (-1 - k) 2147483648).toNat = fromKey k := by
  unfold Place at h
  obtain ⟨n, hk⟩ : ∃ n : Nat, -1 - k = (n : Int) := ⟨(-1 - k).toNat, by omega⟩
  have hb : n < 2147483648 := by omega
  rw [hk, show (2147483648 : Int) = ((2147483648 : Nat) : Int) from rfl, u32_or_nat n _ (by omega) (by omega), or_sign n hb]
  unfold fromKey
  rw [if_pos hn, hk]
  omega
theorem atPlace_any (k : Int) (h : Place k) (w : World) :
    Calls Try.prog 52 #[.int .i64 k] w fun e w' => e = .returned (.float .f32 (fromKey k)) ∧ w = w' := by
  obtain ⟨h1, h2⟩ := id h
  by_cases hn : k < 0
  · have ho := or_place k h hn
    go_enter Try.func52, Try.ntmps52
    go_wp2
    go_ret
    exact ⟨rfl, rfl⟩
  · go_enter Try.func52, Try.ntmps52
    go_wp2
    go_ret
    exact ⟨ret_float (by unfold fromKey; rw [if_neg (by omega)]), rfl⟩
theorem l01FromKey_any (k : Int) (h : Place k) (w : World) :
    Calls Try.prog 51 #[.int .i64 k] w fun e w' => e = .returned (.float .f32 (fromKey k)) ∧ w = w' := by
  obtain ⟨h1, h2⟩ := id h
  by_cases hn : k < 0
  · have ho := or_place k h hn
    go_enter Try.func51, Try.ntmps51
    go_wp2
    go_ret
    exact ⟨rfl, rfl⟩
  · go_enter Try.func51, Try.ntmps51
    go_wp2
    go_ret
    exact ⟨ret_float (by unfold fromKey; rw [if_neg (by omega)]), rfl⟩
/-! ### the exported functions of places -/
theorem implOrderKey_num (a : Nat) (h : W32 a) (hk : kd a ≠ 4) (w : World) :
    Calls Try.prog 24 #[.float .f32 a] w fun e w' => e = .returned (.tuple #[.int .i64 (key a), .int .i64 0]) ∧ w = w' := by
  go_enter Try.func24, Try.ntmps24
  go_wp2_with (first | (go_at_call 44; refine (kindOf_any _ h _).mono ?_; rintro e w' ⟨rfl, rfl⟩) | (go_at_call 46; refine (isNaN_any _ _).mono ?_; rintro e w' ⟨rfl, rfl⟩) | (go_at_call 50; refine (placeOf_any _ h _).mono ?_; rintro e w' ⟨rfl, rfl⟩))
  go_ret2
  exact ⟨rfl, rfl⟩
theorem implOrderKey_nan (a : Nat) (h : W32 a) (hk : kd a = 4) (w : World) :
    Calls Try.prog 24 #[.float .f32 a] w fun e w' => e = .returned (.tuple #[.int .i64 0, .int .i64 2]) ∧ w = w' := by
  go_enter Try.func24, Try.ntmps24
  go_wp2_with (first | (go_at_call 44; refine (kindOf_any _ h _).mono ?_; rintro e w' ⟨rfl, rfl⟩) | (go_at_call 46; refine (isNaN_any _ _).mono ?_; rintro e w' ⟨rfl, rfl⟩))
  go_ret2
  exact ⟨rfl, rfl⟩
theorem specOrderKey_num (a : Nat) (h : W32 a) (hk : kd a ≠ 4) (w : World) :
    Calls Try.prog 23 #[.float .f32 a] w fun e w' => e = .returned (.tuple #[.int .i64 (key a), .int .i64 0]) ∧ w = w' := by
  go_enter Try.func23, Try.ntmps23
  go_wp2_with (first | (go_at_call 42; refine (l01NaN_any _ _).mono ?_; rintro e w' ⟨rfl, rfl⟩) | (go_at_call 49; refine (l01Key_any _ h _).mono ?_; rintro e w' ⟨rfl, rfl⟩))
  go_ret2
  exact ⟨rfl, rfl⟩
theorem specOrderKey_nan (a : Nat) (h : W32 a) (hk : kd a = 4) (w : World) :
    Calls Try.prog 23 #[.float .f32 a] w fun e w' => e = .returned (.tuple #[.int .i64 0, .int .i64 2]) ∧ w = w' := by
  go_enter Try.func23, Try.ntmps23
  go_wp2_with (go_at_call 42; refine (l01NaN_any _ _).mono ?_; rintro e w' ⟨rfl, rfl⟩)
  go_ret2
  exact ⟨rfl, rfl⟩
end Go.Proofs.Ytkinonlebhmkhaa
