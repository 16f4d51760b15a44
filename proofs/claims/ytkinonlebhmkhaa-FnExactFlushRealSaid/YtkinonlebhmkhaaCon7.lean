/-
  CONTRACTS: the exported functions of the next numbers, of subnormal numbers and of parts.
-/
import Derived.Test.YtkinonlebhmkhaaCon6
namespace Go.Proofs.Ytkinonlebhmkhaa
open Go.ChangeShapes Go.WideShapes Go.ChangeAt Go.RowKit
open Fl

@[go_sem] theorem unary_neg_f32 (b : Nat) : Op.unary .neg (.float .f32 b) = pure (.float .f32 (Op.negFloat .f32 b)) := rfl
@[go_sem] theorem unary_neg_f64 (b : Nat) : Op.unary .neg (.float .f64 b) = pure (.float .f64 (Op.negFloat .f64 b)) := rfl
theorem fromKey_W32 (k : Int) (h : Place k) : W32 (fromKey k) := by
  unfold Place at h; unfold W32 fromKey; split <;> omega
theorem above_W32 (a : Nat) (h : W32 a) : W32 (above a) := by
  unfold above
  split
  · exact h
  · rename_i h1; split
    · exact h
    · rename_i h2; split
      · exact fromKey_W32 1 place_one
      · exact fromKey_W32 _ (above_place a h1 h2)
theorem kd_above (a : Nat) : kd (above a) = 4 ↔ kd a = 4 := by
  unfold above
  split
  · simp [*]
  · rename_i h1; split
    · rfl
    · rename_i h2; split
      · exact ⟨fun h => absurd h (kd_fromKey 1 place_one), fun h => absurd h h1⟩
      · exact ⟨fun h => absurd h (kd_fromKey _ (above_place a h1 h2)), fun h => absurd h h1⟩
theorem specNextAbove_any (a : Nat) (h : W32 a) (w : World) :
    Calls Try.prog 28 #[.float .f32 a] w fun e w' => e = .returned (.float .f32 (above a)) ∧ w = w' := by
  go_enter Try.func28, Try.ntmps28
  go_wp2_with (go_at_call 53; refine (l01Above_any _ h _).mono ?_; rintro e w' ⟨rfl, rfl⟩)
  go_ret
  exact ⟨rfl, rfl⟩
def below (a : Nat) : Nat := opp (above (opp a))
theorem below_W32 (a : Nat) : W32 (below a) := opp_W32 _
theorem kd_below (a : Nat) : kd (below a) = 4 ↔ kd a = 4 := by
  unfold below; rw [opp_kd, kd_above, opp_kd]
theorem implNextBelow_any (a : Nat) (h : W32 a) (w : World) :
    Calls Try.prog 31 #[.float .f32 a] w fun e w' => e = .returned (.float .f32 (below a)) ∧ w = w' := by
  go_enter Try.func31, Try.ntmps31
  go_wp2_with fail
  refine (opposite_any _ h _).mono ?_; rintro e w' ⟨rfl, rfl⟩
  go_wp2_with fail
  refine (NextAbove_any _ (opp_W32 a) _).mono ?_; rintro e w' ⟨rfl, rfl⟩
  go_wp2_with fail
  refine (opposite_any _ (above_W32 _ (opp_W32 a)) _).mono ?_; rintro e w' ⟨rfl, rfl⟩
  go_wp2_with fail
  go_ret
  exact ⟨rfl, rfl⟩
theorem specNextBelow_any (a : Nat) (h : W32 a) (w : World) :
    Calls Try.prog 30 #[.float .f32 a] w fun e w' => e = .returned (.float .f32 (below a)) ∧ w = w' := by
  have h1 := negFloat_32 a h
  have h2 := negFloat_32 _ (above_W32 _ (opp_W32 a))
  go_enter Try.func30, Try.ntmps30
  go_wp2_with (go_at_call 53; refine (l01Above_any _ (opp_W32 a) _).mono ?_; rintro e w' ⟨rfl, rfl⟩)
  go_ret
  exact ⟨rfl, rfl⟩
/-! ### a number without its subnormal part -/
def flush (a : Nat) : Nat := if kd a = 1 then (if neg a then 2147483648 else 0) else a
theorem withSign_any (s : Bool) (a : Nat) (h : W32 a) (w : World) :
    Calls Try.prog 56 #[.bool s, .float .f32 a] w fun e w' => e = .returned (.float .f32 (if s then opp a else a)) ∧ w = w' := by
  cases s
  · go_enter Try.func56, Try.ntmps56
    go_wp2
    go_ret
    exact ⟨rfl, rfl⟩
  · go_enter Try.func56, Try.ntmps56
    go_wp2_with (go_at_call 54; refine (opposite_any _ h _).mono ?_; rintro e w' ⟨rfl, rfl⟩)
    go_ret
    exact ⟨rfl, rfl⟩
theorem implFlush_any (a : Nat) (h : W32 a) (w : World) :
    Calls Try.prog 33 #[.float .f32 a] w fun e w' => e = .returned (.float .f32 (flush a)) ∧ w = w' := by
  by_cases hk : kd a = 1
  · cases hn : neg a
    all_goals
      go_enter Try.func33, Try.ntmps33
      go_wp2_with (first | (go_at_call 44; refine (kindOf_any _ h _).mono ?_; rintro e w' ⟨rfl, rfl⟩) | (go_at_call 48; refine (isNegative_any _ h _).mono ?_; rintro e w' ⟨rfl, rfl⟩) | (go_at_call 56; refine (withSign_any _ 0 (by unfold W32; omega) _).mono ?_; rintro e w' ⟨rfl, rfl⟩))
      go_ret
      exact ⟨ret_float (by unfold flush; rw [if_pos hk, hn]; rfl), rfl⟩
  · have hb : (kd a == 1) = false := by simpa using hk
    go_enter Try.func33, Try.ntmps33
    go_wp2_with (go_at_call 44; refine (kindOf_any _ h _).mono ?_; rintro e w' ⟨rfl, rfl⟩)
    go_ret
    exact ⟨ret_float (by unfold flush; rw [if_neg hk]), rfl⟩
end Go.Proofs.Ytkinonlebhmkhaa
