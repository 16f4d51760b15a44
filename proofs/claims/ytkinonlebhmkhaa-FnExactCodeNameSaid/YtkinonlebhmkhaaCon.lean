/-
  CONTRACTS of the functions of narrow numbers that only look at bits: what each returns, as a plain function of the bits; each leaves the world alone (or has drawn from the tape alone).
-/
import Derived.Test.YtkinonlebhmkhaaChecked
import Derived.Test.YtkinonlebhmkhaaBits
import Derived.WalkKit
import Derived.ProofKit
import Derived.OpenShut
import Derived.WalkLawsBesides
import Derived.Laws.FloatArith
import Derived.Outline
import Derived.Laws.Externs
import Derived.BigQuiet
import Derived.Deep.QuietTactic
import Derived.Deep.DeepFit
namespace Go.Proofs.Ytkinonlebhmkhaa
open Go.ChangeShapes Go.WideShapes Go.ChangeAt Go.RowKit
open Fl

/-! ### functions without a Go text -/
@[go_sem] theorem call_f32bits (b : Nat) (w : World) : (callFunc 41 #[.float .f32 b]).run Try.prog w = .ok (.value (.int .u32 b)) w := by
  rw [run_callFunc_extern Try.func41 (by kernel_rfl) (by kernel_rfl) (by kernel_rfl) (e := Extern.MathFloatBits.float32bits) (by kernel_rfl)]; rfl
@[go_sem] theorem call_f32from (n : Int) (w : World) : (callFunc 59 #[.int .u32 n]).run Try.prog w = .ok (.value (.float .f32 n.toNat)) w := by
  rw [run_callFunc_extern Try.func59 (by kernel_rfl) (by kernel_rfl) (by kernel_rfl) (e := Extern.MathFloatBits.float32frombits) (by kernel_rfl)]; rfl

/-! ### kinds -/
theorem kindOf_any (a : Nat) (h : W32 a) (w : World) :
    Calls Try.prog 44 #[.float .f32 a] w fun e w' => e = .returned (.int .i64 (kd a)) ∧ w = w' := by
  have hm := and_mask a h
  rcases cls a with ⟨hk, h1⟩ | ⟨hk, h1, h2⟩ | ⟨hk, h1, h2, h3⟩ | ⟨hk, h1, h2, h3, h4⟩ | ⟨hk, h1, h2, h3, h4⟩
  all_goals
    go_enter Try.func44, Try.ntmps44
    go_wp2
    go_ret
    exact ⟨by rw [hk]; rfl, rfl⟩
theorem l01NaN_any (a : Nat) (w : World) :
    Calls Try.prog 42 #[.float .f32 a] w fun e w' => e = .returned (.bool (decide (kd a = 4))) ∧ w = w' := by
  have hn := neq_self a
  go_enter Try.func42, Try.ntmps42
  go_wp2
  go_ret
  exact ⟨rfl, rfl⟩
theorem isNaN_any (k : Int) (w : World) :
    Calls Try.prog 46 #[.int .i64 k] w fun e w' => e = .returned (.bool (decide (k = 4))) ∧ w = w' := by
  go_enter Try.func46, Try.ntmps46
  go_wp2
  go_ret
  exact ⟨rfl, rfl⟩
theorem ret_bool {a b : Bool} (h : a = b) : Ending.returned (.bool a) = .returned (.bool b) := by rw [h]
theorem ret_int {k : IntKind} {a b : Int} (h : a = b) : Ending.returned (.int k a) = .returned (.int k b) := by rw [h]
theorem ret_float {k : FloatKind} {a b : Nat} (h : a = b) : Ending.returned (.float k a) = .returned (.float k b) := by rw [h]
theorem nat_beq_int (a b : Nat) : ((a : Int) == (b : Int)) = (a == b) := by
  rw [Bool.eq_iff_iff]; simp; omega
/-- are two numbers the same? -/
def same (a b : Nat) : Bool := if kd a = 4 then decide (kd b = 4) else a == b
theorem implSame_any (a b : Nat) (ha : W32 a) (hb : W32 b) (w : World) :
    Calls Try.prog 20 #[.float .f32 a, .float .f32 b] w fun e w' => e = .returned (.bool (same a b)) ∧ w = w' := by
  by_cases hk : kd a = 4
  all_goals
    go_enter Try.func20, Try.ntmps20
    go_wp2_with (first | (go_at_call 44; refine (kindOf_any _ (by assumption) _).mono ?_; rintro e w' ⟨rfl, rfl⟩) | (go_at_call 46; refine (isNaN_any _ _).mono ?_; rintro e w' ⟨rfl, rfl⟩))
    go_ret
    exact ⟨ret_bool (by simp [same, hk, nat_beq_int]), rfl⟩
theorem l01Same_any (a b : Nat) (ha : W32 a) (hb : W32 b) (w : World) :
    Calls Try.prog 45 #[.float .f32 a, .float .f32 b] w fun e w' => e = .returned (.bool (same a b)) ∧ w = w' := by
  by_cases hk : kd a = 4 <;> by_cases hl : kd b = 4
  all_goals
    go_enter Try.func45, Try.ntmps45
    go_wp2_with (go_at_call 42; refine (l01NaN_any _ _).mono ?_; rintro e w' ⟨rfl, rfl⟩)
    go_ret
    exact ⟨ret_bool (by first | (simp [same, hk, hl, nat_beq_int]; done) | (simp [same, hk, hl, nat_beq_int]; intro hab; subst hab; exact hk hl)), rfl⟩
theorem specSame_any (a b : Nat) (ha : W32 a) (hb : W32 b) (w : World) :
    Calls Try.prog 19 #[.float .f32 a, .float .f32 b] w fun e w' => e = .returned (.bool (same a b)) ∧ w = w' := by
  go_enter Try.func19, Try.ntmps19
  go_wp2_with (go_at_call 45; refine (l01Same_any _ _ ha hb _).mono ?_; rintro e w' ⟨rfl, rfl⟩)
  go_ret
  exact ⟨rfl, rfl⟩
theorem isNegative_any (a : Nat) (h : W32 a) (w : World) :
    Calls Try.prog 48 #[.float .f32 a] w fun e w' => e = .returned (.bool (neg a)) ∧ w = w' := by
  have hm := and_sign a h
  cases hn : neg a
  all_goals
    rw [hn] at hm
    simp only [Bool.false_eq_true, ↓reduceIte] at hm
    go_enter Try.func48, Try.ntmps48
    go_wp2
    go_ret
    exact ⟨rfl, rfl⟩
theorem opposite_any (a : Nat) (h : W32 a) (w : World) :
    Calls Try.prog 54 #[.float .f32 a] w fun e w' => e = .returned (.float .f32 (opp a)) ∧ w = w' := by
  have hm := xor_sign a h
  go_enter Try.func54, Try.ntmps54
  go_wp2
  go_ret
  exact ⟨rfl, rfl⟩
end Go.Proofs.Ytkinonlebhmkhaa
