/-
  CONTRACTS of the functions of narrow numbers that only look at bits (those alone that keys want).
-/
import Derived.Test.YtkijgadkgfapgaaChecked
import Derived.Test.YtkijgadkgfapgaaBits
import Derived.WalkKit
import Derived.ProofKit
import Derived.OpenShut
import Derived.WalkLawsBesides
import Derived.Laws.FloatArith
import Derived.Outline
import Derived.Laws.Externs
import Derived.BigQuiet
import Derived.Deep.QuietTactic
import Derived.Deep.DeepFit
import Derived.Lib.Hide
namespace Go.Proofs.Ytkijgadkgfapgaa
open Go.ChangeShapes Go.WideShapes Go.ChangeAt Go.RowKit
open Fl
@[go_sem] theorem call_f32bits (b : Nat) (w : World) : (callFunc 149 #[.float .f32 b]).run Try.prog w = .ok (.value (.int .u32 b)) w := by
  rw [run_callFunc_extern Try.func149 (by kernel_rfl) (by kernel_rfl) (by kernel_rfl) (e := Extern.MathFloatBits.float32bits) (by kernel_rfl)]; rfl
@[go_sem] theorem call_f32from (n : Int) (w : World) : (callFunc 134 #[.int .u32 n]).run Try.prog w = .ok (.value (.float .f32 n.toNat)) w := by
  rw [run_callFunc_extern Try.func134 (by kernel_rfl) (by kernel_rfl) (by kernel_rfl) (e := Extern.MathFloatBits.float32frombits) (by kernel_rfl)]; rfl
theorem kindOf_any (a : Nat) (h : W32 a) (w : World) :
    Calls Try.prog 150 #[.float .f32 a] w fun e w' => e = .returned (.int .i64 (kd a)) ∧ w = w' := by
  have hm := and_mask a h
  rcases cls a with ⟨hk, h1⟩ | ⟨hk, h1, h2⟩ | ⟨hk, h1, h2, h3⟩ | ⟨hk, h1, h2, h3, h4⟩ | ⟨hk, h1, h2, h3, h4⟩
  all_goals
    go_enter Try.func150, Try.ntmps150
    go_wp2
    go_ret
    exact ⟨by rw [hk]; rfl, rfl⟩
theorem l01NaN_any (a : Nat) (w : World) :
    Calls Try.prog 148 #[.float .f32 a] w fun e w' => e = .returned (.bool (decide (kd a = 4))) ∧ w = w' := by
  have hn := neq_self a
  go_enter Try.func148, Try.ntmps148
  go_wp2
  go_ret
  exact ⟨rfl, rfl⟩
theorem isNaN_any (k : Int) (w : World) :
    Calls Try.prog 151 #[.int .i64 k] w fun e w' => e = .returned (.bool (decide (k = 4))) ∧ w = w' := by
  go_enter Try.func151, Try.ntmps151
  go_wp2
  go_ret
  exact ⟨rfl, rfl⟩
/-- the bits, those of a NaN made one -/
def can (a : Nat) : Nat := if kd a = 4 then 2143289344 else a
theorem keyBits_any (a : Nat) (h : W32 a) (w : World) :
    Calls Try.prog 144 #[.float .f32 a] w fun e w' => e = .returned (.int .u32 (can a : Nat)) ∧ w = w' := by
  by_cases hk : kd a = 4
  all_goals
    have hc : can a = if kd a = 4 then 2143289344 else a := rfl
    simp only [hk, if_true, if_false] at hc
    have HC := Lib.hid hc
    clear hc
    go_enter Try.func144, Try.ntmps144
    go_wp2_with (first | (go_at_call 150; refine (kindOf_any _ (by assumption) _).mono ?_; rintro e w' ⟨rfl, rfl⟩) | (go_at_call 151; refine (isNaN_any _ _).mono ?_; rintro e w' ⟨rfl, rfl⟩))
    go_ret
    exact ⟨by rw [HC.out]; rfl, rfl⟩
theorem l02Bits_any (a : Nat) (h : W32 a) (w : World) :
    Calls Try.prog 143 #[.float .f32 a] w fun e w' => e = .returned (.int .u32 (can a : Nat)) ∧ w = w' := by
  by_cases hk : kd a = 4
  all_goals
    have hc : can a = if kd a = 4 then 2143289344 else a := rfl
    simp only [hk, if_true, if_false] at hc
    have HC := Lib.hid hc
    clear hc
    go_enter Try.func143, Try.ntmps143
    go_wp2_with (first | (go_at_call 148; refine (l01NaN_any _ _).mono ?_; rintro e w' ⟨rfl, rfl⟩))
    go_ret
    exact ⟨by rw [HC.out]; rfl, rfl⟩
end Go.Proofs.Ytkijgadkgfapgaa
