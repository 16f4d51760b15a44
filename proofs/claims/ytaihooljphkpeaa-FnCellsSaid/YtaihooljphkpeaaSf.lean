/-
  CONTRACTS: how the laws hold two numbers against each other ('sameFloat'), and numbers widened.
-/
import Derived.Test.YtaihooljphkpeaaChecked
import Derived.Test.YtaihooljphkpeaaBits
import Derived.WalkKit
import Derived.ProofKit
import Derived.OpenShut
import Derived.WalkLawsBesides
import Derived.Laws.FloatArith
import Derived.Outline
import Derived.Laws.Externs
import Derived.Lib.Hide
namespace Go.Proofs.Ytaihooljphkpeaa
open Go.ChangeShapes Go.WideShapes Go.ChangeAt Go.RowKit
open Fl
theorem ret_bool {a b : Bool} (h : a = b) : Ending.returned (.bool a) = .returned (.bool b) := by rw [h]
theorem ret_int {k : IntKind} {a b : Int} (h : a = b) : Ending.returned (.int k a) = .returned (.int k b) := by rw [h]
theorem ret_float {k : FloatKind} {a b : Nat} (h : a = b) : Ending.returned (.float k a) = .returned (.float k b) := by rw [h]
theorem conv_num (g : Nat) (h : kd g ≠ 4) (w : World) : (convert 26 45 (.float .f32 g)).run Try.prog w = .ok (.float .f64 (widen g)) w :=
  run_convert_float_float w 26 45 .f32 .f64 g (widen g) (by rw [Try.underlying26]; rfl) Try.underlying45 (widen_bits (by rw [nan_kd]; simpa using h)).1
theorem widen_num (g : Nat) (h : kd g ≠ 4) : nan64 (widen g) = false := (widen_bits (by rw [nan_kd]; simpa using h)).2
theorem conv_nan (g : Nat) (h : kd g = 4) (w : World) : (convert 26 45 (.float .f32 g)).run Try.prog w = .ok (.float .f64 (nanC64 g w)) w.drew :=
  run_widen_nan w 26 45 g Try.underlying26 Try.underlying45 (by rw [nan_kd]; simpa using h)
theorem nan_kd4 {r : Nat} (h : nan32 r = true) : kd r = 4 := by rw [nan_kd] at h; simpa using h
end Go.Proofs.Ytaihooljphkpeaa
