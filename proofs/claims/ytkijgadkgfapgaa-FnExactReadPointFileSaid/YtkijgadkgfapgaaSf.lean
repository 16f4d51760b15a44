/-
  CONTRACTS: how the laws hold two numbers against each other ('sameFloat'), and numbers widened.
-/
import Derived.Test.YtkijgadkgfapgaaChecked
import Derived.Test.YtkijgadkgfapgaaGaa
import Derived.WalkKit
import Derived.ProofKit
import Derived.OpenShut
import Derived.WalkLawsBesides
import Derived.Laws.FloatArith
import Derived.Outline
import Derived.Laws.Externs
import Derived.Lib.Hide
namespace Go.Proofs.Ytkijgadkgfapgaa
open Go.ChangeShapes Go.WideShapes Go.ChangeAt Go.RowKit
open Fl
theorem ret_bool {a b : Bool} (h : a = b) : Ending.returned (.bool a) = .returned (.bool b) := by rw [h]
theorem ret_int {k : IntKind} {a b : Int} (h : a = b) : Ending.returned (.int k a) = .returned (.int k b) := by rw [h]
theorem ret_float {k : FloatKind} {a b : Nat} (h : a = b) : Ending.returned (.float k a) = .returned (.float k b) := by rw [h]
theorem sameFloat_same (r : Nat) (h : nan64 r = false) (w : World) :
    Calls Try.prog 75 #[.float .f64 r, .float .f64 r] w fun e w' => e = .returned (.bool true) ∧ w = w' := by
  have he : FloatKind.f64.format.order r r = some .eq := order64_self h
  have hz := order64_zero h
  cases hc : zero64 r
  · have h0 : (FloatKind.f64.format.order r 0 == some .eq) = false := by rw [show FloatKind.f64.format.order r 0 = Ieee.double.order r 0 from rfl, hz, hc]
    clear hz hc
    go_enter Try.func75, Try.ntmps75
    go_wp2
    go_ret
    exact ⟨rfl, rfl⟩
  · have h0 : (FloatKind.f64.format.order r 0 == some .eq) = true := by rw [show FloatKind.f64.format.order r 0 = Ieee.double.order r 0 from rfl, hz, hc]
    obtain ⟨x, hx⟩ := one_over_zero hc
    clear hz hc
    have hop : ∀ t w, (binOp .quo t (.float .f64 4607182418800017408) (.float .f64 r)).run Try.prog w = .ok (.float .f64 x) w := fun t w => run_float_arith w .quo t .f64 _ r x hx
    clear hx
    go_enter Try.func75, Try.ntmps75
    go_wp2_with (simp only [hop])
    go_ret
    exact ⟨ret_bool (by simp), rfl⟩
theorem sameFloat_nan (r s : Nat) (hr : nan64 r = true) (hs : nan64 s = true) (w : World) :
    Calls Try.prog 75 #[.float .f64 r, .float .f64 s] w fun e w' => e = .returned (.bool true) ∧ w = w' := by
  have h1 : (FloatKind.f64.format.order r r != some .eq) = true := by rw [show FloatKind.f64.format.order r r = none from order64_nanL r hr]; rfl
  have h2 : (FloatKind.f64.format.order s s != some .eq) = true := by rw [show FloatKind.f64.format.order s s = none from order64_nanL s hs]; rfl
  go_enter Try.func75, Try.ntmps75
  go_wp2
  go_ret
  exact ⟨rfl, rfl⟩
theorem conv_num (g : Nat) (h : kd g ≠ 4) (w : World) : (convert 213 116 (.float .f32 g)).run Try.prog w = .ok (.float .f64 (widen g)) w :=
  run_convert_float_float w 213 116 .f32 .f64 g (widen g) (by rw [Try.underlying213]; rfl) Try.underlying116 (widen_bits (by rw [nan_kd]; simpa using h)).1
theorem widen_num (g : Nat) (h : kd g ≠ 4) : nan64 (widen g) = false := (widen_bits (by rw [nan_kd]; simpa using h)).2
theorem conv_nan (g : Nat) (h : kd g = 4) (w : World) : (convert 213 116 (.float .f32 g)).run Try.prog w = .ok (.float .f64 (nanC64 g w)) w.drew :=
  run_widen_nan w 213 116 g Try.underlying213 Try.underlying116 (by rw [nan_kd]; simpa using h)
theorem nan_kd4 {r : Nat} (h : nan32 r = true) : kd r = 4 := by rw [nan_kd] at h; simpa using h
end Go.Proofs.Ytkijgadkgfapgaa
