/-
  CONTRACTS: numbers at places, the next numbers, and how the laws hold two numbers against each other.
-/
import Derived.Test.YtkinonlebhmkhaaCon3
namespace Go.Proofs.Ytkinonlebhmkhaa
open Go.ChangeShapes Go.WideShapes Go.ChangeAt Go.RowKit
open Fl

/-! ### 'sameFloat' -/
theorem sameFloat_same (r : Nat) (h : nan64 r = false) (w : World) :
    Calls Try.prog 27 #[.float .f64 r, .float .f64 r] w fun e w' => e = .returned (.bool true) ∧ w = w' := by
  have he : FloatKind.f64.format.order r r = some .eq := order64_self h
  have hz := order64_zero h
  cases hc : zero64 r
  · have h0 : (FloatKind.f64.format.order r 0 == some .eq) = false := by rw [show FloatKind.f64.format.order r 0 = Ieee.double.order r 0 from rfl, hz, hc]
    clear hz hc
    go_enter Try.func27, Try.ntmps27
    go_wp2
    go_ret
    exact ⟨rfl, rfl⟩
  · have h0 : (FloatKind.f64.format.order r 0 == some .eq) = true := by rw [show FloatKind.f64.format.order r 0 = Ieee.double.order r 0 from rfl, hz, hc]
    obtain ⟨x, hx⟩ := one_over_zero hc
    clear hz hc
    have hop : ∀ t w, (binOp .quo t (.float .f64 4607182418800017408) (.float .f64 r)).run Try.prog w = .ok (.float .f64 x) w := fun t w => run_float_arith w .quo t .f64 _ r x hx
    clear hx
    go_enter Try.func27, Try.ntmps27
    go_wp2_with (simp only [hop])
    go_ret
    exact ⟨ret_bool (by simp), rfl⟩
theorem sameFloat_nan (r s : Nat) (hr : nan64 r = true) (hs : nan64 s = true) (w : World) :
    Calls Try.prog 27 #[.float .f64 r, .float .f64 s] w fun e w' => e = .returned (.bool true) ∧ w = w' := by
  have h1 : (FloatKind.f64.format.order r r != some .eq) = true := by rw [show FloatKind.f64.format.order r r = none from order64_nanL r hr]; rfl
  have h2 : (FloatKind.f64.format.order s s != some .eq) = true := by rw [show FloatKind.f64.format.order s s = none from order64_nanL s hs]; rfl
  go_enter Try.func27, Try.ntmps27
  go_wp2
  go_ret
  exact ⟨rfl, rfl⟩
end Go.Proofs.Ytkinonlebhmkhaa
