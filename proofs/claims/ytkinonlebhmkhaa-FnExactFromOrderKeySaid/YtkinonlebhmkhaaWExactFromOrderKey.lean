import Derived.Test.YtkinonlebhmkhaaCon5
namespace Go.Proofs.Ytkinonlebhmkhaa
open Go.ChangeShapes Go.WideShapes Go.ChangeAt Go.RowKit
open Fl
theorem fnExactFromOrderKey_walk (a0 : Int) (w0 : (Lit.int .i64 a0).wf = true) (w : World) :
    Calls Try.prog 8 #[.int .i64 a0] w fun e w' => e = .returned (.bool true) ∧ Grown w w' := by
  clear w0
  by_cases hk : Place a0
  · have hc := conv_num (fromKey a0) (kd_fromKey a0 hk)
    have hw := widen_num (fromKey a0) (kd_fromKey a0 hk)
    go_enter Try.func8, Try.ntmps8
    go_wp2_with (first | (go_at_call 25; refine (specFromOrderKey_yes _ hk _).mono ?_; rintro e w' ⟨rfl, rfl⟩) | (go_at_call 26; refine (implFromOrderKey_yes _ hk _).mono ?_; rintro e w' ⟨rfl, rfl⟩) | (go_at_call 27; refine (sameFloat_same _ hw _).mono ?_; rintro e w' ⟨rfl, rfl⟩))
    go_ret
    exact ⟨rfl, by repeat (first | exact Grown.refl _ | apply Grown.drew | apply Grown.alloc)⟩
  · have hc := conv_num 0 (by rw [kd_0]; decide)
    have hw := widen_num 0 (by rw [kd_0]; decide)
    go_enter Try.func8, Try.ntmps8
    go_wp2_with (first | (go_at_call 25; refine (specFromOrderKey_no _ hk _).mono ?_; rintro e w' ⟨rfl, rfl⟩) | (go_at_call 26; refine (implFromOrderKey_no _ hk _).mono ?_; rintro e w' ⟨rfl, rfl⟩) | (go_at_call 27; refine (sameFloat_same _ hw _).mono ?_; rintro e w' ⟨rfl, rfl⟩))
    go_ret
    exact ⟨rfl, by repeat (first | exact Grown.refl _ | apply Grown.drew | apply Grown.alloc)⟩
end Go.Proofs.Ytkinonlebhmkhaa
