import Derived.Test.YtkinonlebhmkhaaCon5
namespace Go.Proofs.Ytkinonlebhmkhaa
open Go.ChangeShapes Go.WideShapes Go.ChangeAt Go.RowKit
open Fl
theorem fnExactOrderKey_walk (a0 : Nat) (w0 : (Lit.float .f32 a0).wf = true) (w : World) :
    Calls Try.prog 7 #[.float .f32 a0] w fun e w' => e = .returned (.bool true) ∧ Grown w w' := by
  have h0 := W32.of_wf w0
  clear w0
  by_cases hk : kd a0 = 4
  · go_enter Try.func7, Try.ntmps7
    go_wp2_with (first | (go_at_call 23; refine (specOrderKey_nan _ h0 hk _).mono ?_; rintro e w' ⟨rfl, rfl⟩) | (go_at_call 24; refine (implOrderKey_nan _ h0 hk _).mono ?_; rintro e w' ⟨rfl, rfl⟩))
    go_ret
    exact ⟨rfl, by repeat (first | exact Grown.refl _ | apply Grown.drew | apply Grown.alloc)⟩
  · go_enter Try.func7, Try.ntmps7
    go_wp2_with (first | (go_at_call 23; refine (specOrderKey_num _ h0 hk _).mono ?_; rintro e w' ⟨rfl, rfl⟩) | (go_at_call 24; refine (implOrderKey_num _ h0 hk _).mono ?_; rintro e w' ⟨rfl, rfl⟩))
    go_ret
    exact ⟨rfl, by repeat (first | exact Grown.refl _ | apply Grown.drew | apply Grown.alloc)⟩
end Go.Proofs.Ytkinonlebhmkhaa
