import Derived.Test.YtkinonlebhmkhaaCon10
namespace Go.Proofs.Ytkinonlebhmkhaa
open Go.ChangeShapes Go.WideShapes Go.ChangeAt Go.RowKit
open Fl
theorem fnExactSplitReal_walk (a0 : Nat) (w0 : (Lit.float .f32 a0).wf = true) (w : World) :
    Calls Try.prog 6 #[.float .f32 a0] w fun e w' => e = .returned (.bool true) ∧ Grown w w' := by
  have h0 := W32.of_wf w0
  clear w0
  by_cases hf : kd a0 < 3
  · go_enter Try.func6, Try.ntmps6
    go_wp2_with (first | (go_at_call 21; refine (specSplit_fin _ h0 hf _).mono ?_; rintro e w' ⟨rfl, rfl⟩) | (go_at_call 22; refine (implSplit_fin _ h0 hf _).mono ?_; rintro e w' ⟨rfl, rfl⟩))
    go_ret
    exact ⟨rfl, by repeat (first | exact Grown.refl _ | apply Grown.drew | apply Grown.alloc)⟩
  · have hf : 3 ≤ kd a0 := by omega
    go_enter Try.func6, Try.ntmps6
    go_wp2_with (first | (go_at_call 21; refine (specSplit_odd _ hf _).mono ?_; rintro e w' ⟨rfl, rfl⟩) | (go_at_call 22; refine (implSplit_odd _ h0 hf _).mono ?_; rintro e w' ⟨rfl, rfl⟩))
    go_ret
    exact ⟨rfl, by repeat (first | exact Grown.refl _ | apply Grown.drew | apply Grown.alloc)⟩
end Go.Proofs.Ytkinonlebhmkhaa
