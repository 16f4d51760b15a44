import Derived.Test.YtkinonlebhmkhaaCon10
namespace Go.Proofs.Ytkinonlebhmkhaa
open Go.ChangeShapes Go.WideShapes Go.ChangeAt Go.RowKit
open Fl
theorem fnExactNextAbove_walk (a0 : Nat) (w0 : (Lit.float .f32 a0).wf = true) (w : World) :
    Calls Try.prog 9 #[.float .f32 a0] w fun e w' => e = .returned (.bool true) ∧ Grown w w' := by
  have h0 := W32.of_wf w0
  clear w0
  by_cases hk : kd a0 = 4
  · have hc := conv_nan (above a0) ((kd_above a0).2 hk)
    have hn := fun w => nanC64_nan (above a0) w
    go_enter Try.func9, Try.ntmps9
    go_wp2_with (first | (go_at_call 28; refine (specNextAbove_any _ h0 _).mono ?_; rintro e w' ⟨rfl, rfl⟩) | (go_at_call 29; refine (NextAbove_any _ h0 _).mono ?_; rintro e w' ⟨rfl, rfl⟩) | (go_at_call 27; refine (sameFloat_nan _ _ (hn _) (hn _) _).mono ?_; rintro e w' ⟨rfl, rfl⟩))
    all_goals
      go_ret
      exact ⟨rfl, by repeat (first | exact Grown.refl _ | apply Grown.drew | apply Grown.alloc)⟩
  · have hc := conv_num (above a0) (fun h => hk ((kd_above a0).1 h))
    have hw := widen_num (above a0) (fun h => hk ((kd_above a0).1 h))
    go_enter Try.func9, Try.ntmps9
    go_wp2_with (first | (go_at_call 28; refine (specNextAbove_any _ h0 _).mono ?_; rintro e w' ⟨rfl, rfl⟩) | (go_at_call 29; refine (NextAbove_any _ h0 _).mono ?_; rintro e w' ⟨rfl, rfl⟩) | (go_at_call 27; refine (sameFloat_same _ hw _).mono ?_; rintro e w' ⟨rfl, rfl⟩))
    all_goals
      go_ret
      exact ⟨rfl, by repeat (first | exact Grown.refl _ | apply Grown.drew | apply Grown.alloc)⟩
end Go.Proofs.Ytkinonlebhmkhaa
