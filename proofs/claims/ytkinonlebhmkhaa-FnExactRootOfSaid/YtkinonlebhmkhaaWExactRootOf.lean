import Derived.Test.YtkinonlebhmkhaaRoot
namespace Go.Proofs.Ytkinonlebhmkhaa
open Go.ChangeShapes Go.WideShapes Go.ChangeAt Go.RowKit
open Fl
theorem specRoot_num {a y r : Nat} (hk : kd a ≠ 4) (h1 : Ieee.double.sqrt (widen a) = some y) (h2 : floatToFloatBits .f64 y .f32 = some r) (w : World) :
    Calls Try.prog 34 #[.float .f32 a] w fun e w' => e = .returned (.float .f32 r) ∧ w = w' := by
  have H2 := Lib.hid h2
  clear h2
  go_enter Try.func34, Try.ntmps34
  go_wp2_with fail
  refine (l01Root_num hk h1 H2.out _).mono ?_
  rintro e w' ⟨rfl, rfl⟩
  go_wp2_with fail
  go_ret
  exact ⟨rfl, rfl⟩
theorem specRoot_none {a : Nat} (hk : kd a ≠ 4) (h1 : Ieee.double.sqrt (widen a) = none) (w : World) :
    Calls Try.prog 34 #[.float .f32 a] w (SomeNaN w) := by
  go_enter Try.func34, Try.ntmps34
  go_wp2_with fail
  refine (l01Root_none hk h1 _).mono ?_
  rintro e w' ⟨r, rfl, hr, n, rfl⟩
  have HR := Lib.hid hr
  clear hr
  go_wp2_with fail
  go_ret
  exact ⟨_, rfl, HR.out, n, rfl⟩
theorem specRoot_nan {a : Nat} (hk : kd a = 4) (w : World) :
    Calls Try.prog 34 #[.float .f32 a] w (SomeNaN w) := by
  go_enter Try.func34, Try.ntmps34
  go_wp2_with fail
  refine (l01Root_nan hk _).mono ?_
  rintro e w' ⟨r, rfl, hr, n, rfl⟩
  have HR := Lib.hid hr
  clear hr
  go_wp2_with fail
  go_ret
  exact ⟨_, rfl, HR.out, n, rfl⟩
theorem grown_drewN (w : World) (n : Nat) : Grown w (w.drewN n) := by
  induction n with
  | zero => exact Grown.refl _
  | succ n ih => exact (Grown.drew ih : Grown w (w.drewN n).drew)
theorem both_nan (a : Nat) (f : ∀ w, Calls Try.prog 34 #[.float .f32 a] w (SomeNaN w)) (g : ∀ w, Calls Try.prog 35 #[.float .f32 a] w (SomeNaN w)) (w : World) :
    Calls Try.prog 12 #[.float .f32 a] w fun e w' => e = .returned (.bool true) ∧ Grown w w' := by
  go_enter Try.func12, Try.ntmps12
  go_wp2_with fail
  refine (f _).mono ?_
  rintro e w' ⟨r, rfl, hr, n, rfl⟩
  have hc := conv_nan r hr
  have hn := fun w => nanC64_nan r w
  have HR := Lib.hid hr
  clear hr
  go_wp2_with fail
  refine (g _).mono ?_
  rintro e w' ⟨s, rfl, hs, m, rfl⟩
  have hd := conv_nan s hs
  have hm := fun w => nanC64_nan s w
  have HS := Lib.hid hs
  clear hs
  go_wp2_with fail
  refine (sameFloat_nan _ _ (hm _) (hn _) _).mono ?_
  rintro e w' ⟨rfl, rfl⟩
  go_wp2_with fail
  go_ret
  refine ⟨rfl, ?_⟩
  have e1 : ((w.drewN n).drewN m).drew.drew = w.drewN (n + m + 2) := by
    simp [World.drewN, World.drew, Nat.add_assoc]
  first | exact (by rw [e1]; exact grown_drewN _ _) | (repeat (first | exact grown_drewN _ _ | apply Grown.drew))
theorem fnExactRootOf_walk (a0 : Nat) (w0 : (Lit.float .f32 a0).wf = true) (w : World) :
    Calls Try.prog 12 #[.float .f32 a0] w fun e w' => e = .returned (.bool true) ∧ Grown w w' := by
  clear w0
  by_cases hk : kd a0 = 4
  · exact both_nan a0 (specRoot_nan hk) (implRoot_nan hk) w
  · rcases sqrt_cases a0 (by rw [nan_kd]; simpa using hk) with ⟨y, r, h1, h2, h3⟩ | h1
    · have h4 : kd r ≠ 4 := by rw [nan_kd] at h3; simpa using h3
      have hc := conv_num r h4
      have hw := widen_num r h4
      have H2 := Lib.hid h2
      have H1 := Lib.hid h1
      clear h1 h2 h3 h4
      go_enter Try.func12, Try.ntmps12
      go_wp2_with (first | (go_at_call 34; refine (specRoot_num hk H1.out H2.out _).mono ?_; rintro e w' ⟨rfl, rfl⟩) | (go_at_call 35; refine (implRoot_num hk H1.out H2.out _).mono ?_; rintro e w' ⟨rfl, rfl⟩) | (go_at_call 27; refine (sameFloat_same _ hw _).mono ?_; rintro e w' ⟨rfl, rfl⟩))
      go_ret
      exact ⟨rfl, by repeat (first | exact Grown.refl _ | apply Grown.drew | apply Grown.alloc)⟩
    · exact both_nan a0 (specRoot_none hk h1) (implRoot_none hk h1) w
end Go.Proofs.Ytkinonlebhmkhaa
