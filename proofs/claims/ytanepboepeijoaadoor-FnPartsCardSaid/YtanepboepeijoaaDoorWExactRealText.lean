import Derived.Test.YtanepboepeijoaaDoorRt
namespace Go.Proofs.YtanepboepeijoaaDoor
open Go.ChangeShapes Go.WideShapes Go.ChangeAt Go.RowKit
open Fl
theorem specText_nan (a : Nat) (hk : kd a = 4) (w : World) :
    Calls Tryd.prog 7 #[.float .f32 a] w fun e w' => e = .returned (.string ⟨#[110, 97, 110]⟩) ∧ Below w.heap.size w w' := by
  have H := Lib.hid (l01Text_nan a hk)
  go_enter Tryd.func7, Tryd.ntmps7
  go_wp2_with (go_at_call 29; refine (H.out _).mono ?_; rintro e w1 ⟨rfl, b1⟩; have B1 := Lib.hid b1; clear b1)
  go_ret
  exact ⟨rfl, B1.out⟩
theorem specText_num (a : Nat) (ha : W32 a) (hk : kd a ≠ 4) (w : World) :
    Calls Tryd.prog 7 #[.float .f32 a] w fun e w' => e = .returned (.string ⟨(hexT a 8).toArray⟩) ∧ Below w.heap.size w w' := by
  have H := Lib.hid (l01Text_num a ha hk)
  clear hk
  go_enter Tryd.func7, Tryd.ntmps7
  go_wp2_with (go_at_call 29; refine (H.out _).mono ?_; rintro e w1 ⟨rfl, b1⟩; have B1 := Lib.hid b1; clear b1)
  go_ret
  exact ⟨rfl, B1.out⟩
theorem fnExactRealText_walk (a0 : Nat) (w0 : (Lit.float .f32 a0).wf = true) (w : World) (hT : Tab4 w) (hG : 6 < w.heap.size) :
    Calls Tryd.prog 3 #[.float .f32 a0] w fun e w' => e = .returned (.bool true) ∧ Below w.heap.size w w' := by
  have h0 := W32.of_wf w0
  clear w0
  have HT := Lib.hid hT
  by_cases hk : kd a0 = 4
  · have H1 := Lib.hid (specText_nan a0 hk)
    have H2 := Lib.hid (implText_nan a0 h0 hk)
    clear hk hT
    go_enter Tryd.func3, Tryd.ntmps3
    go_wp2_with (first | (go_at_call 7; refine (H1.out _).mono ?_; rintro e w1 ⟨rfl, b1⟩; have B1 := Lib.hid b1; clear b1) | (go_at_call 8; refine (H2.out _).mono ?_; rintro e w2 ⟨rfl, b2⟩; have B2 := Lib.hid (B1.out.trans (b2.mono B1.out.size)); clear b2 B1))
    go_ret
    exact ⟨rfl, B2.out⟩
  · have H1 := Lib.hid (specText_num a0 h0 hk)
    have H2 := Lib.hid (implText_num a0 h0 hk)
    clear hk hT
    go_enter Tryd.func3, Tryd.ntmps3
    go_wp2_with (first | (go_at_call 7; refine (H1.out _).mono ?_; rintro e w1 ⟨rfl, b1⟩; have B1 := Lib.hid b1; clear b1) | (go_at_call 8; refine (H2.out _ (HT.out.below B1.out hG) (Nat.lt_of_lt_of_le hG B1.out.size)).mono ?_; rintro e w2 ⟨rfl, b2⟩; have B2 := Lib.hid (B1.out.trans (b2.mono B1.out.size)); clear b2 B1))
    go_ret
    exact ⟨rfl, B2.out⟩
end Go.Proofs.YtanepboepeijoaaDoor
