/-
  COMPLEX NUMBERS WIDENED AND HELD AGAINST EACH OTHER by the laws.
-/
import Derived.Test.YtkijgadkgfapgaaSf
namespace Go.Proofs.Ytkijgadkgfapgaa
open Go.ChangeShapes Go.WideShapes Go.ChangeAt Go.RowKit
open Fl
theorem f2f_nan {P : Program} (b : Nat) (h : kd b = 4) (w : World) : (Conv.floatToFloat .f32 b .f64).run P w = .ok (.float .f64 (nanC64 b w)) w.drew := by
  have h0 : nan32 b = true := by rw [nan_kd]; simpa using h
  have h' : 2139095040 < b % 2147483648 := by simpa [nan32] using h0
  have hr : FloatKind.f32.decode b = .nan (b / 2147483648 % 2 == 1) (b % 2147483648 - 2139095040) := by
    show Ieee.single.read b = _
    rw [read32, if_neg (by omega), if_neg (by omega), if_neg (by omega)]
  simp [Conv.floatToFloat, hr, nanC64, Question.forced]
theorem f2f_num {P : Program} (b : Nat) (h : kd b ≠ 4) (w : World) : (Conv.floatToFloat .f32 b .f64).run P w = .ok (.float .f64 (widen b)) w :=
  run_floatToFloat w (widen_bits (by rw [nan_kd]; simpa using h)).1
/-- a number widened, the tape's NaN where it is one; and the world behind it -/
def wd (b : Nat) (w : World) : Nat := if kd b = 4 then nanC64 b w else widen b
def wdW (b : Nat) (w : World) : World := if kd b = 4 then w.drew else w
theorem f2f_any {P : Program} (b : Nat) (w : World) : (Conv.floatToFloat .f32 b .f64).run P w = .ok (.float .f64 (wd b w)) (wdW b w) := by
  by_cases h : kd b = 4
  · rw [f2f_nan b h w]; simp [wd, wdW, h]
  · rw [f2f_num b h w]; simp [wd, wdW, h]
theorem conv_cx (a b : Nat) (w : World) : (convert 55 60 (.complex .f32 a b)).run Try.prog w = .ok (.complex .f64 (wd a w) (wd b (wdW a w))) (wdW b (wdW a w)) := by
  simp [convert, run_underlying Try.underlying55, run_underlying Try.underlying60, Conv.complexToComplex, f2f_any]
def Alk (x y : Nat) : Prop := (x = y ∧ nan64 x = false) ∨ (nan64 x = true ∧ nan64 y = true)
theorem wd_alk (b : Nat) (w w' : World) : Alk (wd b w) (wd b w') := by
  unfold wd
  by_cases h : kd b = 4
  · simp only [h, if_true]; exact .inr ⟨nanC64_nan _ _, nanC64_nan _ _⟩
  · simp only [h, if_false]; exact .inl ⟨rfl, widen_num b h⟩
theorem wdW_drew (b : Nat) (w : World) : ∃ n, wdW b w = w.drewN n := by
  unfold wdW
  by_cases h : kd b = 4
  · exact ⟨1, by simp only [h, if_true]; rfl⟩
  · exact ⟨0, by simp only [h, if_false]; rfl⟩
theorem wdW_below (b B : Nat) {w0 w : World} (h : Below B w0 w) : Below B w0 (wdW b w) := by
  obtain ⟨n, e⟩ := wdW_drew b w
  rw [e]
  exact ⟨h.os, h.tape, h.output, h.size, h.block⟩
theorem sameFloat_alk (x y : Nat) (h : Alk x y) (w : World) : Calls Try.prog 75 #[.float .f64 x, .float .f64 y] w fun e w' => e = .returned (.bool true) ∧ w = w' := by
  rcases h with ⟨rfl, h⟩ | ⟨h1, h2⟩
  · exact sameFloat_same x h w
  · exact sameFloat_nan x y h1 h2 w
theorem sameCx_alk (x y u v : Nat) (h : Alk x u) (k : Alk y v) (w : World) : Calls Try.prog 35 #[.complex .f64 x y, .complex .f64 u v] w fun e w' => e = .returned (.bool true) ∧ w = w' := by
  have H := Lib.hid h
  have K := Lib.hid k
  clear h k
  go_enter Try.func35, Try.ntmps35
  go_wp2_with fail
  refine (sameFloat_alk _ _ H.out _).mono ?_; rintro e w' ⟨rfl, rfl⟩
  go_wp2_with fail
  refine (sameFloat_alk _ _ K.out _).mono ?_; rintro e w' ⟨rfl, rfl⟩
  go_wp2
  go_ret
  exact ⟨rfl, rfl⟩
end Go.Proofs.Ytkijgadkgfapgaa
