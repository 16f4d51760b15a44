/-
  CONTRACTS for FnCells: the cell of a point, the corner of a cell, on both sides.
-/
import Derived.Test.YtaihooljphkpeaaClc
import Derived.Test.YtaihooljphkpeaaCell
import Derived.RegionTactic
import Derived.ChangeAlike
namespace Go.Proofs.Ytaihooljphkpeaa
open Go.ChangeShapes Go.WideShapes Go.ChangeAt Go.RowKit Go.Deep
open Fl
theorem isFinK_any (k : Int) (hk : k < 3) (w : World) :
    Calls Try.prog 27 #[.int .i64 k] w fun e w' => e = .returned (.bool true) ∧ w = w' := by
  have t : decide (k < 3) = true := by simpa using hk
  clear hk
  go_enter Try.func27, Try.ntmps27
  go_wp2
  go_ret
  exact ⟨rfl, rfl⟩
theorem isSide_any (s : Nat) (h : SideOk s) (w : World) :
    Calls Try.prog 15 #[.float .f32 s] w fun e w' => e = .returned (.bool true) ∧ w = w' := by
  have H := Lib.hid h
  have hp := h.pos
  clear h
  go_enter Try.func15, Try.ntmps15
  go_wp2_with (first | (go_at_call 26; refine (kindOf_any _ H.out.w _).mono ?_; rintro e w' ⟨rfl, rfl⟩) | (go_at_call 27; refine (isFinK_any _ H.out.fin _).mono ?_; rintro e w' ⟨rfl, rfl⟩))
  go_ret
  exact ⟨rfl, rfl⟩
theorem l02Side_any (s : Nat) (h : SideOk s) (w : World) :
    Calls Try.prog 19 #[.float .f32 s] w fun e w' => e = .returned (.bool true) ∧ w = w' := by
  have H := Lib.hid h
  have hp := h.pos
  clear h
  go_enter Try.func19, Try.ntmps19
  go_wp2_with (go_at_call 30; refine (l01Finite_fin _ H.out.fin _).mono ?_; rintro e w' ⟨rfl, rfl⟩)
  go_ret
  exact ⟨rfl, rfl⟩
theorem finPoint_any (a b : Nat) (wa : W32 a) (wb : W32 b) (ha : kd a < 3) (hb : kd b < 3) (w : World) :
    Calls Try.prog 16 #[.complex .f32 a b] w fun e w' => e = .returned (.bool true) ∧ w = w' := by
  have HA := Lib.hid ha
  have HB := Lib.hid hb
  clear ha hb
  go_enter Try.func16, Try.ntmps16
  go_wp2_with (first | (go_at_call 26; first | ((with_reducible refine (kindOf_any _ wa _).mono ?_); rintro e w' ⟨rfl, rfl⟩) | ((with_reducible refine (kindOf_any _ wb _).mono ?_); rintro e w' ⟨rfl, rfl⟩)) | (go_at_call 27; first | ((with_reducible refine (isFinK_any _ HA.out _).mono ?_); rintro e w' ⟨rfl, rfl⟩) | ((with_reducible refine (isFinK_any _ HB.out _).mono ?_); rintro e w' ⟨rfl, rfl⟩)))
  go_ret
  exact ⟨rfl, rfl⟩
theorem l02Finite_any (a b : Nat) (ha : kd a < 3) (hb : kd b < 3) (w : World) :
    Calls Try.prog 20 #[.complex .f32 a b] w fun e w' => e = .returned (.bool true) ∧ w = w' := by
  have HA := Lib.hid ha
  have HB := Lib.hid hb
  clear ha hb
  go_enter Try.func20, Try.ntmps20
  go_wp2_with (go_at_call 30; first | ((with_reducible refine (l01Finite_fin _ HA.out _).mono ?_); rintro e w' ⟨rfl, rfl⟩) | ((with_reducible refine (l01Finite_fin _ HB.out _).mono ?_); rintro e w' ⟨rfl, rfl⟩))
  go_ret
  exact ⟨rfl, rfl⟩
theorem cellNum_any (f : Nat) (h1 : geq64 f 13965662444475908096 = true) (h2 : leq64 f 4742290407621132288 = true) (w : World) :
    Calls Try.prog 18 #[.float .f64 f] w fun e w' => e = .returned (.bool true) ∧ w = w' := by
  have g1 : (FloatKind.f64.format.order f 13965662444475908096 == some .gt || FloatKind.f64.format.order f 13965662444475908096 == some .eq) = true := h1
  have g2 : (FloatKind.f64.format.order f 4742290407621132288 == some .lt || FloatKind.f64.format.order f 4742290407621132288 == some .eq) = true := h2
  clear h1 h2
  go_enter Try.func18, Try.ntmps18
  go_wp2
  go_ret
  exact ⟨rfl, rfl⟩
theorem widen_conv (a : Nat) (h : kd a < 3) (w : World) : (convert 26 45 (.float .f32 a)).run Try.prog w = .ok (.float .f64 (widen a)) w := conv_num a (by omega) w
theorem l02Part_any (a s : Nat) (c : Int) (h : PartOk a s c) (hs : SideOk s) (w : World) :
    Calls Try.prog 21 #[.float .f32 a, .float .f32 s] w fun e w' => e = .returned (.tuple #[.int .i32 c, .bool true]) ∧ w = w' := by
  have k1 := fun w => widen_conv a h.fin w
  have k2 := fun w => widen_conv s hs.fin w
  have k3 := fun w t => run_float_arith (P := Try.prog) w .quo t .f64 _ _ _ h.quo
  have g1 : (FloatKind.f64.format.order (flB a s) 13965662444475908096 == some .gt || FloatKind.f64.format.order (flB a s) 13965662444475908096 == some .eq) = true := h.ge
  have g2 : (FloatKind.f64.format.order (flB a s) 4742290407621132288 == some .lt || FloatKind.f64.format.order (flB a s) 4742290407621132288 == some .eq) = true := h.le
  have k4 := fun w => run_convert_float_int (P := Try.prog) w 45 21 .f64 .i32 (flB a s) c (by kernel_rfl) Try.underlying21 h.cut
  have HN := Lib.hid h.num
  clear h hs
  go_enter Try.func21, Try.ntmps21
  go_wp2_with (go_at_call 17; refine (mathFloor_any a s HN.out _).mono ?_; rintro e w' ⟨rfl, rfl⟩)
  go_ret2
  exact ⟨rfl, rfl⟩
end Go.Proofs.Ytaihooljphkpeaa
