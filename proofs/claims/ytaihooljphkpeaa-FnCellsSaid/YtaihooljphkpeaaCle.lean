/-
  CONTRACTS for FnCells: CellOf and CornerOf on both sides.
-/
import Derived.Test.YtaihooljphkpeaaCld
namespace Go.Proofs.Ytaihooljphkpeaa
open Go.ChangeShapes Go.WideShapes Go.ChangeAt Go.RowKit Go.Deep
open Fl
def CellPost (c d : Int) (w : World) (e : Ending) (w' : World) : Prop := e = .returned (.tuple #[.agg #[.int .i32 c, .int .i32 d], .int .i64 0]) ∧ Below w.heap.size w w'
theorem specCell_any (a b s : Nat) (c d : Int) (ha : PartOk a s c) (hb : PartOk b s d) (hs : SideOk s) (w : World) :
    Calls Try.prog 8 #[.complex .f32 a b, .float .f32 s] w (CellPost c d w) := by
  have HA := Lib.hid ha
  have HB := Lib.hid hb
  have HS := Lib.hid hs
  clear ha hb hs
  go_enter Try.func8, Try.ntmps8
  go_wp2_with (first | (go_at_call 19; refine (l02Side_any _ HS.out _).mono ?_; rintro e w' ⟨rfl, rfl⟩) | (go_at_call 20; refine (l02Finite_any _ _ HA.out.fin HB.out.fin _).mono ?_; rintro e w' ⟨rfl, rfl⟩) | (go_at_call 21; first | ((with_reducible refine (l02Part_any a s c HA.out HS.out _).mono ?_); rintro e w' ⟨rfl, rfl⟩) | ((with_reducible refine (l02Part_any b s d HB.out HS.out _).mono ?_); rintro e w' ⟨rfl, rfl⟩)))
  exact bodyPost_ret (v := .tuple #[.agg #[.int .i32 c, .int .i32 d], .int .i64 0]) (by simp [results, Try.results8, go_sem]) rfl ⟨rfl, (Below.refl _ _).alloc (Nat.le_refl _) _⟩
theorem cx_wide (a b : Nat) (ha : kd a < 3) (hb : kd b < 3) (w : World) : (convert 24 44 (.complex .f32 a b)).run Try.prog w = .ok (.complex .f64 (widen a) (widen b)) w := by
  rw [conv_cx]
  have h1 : kd a ≠ 4 := by omega
  have h2 : kd b ≠ 4 := by omega
  simp [wd, wdW, h1, h2]
theorem implCell_any (a b s : Nat) (c d : Int) (ha : PartOk a s c) (hb : PartOk b s d) (hs : SideOk s) (w : World) :
    Calls Try.prog 7 #[.complex .f32 a b, .float .f32 s] w (CellPost c d w) := by
  have HA := Lib.hid ha
  have HB := Lib.hid hb
  have HS := Lib.hid hs
  have k0 := fun w => cx_wide a b ha.fin hb.fin w
  have k2 := fun w => widen_conv s hs.fin w
  have k3 := fun w t => run_float_arith (P := Try.prog) w .quo t .f64 _ _ _ ha.quo
  have k5 := fun w t => run_float_arith (P := Try.prog) w .quo t .f64 _ _ _ hb.quo
  have k4 := fun w => run_convert_float_int (P := Try.prog) w 45 21 .f64 .i32 (flB a s) c (by kernel_rfl) Try.underlying21 ha.cut
  have k6 := fun w => run_convert_float_int (P := Try.prog) w 45 21 .f64 .i32 (flB b s) d (by kernel_rfl) Try.underlying21 hb.cut
  clear ha hb hs
  go_enter Try.func7, Try.ntmps7
  go_wp2_with (first | (go_at_call 15; refine (isSide_any _ HS.out _).mono ?_; rintro e w' ⟨rfl, rfl⟩) | (go_at_call 16; refine (finPoint_any _ _ HA.out.w HB.out.w HA.out.fin HB.out.fin _).mono ?_; rintro e w' ⟨rfl, rfl⟩) | (go_at_call 17; first | ((with_reducible refine (mathFloor_any a s HA.out.num _).mono ?_); rintro e w' ⟨rfl, rfl⟩) | ((with_reducible refine (mathFloor_any b s HB.out.num _).mono ?_); rintro e w' ⟨rfl, rfl⟩)) | (go_at_call 18; first | ((with_reducible refine (cellNum_any (flB a s) HA.out.ge HA.out.le _).mono ?_); rintro e w' ⟨rfl, rfl⟩) | ((with_reducible refine (cellNum_any (flB b s) HB.out.ge HB.out.le _).mono ?_); rintro e w' ⟨rfl, rfl⟩)))
  exact bodyPost_ret (v := .tuple #[.agg #[.int .i32 c, .int .i32 d], .int .i64 0]) (by simp [results, Try.results7, go_sem]) rfl ⟨rfl, (Below.refl _ _).alloc (Nat.le_refl _) _⟩
theorem cx_narrow (m n r t : Nat) (h1 : floatToFloatBits .f64 m .f32 = some r) (h2 : floatToFloatBits .f64 n .f32 = some t) (w : World) : (convert 44 24 (.complex .f64 m n)).run Try.prog w = .ok (.complex .f32 r t) w := by
  simp [convert, run_underlying Try.underlying24, run_underlying Try.underlying44, Conv.complexToComplex, run_floatToFloat w h1, run_floatToFloat w h2]
def CornerPost (c d : Int) (s : Nat) (w : World) (e : Ending) (w' : World) : Prop := e = .returned (.tuple #[.complex .f32 (coB c s) (coB d s), .int .i64 0]) ∧ Below w.heap.size w w'
theorem implCorner_any (s : Nat) (c d : Int) (hc : CornerOk c s) (hd : CornerOk d s) (hs : SideOk s) (w : World) :
    Calls Try.prog 9 #[.agg #[.int .i32 c, .int .i32 d], .float .f32 s] w (CornerPost c d s w) := by
  have HC := Lib.hid hc
  have HD := Lib.hid hd
  have HS := Lib.hid hs
  have k2 := fun w => widen_conv s hs.fin w
  have k3 := fun w t => run_float_arith (P := Try.prog) w .mul t .f64 _ _ _ hc.mul
  have k5 := fun w t => run_float_arith (P := Try.prog) w .mul t .f64 _ _ _ hd.mul
  have k4 := fun w => cx_narrow _ _ _ _ hc.cut hd.cut w
  clear hc hd hs
  go_enter Try.func9, Try.ntmps9
  go_wp2
  go_quiet (fail)
  go_wp2_with (first | (go_at_call 15; refine (isSide_any _ HS.out _).mono ?_; rintro e w' ⟨rfl, rfl⟩) | (go_at_call 18; first | ((with_reducible refine (cellNum_any _ HC.out.ge HC.out.le _).mono ?_); rintro e w' ⟨rfl, rfl⟩) | ((with_reducible refine (cellNum_any _ HD.out.ge HD.out.le _).mono ?_); rintro e w' ⟨rfl, rfl⟩)))
  go_ret2
  exact ⟨rfl, ((Below.refl _ _).alloc (Nat.le_refl _) _).trans ⟨rfl, rfl, rfl, Nat.le_refl _, fun _ _ => rfl⟩⟩
end Go.Proofs.Ytaihooljphkpeaa
