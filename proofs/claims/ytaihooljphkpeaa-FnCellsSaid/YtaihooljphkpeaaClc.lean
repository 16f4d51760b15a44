/-
  CONTRACTS for FnCells: points that are drawn; the cell of a point; the corner of a cell.
-/
import Derived.Test.YtaihooljphkpeaaCm
import Derived.Test.YtaihooljphkpeaaSrc
import Derived.Test.YtaihooljphkpeaaUn
import Derived.Test.YtaihooljphkpeaaCx
import Derived.Test.YtaihooljphkpeaaBase
import Derived.Laws.Cover2
namespace Go.Proofs.Ytaihooljphkpeaa
open Go.ChangeShapes Go.WideShapes Go.ChangeAt Go.RowKit Go.Deep
open Fl
def PlainPost (B p len cap i : Nat) (a : Option Addr) (e : Ending) (w' : World) : Prop := ∃ k j : Nat, k < 129 ∧ e = .returned (.float .f32 (plB k)) ∧ j ≤ i + 2 ∧ SrcAt B p a len cap j w'
theorem plain_any (B p len cap i : Nat) (a : Option Addr) (hl : len ≤ 4096) (hi : i ≤ 100) (w : World) (h : SrcAt B p a len cap i w) :
    Calls Try.prog 24 #[.pointer (some ⟨p, 0, none⟩)] w fun e w' => PlainPost B p len cap i a e w' ∧ Only p w w' := by
  have H := Lib.hid h
  clear h
  go_enter Try.func24, Try.ntmps24
  go_wp2_with fail
  refine (pick_any B p len cap i a 129 (by omega) (by omega) hl (by omega) _ H.out).mono ?_
  rintro e w1 ⟨⟨x, j, hx0, hx1, rfl, hj0, hj1, hs⟩, ho⟩
  obtain ⟨k, rfl⟩ : ∃ k : Nat, x = k := ⟨x.toNat, by omega⟩
  have S := Lib.hid hs
  have O := Lib.hid ho
  have hk : k < 129 := by omega
  have hop := run_float_arith w1 (P := Try.prog) .quo 26 .f32 _ _ _ (pl_ok k hk)
  have R : Hid (PlainPost B p len cap i a (.returned (.float .f32 (plB k))) w1) := Lib.hid ⟨k, j, hk, rfl, hj1, S.out⟩
  clear hs ho hj0 hj1
  go_wp2
  go_ret
  exact ⟨R.out, O.out⟩
theorem point_any (B p len cap i : Nat) (a : Option Addr) (hl : len ≤ 4096) (hi : i ≤ 90) (w : World) (h : SrcAt B p a len cap i w) :
    Calls Try.prog 12 #[.pointer (some ⟨p, 0, none⟩)] w fun e w' => (∃ k m : Nat, k < 129 ∧ m < 129 ∧ e = .returned (.complex .f32 (plB k) (plB m))) ∧ Only p w w' := by
  have H := Lib.hid h
  clear h
  go_enter Try.func12, Try.ntmps12
  go_wp2_with fail
  refine (plain_any B p len cap i a hl (by omega) _ H.out).mono ?_
  rintro e w1 ⟨⟨k, j, hk, rfl, hj, hs⟩, ho⟩
  have S := Lib.hid hs
  have O := Lib.hid ho
  have K := Lib.hid hk
  clear hs ho hk
  go_wp2_with fail
  refine (plain_any B p len cap j a hl (by omega) _ S.out).mono ?_
  rintro e w2 ⟨⟨m, j2, hm, rfl, hj2, hs⟩, ho⟩
  have O2 := Lib.hid (O.out.trans ho)
  have R : Hid (∃ k' m' : Nat, k' < 129 ∧ m' < 129 ∧ Ending.returned (.complex .f32 (plB k) (plB m)) = .returned (.complex .f32 (plB k') (plB m'))) := Lib.hid ⟨k, m, K.out, hm, rfl⟩
  clear hs ho hm hj hj2
  go_wp2
  go_ret
  exact ⟨R.out, O2.out⟩
def PointPost (w : World) (e : Ending) (w' : World) : Prop := ∃ k m : Nat, k < 129 ∧ m < 129 ∧ e = .returned (.complex .f32 (plB k) (plB m)) ∧ Below w.heap.size w w'
theorem p6point_any (len cap : Nat) (a : Option Addr) (hl : len ≤ 4096) (w : World) (h : BRow w.heap.size w a len) :
    Calls Try.prog 5 #[.slice a len cap] w (PointPost w) := by
  have H := Lib.hid h
  clear h
  go_enter Try.func5, Try.ntmps5
  go_wp2_with fail
  refine (from_any len cap a _ H.out).mono ?_
  rintro e w1 ⟨⟨rfl, hs⟩, hb⟩
  have S := Lib.hid hs
  have B1 := Lib.hid hb
  clear hs hb
  go_wp2_with fail
  refine (point_any _ _ len cap 0 a hl (by omega) _ S.out).mono ?_
  rintro e w2 ⟨⟨k, m, hk, hm, rfl⟩, ho⟩
  have R : Hid (PointPost w (.returned (.complex .f32 (plB k) (plB m))) w2) := Lib.hid ⟨k, m, hk, hm, rfl, B1.out.trans (ho.below (Nat.le_refl _) B1.out.size)⟩
  clear hk hm ho
  go_wp2
  go_ret
  exact R.out
def PickP (n : Nat) (w : World) (e : Ending) (w' : World) : Prop := ∃ k : Nat, k < n ∧ e = .returned (.int .i64 (k : Int)) ∧ Below w.heap.size w w'
theorem p6pick_any (len cap n : Nat) (a : Option Addr) (hn : 2 ≤ n) (hn2 : n ≤ 65536) (hl : len ≤ 4096) (w : World) (h : BRow w.heap.size w a len) :
    Calls Try.prog 6 #[.slice a len cap, .int .i64 (n : Nat)] w (PickP n w) := by
  have H := Lib.hid h
  clear h
  go_enter Try.func6, Try.ntmps6
  go_wp2_with fail
  refine (from_any len cap a _ H.out).mono ?_
  rintro e w1 ⟨⟨rfl, hs⟩, hb⟩
  have S := Lib.hid hs
  have B1 := Lib.hid hb
  clear hs hb
  go_wp2_with fail
  refine (pick_any _ _ len cap 0 a (n : Nat) (by omega) (by omega) hl (by omega) _ S.out).mono ?_
  rintro e w2 ⟨⟨x, j, hx0, hx1, rfl, _, _, _⟩, ho⟩
  obtain ⟨k, rfl⟩ : ∃ k : Nat, x = k := ⟨x.toNat, by omega⟩
  have R : Hid (PickP n w (.returned (.int .i64 (k : Int))) w2) := Lib.hid ⟨k, by omega, rfl, B1.out.trans (ho.below (Nat.le_refl _) B1.out.size)⟩
  clear ho hx0 hx1
  go_wp2
  go_ret
  exact R.out
theorem integral_num {q : Nat} (h : isNum64 q = true) (w : World) : (Extern.MathFloor.toIntegral "math.archFloor" .down #[.float .f64 q]).run Try.prog w = .ok (.float .f64 (FloatKind.f64.encode ((FloatKind.f64.decode q).integral .down))) w := by
  have e : Extern.MathFloor.toIntegral "math.archFloor" .down #[.float .f64 q] = (match FloatKind.f64.decode q with
    | .nan s t =>
      if FloatKind.f64.format.quiet t = t then pure (.float .f64 q) else do
      let kept ← choose (.extern "math.Floor,Ceil,Trunc,RoundToEven.signallingNaN kept" 2)
      pure (.float .f64 (if kept == 1 then q else FloatKind.f64.encode (.nan s (FloatKind.f64.format.quiet t))))
    | d => pure (.float .f64 (FloatKind.f64.encode (d.integral .down)))) := rfl
  rw [e]
  unfold isNum64 at h
  cases hd : FloatKind.f64.decode q with
  | nan sg t => rw [hd] at h; cases h
  | infinity sg => rfl
  | number sg m p => rfl
theorem floor_any (a s : Nat) (h : isNum64 (qB a s) = true) (w : World) : (callFunc 28 #[.float .f64 (qB a s)]).run Try.prog w = .ok (.value (.float .f64 (flB a s))) w := by
  rw [run_callFunc_extern Try.func28 (by kernel_rfl) (by kernel_rfl) (by kernel_rfl) (e := Extern.MathFloor.toIntegral "math.archFloor" .down) (by kernel_rfl), integral_num h]
  rfl
theorem mathFloor_any (a s : Nat) (h : isNum64 (qB a s) = true) (w : World) :
    Calls Try.prog 17 #[.float .f64 (qB a s)] w fun e w' => e = .returned (.float .f64 (flB a s)) ∧ w = w' := by
  have hf := floor_any a s h
  clear h
  go_enter Try.func17, Try.ntmps17
  go_wp2
  go_ret
  exact ⟨rfl, rfl⟩
end Go.Proofs.Ytaihooljphkpeaa
