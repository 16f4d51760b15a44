/-
  ANY NUMBER, DRAWN (the specification's l01Any): it is a word.
-/
import Derived.Test.YtanepboepeijoaaDoorSrc
import Derived.Test.YtanepboepeijoaaDoorCps
import Derived.Test.YtanepboepeijoaaDoorWExactReadReal
namespace Go.Proofs.YtanepboepeijoaaDoor
open Go.ChangeShapes Go.WideShapes Go.ChangeAt Go.RowKit
open Fl
def AnyPost (B p : Nat) (a : Option Addr) (len cap i d : Nat) (e : Ending) (w' : World) : Prop := ∃ (v k : Nat), W32 v ∧ e = .returned (.float .f32 v) ∧ i ≤ k ∧ k ≤ i + d ∧ SrcAt B p a len cap k w'
theorem plain_all : ∀ k : Fin 129, (floatBits .quo .f32 (floatOfInt .f32 ((k.val : Int) - 64)) 1090519040).isSome = true := by decide +kernel
theorem tiny_all : ∀ k : Fin 9, (floatBits .mul .f32 2147483649 (floatOfInt .f32 (k.val : Int))).isSome = true := by decide +kernel
theorem W32_bits {op : BinOp} {x y r : Nat} (h : floatBits op .f32 x y = some r) : W32 r := W32.of_wf (floatBits_wf h)
theorem plain_any (B p len cap i : Nat) (a : Option Addr) (hl : len ≤ 4096) (hi : i ≤ 800000) (w : World) (h : SrcAt B p a len cap i w) :
    Calls Tryd.prog 66 #[.pointer (some ⟨p, 0, none⟩)] w fun e w' => AnyPost B p a len cap i 2 e w' ∧ Only p w w' := by
  have HP := Lib.hid (pick_any B p len cap i a 129 (by omega) (by omega) hl (by omega) w h)
  clear h
  go_enter Tryd.func66, Tryd.ntmps66
  go_wp2_with fail
  refine HP.out.mono ?_
  rintro e w1 ⟨⟨x, k, x0, x1, rfl, k0, k1, s1⟩, b1⟩
  have S1 := Lib.hid s1
  have B1 := Lib.hid b1
  clear s1 b1
  obtain ⟨n, rfl⟩ : ∃ n : Nat, x = n := ⟨x.toNat, by omega⟩
  have hq := plain_all ⟨n, by omega⟩
  obtain ⟨r, hr⟩ := Option.isSome_iff_exists.1 hq
  have HW := Lib.hid (W32_bits hr)
  have hop := fun w t => run_float_arith (P := Tryd.prog) w .quo t .f32 _ _ r hr
  clear hq hr
  go_wp2
  go_ret
  exact ⟨⟨r, k, HW.out, rfl, k0, by omega, S1.out⟩, B1.out⟩
theorem mathInf_up (w : World) : Calls Tryd.prog 64 #[.int .i64 1] w fun e w' => e = .returned (.float .f64 9218868437227405312) ∧ w = w' := by
  go_enter Tryd.func64, Tryd.ntmps64
  go_wp2
  go_ret
  exact ⟨rfl, rfl⟩
theorem mathInf_down (w : World) : Calls Tryd.prog 64 #[.int .i64 (-1)] w fun e w' => e = .returned (.float .f64 18442240474082181120) ∧ w = w' := by
  go_enter Tryd.func64, Tryd.ntmps64
  go_wp2
  go_ret
  exact ⟨rfl, rfl⟩
theorem nanC32_W {x : Nat} {w : World} : W32 (nanC32 x w) := by
  unfold W32 nanC32
  generalize w.tape w.drawn (.nanConv .f32 x) = t
  show (t % 2) * 2147483648 + 0x7f800000 + 1 + (t / 2) % 8388607 < 4294967296
  omega
set_option maxRecDepth 8000 in
set_option maxHeartbeats 4000000 in
theorem any_any (B p len cap i : Nat) (a : Option Addr) (hl : len ≤ 4096) (hi : i ≤ 700000) (w : World) (h : SrcAt B p a len cap i w) :
    Calls Tryd.prog 40 #[.pointer (some ⟨p, 0, none⟩)] w fun e w' => AnyPost B p a len cap i 12 e w' ∧ Only p w w' := by
  have S0 := Lib.hid h
  have hop : ∀ (y : Nat), y < 9 → ∃ r, W32 r ∧ ∀ w t, (binOp .mul t (.float .f32 2147483649) (.float .f32 (floatOfInt .f32 (y : Int)))).run Tryd.prog w = .ok (.float .f32 r) w := fun y hy => by
    obtain ⟨r, hr⟩ := Option.isSome_iff_exists.1 (tiny_all ⟨y, hy⟩)
    exact ⟨r, W32_bits hr, fun w t => run_float_arith (P := Tryd.prog) w .mul t .f32 _ _ r hr⟩
  have HO := Lib.hid hop
  have hn : ∀ w, (convert 28 22 (.float .f64 9221120237041090561)).run Tryd.prog w = .ok (.float .f32 (nanC32 9221120237041090561 w)) w.drew := fun w =>
    run_narrow_nan w 28 22 9221120237041090561 Tryd.underlying28 Tryd.underlying22 (by decide)
  have hu : ∀ w, (convert 28 22 (.float .f64 9218868437227405312)).run Tryd.prog w = .ok (.float .f32 2139095040) w := fun w =>
    run_convert_float_float w 28 22 .f64 .f32 _ _ (by rw [Tryd.underlying28]; rfl) Tryd.underlying22 (by decide +kernel)
  have hd : ∀ w, (convert 28 22 (.float .f64 18442240474082181120)).run Tryd.prog w = .ok (.float .f32 4286578688) w := fun w =>
    run_convert_float_float w 28 22 .f64 .f32 _ _ (by rw [Tryd.underlying28]; rfl) Tryd.underlying22 (by decide +kernel)
  have hz : ∀ w, (convert 28 22 (.float .f64 9223372036854775808)).run Tryd.prog w = .ok (.float .f32 2147483648) w := fun w =>
    run_convert_float_float w 28 22 .f64 .f32 _ _ (by rw [Tryd.underlying28]; rfl) Tryd.underlying22 narrow_minus
  have HN := Lib.hid hn
  have HU := Lib.hid hu
  have HD := Lib.hid hd
  have HZ := Lib.hid hz
  clear h hop hn hu hd hz
  go_enter Tryd.func40, Tryd.ntmps40
  go_wp2_with fail
  refine (pick_any B p len cap i a 8 (by omega) (by omega) hl (by omega) w S0.out).mono ?_
  rintro e w1 ⟨⟨x, k, x0, x1, rfl, k0, k1, sw1⟩, bw1⟩
  have Sw1 := Lib.hid sw1
  have Bw1 := Lib.hid (bw1)
  clear sw1 bw1
  have hx : x = 0 ∨ x = 1 ∨ x = 2 ∨ 3 ≤ x := by omega
  rcases hx with rfl | rfl | rfl | hx
  · go_wp2
    refine wp_loop_rounds 5 ?_
    rw [rounds_succ]
    go_wp2_with fail
    refine (pick_any B p len cap k a 200 (by omega) (by omega) hl (by omega) w1 Sw1.out).mono ?_
    rintro e v0 ⟨⟨y0, j0, y00, y01, rfl, j00, j01, sv0⟩, bv0⟩
    have Sv0 := Lib.hid sv0
    have Bv0 := Lib.hid (Bw1.out.trans bv0)
    clear sv0 bv0
    go_wp2
    have g0 := bits_lo_u32 .or 0 y0
    have f0 := bits_hi_u32 .or 0 y0
    generalize bits BinOp.or IntKind.u32 0 y0 = X0 at g0 f0 ⊢
    rw [rounds_succ]
    go_wp2_with fail
    refine (pick_any B p len cap j0 a 200 (by omega) (by omega) hl (by omega) v0 Sv0.out).mono ?_
    rintro e v1 ⟨⟨y1, j1, y10, y11, rfl, j10, j11, sv1⟩, bv1⟩
    have Sv1 := Lib.hid sv1
    have Bv1 := Lib.hid (Bv0.out.trans bv1)
    clear sv1 bv1
    go_wp2
    have g1 := bits_lo_u32 .or (X0 * 256 % 4294967296) y1
    have f1 := bits_hi_u32 .or (X0 * 256 % 4294967296) y1
    generalize bits BinOp.or IntKind.u32 (X0 * 256 % 4294967296) y1 = X1 at g1 f1 ⊢
    rw [rounds_succ]
    go_wp2_with fail
    refine (pick_any B p len cap j1 a 200 (by omega) (by omega) hl (by omega) v1 Sv1.out).mono ?_
    rintro e v2 ⟨⟨y2, j2, y20, y21, rfl, j20, j21, sv2⟩, bv2⟩
    have Sv2 := Lib.hid sv2
    have Bv2 := Lib.hid (Bv1.out.trans bv2)
    clear sv2 bv2
    go_wp2
    have g2 := bits_lo_u32 .or (X1 * 256 % 4294967296) y2
    have f2 := bits_hi_u32 .or (X1 * 256 % 4294967296) y2
    generalize bits BinOp.or IntKind.u32 (X1 * 256 % 4294967296) y2 = X2 at g2 f2 ⊢
    rw [rounds_succ]
    go_wp2_with fail
    refine (pick_any B p len cap j2 a 200 (by omega) (by omega) hl (by omega) v2 Sv2.out).mono ?_
    rintro e v3 ⟨⟨y3, j3, y30, y31, rfl, j30, j31, sv3⟩, bv3⟩
    have Sv3 := Lib.hid sv3
    have Bv3 := Lib.hid (Bv2.out.trans bv3)
    clear sv3 bv3
    go_wp2
    have g3 := bits_lo_u32 .or (X2 * 256 % 4294967296) y3
    have f3 := bits_hi_u32 .or (X2 * 256 % 4294967296) y3
    generalize bits BinOp.or IntKind.u32 (X2 * 256 % 4294967296) y3 = X3 at g3 f3 ⊢
    rw [rounds_succ]
    go_wp2
    go_ret
    exact ⟨⟨X3.toNat, j3, by unfold W32; omega, rfl, by omega, by omega, Sv3.out⟩, Bv3.out⟩
  · go_wp2_with fail
    refine (pick_any B p len cap k a 7 (by omega) (by omega) hl (by omega) _ (SrcAt.alloc Sw1.out _ (Nat.le_of_lt Sw1.out.lt))).mono ?_
    rintro e w2 ⟨⟨y, j, y0, y1, rfl, j0, j1, s2⟩, b2⟩
    have hlt : p < w1.heap.size := by
      obtain ⟨⟨seed, hs, hr⟩, _, _⟩ := Sw1.out
      exact (Array.getElem?_eq_some_iff.1 hr).1
    have cl : ∀ (n : Nat) (v : Value), n < 7 → [Value.float .f32 0, .float .f32 2139095039, .float .f32 1, .float .f32 8388608, .float .f32 8388607, .float .f32 1266679808, .float .f32 1065353216][n]? = some v → w2.cell? ⟨w1.heap.size, n, none⟩ = some v := fun n v _ hv => b2.cell (by simp; exact hv) (by show w1.heap.size ≠ p; omega)
    have S2 := Lib.hid s2
    have B2 := Lib.hid ((Bw1.out.alloc _).trans b2)
    have CL := Lib.hid cl
    clear s2 b2 cl
    have hy : y = 0 ∨ y = 1 ∨ y = 2 ∨ y = 3 ∨ y = 4 ∨ y = 5 ∨ y = 6 := by omega
    rcases hy with rfl | rfl | rfl | rfl | rfl | rfl | rfl
    · have c := CL.out 0 (.float .f32 0) (by omega) rfl
      go_wp2
      go_ret
      exact ⟨⟨0, j, by unfold W32; omega, rfl, by omega, by omega, S2.out⟩, B2.out⟩
    · have c := CL.out 1 (.float .f32 2139095039) (by omega) rfl
      go_wp2
      go_ret
      exact ⟨⟨2139095039, j, by unfold W32; omega, rfl, by omega, by omega, S2.out⟩, B2.out⟩
    · have c := CL.out 2 (.float .f32 1) (by omega) rfl
      go_wp2
      go_ret
      exact ⟨⟨1, j, by unfold W32; omega, rfl, by omega, by omega, S2.out⟩, B2.out⟩
    · have c := CL.out 3 (.float .f32 8388608) (by omega) rfl
      go_wp2
      go_ret
      exact ⟨⟨8388608, j, by unfold W32; omega, rfl, by omega, by omega, S2.out⟩, B2.out⟩
    · have c := CL.out 4 (.float .f32 8388607) (by omega) rfl
      go_wp2
      go_ret
      exact ⟨⟨8388607, j, by unfold W32; omega, rfl, by omega, by omega, S2.out⟩, B2.out⟩
    · have c := CL.out 5 (.float .f32 1266679808) (by omega) rfl
      go_wp2
      go_ret
      exact ⟨⟨1266679808, j, by unfold W32; omega, rfl, by omega, by omega, S2.out⟩, B2.out⟩
    · have c := CL.out 6 (.float .f32 1065353216) (by omega) rfl
      go_wp2
      go_ret
      exact ⟨⟨1065353216, j, by unfold W32; omega, rfl, by omega, by omega, S2.out⟩, B2.out⟩
  · go_wp2_with fail
    refine (pick_any B p len cap k a 6 (by omega) (by omega) hl (by omega) w1 Sw1.out).mono ?_
    rintro e w2 ⟨⟨y, j, y0, y1, rfl, j0, j1, s2⟩, b2⟩
    have S2 := Lib.hid s2
    have B2 := Lib.hid (Bw1.out.trans b2)
    clear s2 b2
    have hy : y = 0 ∨ y = 1 ∨ y = 2 ∨ y = 3 ∨ 4 ≤ y := by omega
    rcases hy with rfl | rfl | rfl | rfl | hy
    · have hn := HN.out
      have hk := Lib.hid (nanC32_W (x := 9221120237041090561) (w := w2))
      go_wp2_with (go_at_call 58; refine (mathNaN _).mono ?_; rintro e w' ⟨rfl, rfl⟩)
      go_ret
      exact ⟨⟨_, j, hk.out, rfl, by omega, by omega, S2.out.drew⟩, B2.out.drewN 1⟩
    · have hu := HU.out
      go_wp2_with (go_at_call 64; refine (mathInf_up _).mono ?_; rintro e w' ⟨rfl, rfl⟩)
      go_ret
      exact ⟨⟨_, j, by unfold W32; omega, rfl, by omega, by omega, S2.out⟩, B2.out⟩
    · have hd := HD.out
      go_wp2_with (go_at_call 64; refine (mathInf_down _).mono ?_; rintro e w' ⟨rfl, rfl⟩)
      go_ret
      exact ⟨⟨_, j, by unfold W32; omega, rfl, by omega, by omega, S2.out⟩, B2.out⟩
    · have hz := HZ.out
      have hcs := copysign_zero 13830554455654793216 (by omega)
      rw [show zeroAs 13830554455654793216 = 9223372036854775808 from rfl] at hcs
      have HC := Lib.hid hcs
      clear hcs
      go_wp2_with (go_at_call 65; refine (HC.out _).mono ?_; rintro e w' ⟨rfl, rfl⟩)
      go_ret
      exact ⟨⟨_, j, by unfold W32; omega, rfl, by omega, by omega, S2.out⟩, B2.out⟩
    · go_wp2_with fail
      refine (pick_any B p len cap j a 9 (by omega) (by omega) hl (by omega) w2 S2.out).mono ?_
      rintro e w3 ⟨⟨z, m, z0, z1, rfl, m0, m1, s3⟩, b3⟩
      have S3 := Lib.hid s3
      have B3 := Lib.hid (B2.out.trans b3)
      clear s3 b3
      obtain ⟨n, rfl⟩ : ∃ n : Nat, z = n := ⟨z.toNat, by omega⟩
      obtain ⟨r, hr, hop⟩ := HO.out n (by omega)
      have HR := Lib.hid hr
      clear hr
      go_wp2
      go_ret
      exact ⟨⟨r, m, HR.out, rfl, by omega, by omega, S3.out⟩, B3.out⟩
  · have HP := Lib.hid (plain_any B p len cap k a hl (by omega) w1 Sw1.out)
    go_wp2_with (go_at_call 66; refine HP.out.mono ?_; rintro e w2 ⟨⟨v, m, hv, rfl, m0, m1, s2⟩, b2⟩; have S2 := Lib.hid s2; have B2 := Lib.hid b2; have HV := Lib.hid hv; clear s2 b2 hv)
    go_ret
    exact ⟨⟨v, m, HV.out, rfl, by omega, by omega, S2.out⟩, Bw1.out.trans B2.out⟩
end Go.Proofs.YtanepboepeijoaaDoor
