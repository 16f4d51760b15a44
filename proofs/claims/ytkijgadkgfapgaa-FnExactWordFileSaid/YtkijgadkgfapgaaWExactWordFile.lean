/-
  THE WALK of the law, whole.
-/
import Derived.Test.YtkijgadkgfapgaaGad
namespace Go.Proofs.Ytkijgadkgfapgaa
open Go.ChangeShapes Go.WideShapes Go.ChangeAt Go.RowKit
open Wd
set_option maxRecDepth 100000 in
set_option maxHeartbeats 16000000 in
theorem fnExactWordFile_walk (a0 : Option Addr) (n0 c0 : Nat) (w : World) (h0 : ∃ L : List (List UInt8), L.length = n0 ∧ SRow w.heap.size w a0 L ∧ SLen L) :
    Calls Try.prog 9 #[.slice a0 n0 c0] w fun e w' => e = .returned (.bool true) ∧ Below w.heap.size w w' := by
  obtain ⟨L0, hL, hr, hl⟩ := h0
  have SZ : Hid (Calls Try.prog 39 #[.slice a0 n0 c0, .int .i64 1048576] w fun e w' => (∃ z : Int, e = .returned (.int .i64 z) ∧ z ≤ 1048576 ∧ (0 ≤ z → SFew L0)) ∧ w = w') := Lib.hid (by rw [← hL]; exact sz_any a0 c0 L0 hl w hr)
  obtain ⟨f0, hf0⟩ : ∃ f : Nat → List UInt8, (fun j => L0[j]?.getD []) = f := ⟨_, rfl⟩
  have HR : Hid (StR w.heap.size w a0 n0 f0) := Lib.hid (by rw [← hL, ← hf0]; exact str_row hr)
  have HFW : Hid (SFew L0 → n0 ≤ 1048576 ∧ ∀ i, i < n0 → (f0 i).length ≤ 1048576) := Lib.hid (by rw [← hL, ← hf0]; exact few_row)
  clear hL hr hl hf0
  go_enter Try.func9, Try.ntmps9
  go_wp2_with fail
  refine SZ.out.mono ?_
  rintro e w' ⟨⟨z, rfl, hz, hf⟩, rfl⟩
  by_cases hn : z < 0
  · clear hf
    go_wp2
    go_ret
    exact ⟨rfl, Below.refl _ _⟩
  have FWX := HFW.out (hf (by omega))
  have N0 : Hid (n0 ≤ 1048576) := Lib.hid FWX.1
  have LN := Lib.hid FWX.2
  have A0_0 := HR
  clear FWX hf SZ HFW HR
  have B0 : Hid (Below w.heap.size w w) := Lib.hid (Below.refl _ _)
  have Z0 : Hid (w.heap.size ≤ w.heap.size) := Lib.hid (Nat.le_refl _)
  have SP := Lib.hid (sWordFU_any n0 N0.out f0 LN.out)
  have IM := Lib.hid (iWordFU_any n0 N0.out f0 LN.out)
  obtain ⟨rn0, hrn0⟩ : ∃ x : Nat, wfN f0 n0 = x := ⟨_, rfl⟩
  have RN0 : Hid (rn0 ≤ 1048576) := Lib.hid (by rw [← hrn0]; exact wfN_le f0 n0)
  simp only [hrn0] at SP IM
  clear hrn0
  obtain ⟨rf0, hrf0⟩ : ∃ x : Nat → Int, wfW f0 n0 = x := ⟨_, rfl⟩
  simp only [hrf0] at SP IM
  clear hrf0
  obtain ⟨rc1, hrc1⟩ : ∃ x : Int, wfC f0 n0 = x := ⟨_, rfl⟩
  simp only [hrc1] at SP IM
  clear hrc1
  go_wp2_with fail
  refine Calls.mono (toT_any (Z0.out) (A0_0.out) N0.out) ?_
  rintro e w1 ⟨v, rfl, hp, b⟩
  have B1 := Lib.hid (B0.out.trans (b.mono Z0.out))
  have Z1 : Hid (w.heap.size ≤ w1.heap.size) := Lib.hid (Nat.le_trans Z0.out b.size)
  have A0_1 : Hid (StR w.heap.size w1 a0 n0 f0) := Lib.hid (A0_0.out.below (b.mono Z0.out) (Nat.le_refl _))
  obtain ⟨aT0, cT0, rfl, hf⟩ := hp.st
  have SMT0 := Lib.hid b.size
  have RT0_1 := Lib.hid hf
  have PT0_1 := Lib.hid hp
  have LT0_1 : Hid (w1.heap.size ≤ w1.heap.size) := Lib.hid (Nat.le_refl _)
  clear hf
  clear b hp
  have QT0 : Hid (StR w1.heap.size w1 aT0 n0 f0) := Lib.hid (by obtain ⟨ax, cx, ex, hx⟩ := PT0_1.out.st; simp only [Value.slice.injEq] at ex; obtain ⟨rfl, -, rfl⟩ := ex; exact hx)
  go_wp2_with fail
  refine Calls.mono (SP.out aT0 cT0 w1 QT0.out) ?_
  rintro e w2 ⟨v, rfl, hp, b⟩
  have B2 := Lib.hid (B1.out.trans (b.mono Z1.out))
  have Z2 : Hid (w.heap.size ≤ w2.heap.size) := Lib.hid (Nat.le_trans Z1.out b.size)
  have A0_2 : Hid (StR w.heap.size w2 a0 n0 f0) := Lib.hid (A0_1.out.below (b.mono Z1.out) (Nat.le_refl _))
  have PT0_2 := Lib.hid (PR.below b LT0_1.out PT0_1.out)
  have LT0_2 : Hid (w1.heap.size ≤ w2.heap.size) := Lib.hid (Nat.le_trans LT0_1.out b.size)
  obtain ⟨aW, cW, rfl, hf⟩ := hp.fr
  have RW_2 := Lib.hid hf
  have PW_2 := Lib.hid hp
  have LW_2 : Hid (w2.heap.size ≤ w2.heap.size) := Lib.hid (Nat.le_refl _)
  clear hf
  clear b hp
  clear QT0
  go_wp2_with fail
  refine Calls.mono (toT_any (Z2.out) (A0_2.out) N0.out) ?_
  rintro e w3 ⟨v, rfl, hp, b⟩
  have B3 := Lib.hid (B2.out.trans (b.mono Z2.out))
  have Z3 : Hid (w.heap.size ≤ w3.heap.size) := Lib.hid (Nat.le_trans Z2.out b.size)
  have A0_3 : Hid (StR w.heap.size w3 a0 n0 f0) := Lib.hid (A0_2.out.below (b.mono Z2.out) (Nat.le_refl _))
  have PW_3 := Lib.hid (PR.below b LW_2.out PW_2.out)
  have LW_3 : Hid (w2.heap.size ≤ w3.heap.size) := Lib.hid (Nat.le_trans LW_2.out b.size)
  obtain ⟨aX0, cX0, rfl, hf⟩ := hp.st
  have SMX0 := Lib.hid b.size
  have RX0_3 := Lib.hid hf
  have PX0_3 := Lib.hid hp
  have LX0_3 : Hid (w3.heap.size ≤ w3.heap.size) := Lib.hid (Nat.le_refl _)
  clear hf
  clear b hp
  have QX0 : Hid (StR w3.heap.size w3 aX0 n0 f0) := Lib.hid (by obtain ⟨ax, cx, ex, hx⟩ := PX0_3.out.st; simp only [Value.slice.injEq] at ex; obtain ⟨rfl, -, rfl⟩ := ex; exact hx)
  go_wp2_with fail
  refine Calls.mono (IM.out aX0 cX0 w3 QX0.out) ?_
  rintro e w4 ⟨v, rfl, hp, b⟩
  have B4 := Lib.hid (B3.out.trans (b.mono Z3.out))
  have Z4 : Hid (w.heap.size ≤ w4.heap.size) := Lib.hid (Nat.le_trans Z3.out b.size)
  have A0_4 : Hid (StR w.heap.size w4 a0 n0 f0) := Lib.hid (A0_3.out.below (b.mono Z3.out) (Nat.le_refl _))
  have PW_4 := Lib.hid (PR.below b LW_3.out PW_3.out)
  have LW_4 : Hid (w2.heap.size ≤ w4.heap.size) := Lib.hid (Nat.le_trans LW_3.out b.size)
  have PX0_4 := Lib.hid (PR.below b LX0_3.out PX0_3.out)
  have LX0_4 : Hid (w3.heap.size ≤ w4.heap.size) := Lib.hid (Nat.le_trans LX0_3.out b.size)
  obtain ⟨aG, cG, rfl, hf⟩ := hp.fr
  have RG_4 := Lib.hid hf
  have PG_4 := Lib.hid hp
  have LG_4 : Hid (w4.heap.size ≤ w4.heap.size) := Lib.hid (Nat.le_refl _)
  clear hf
  clear b hp
  clear QX0
  go_wp2_with fail
  refine Calls.mono (eqF_any (fun _ _ => rfl) RN0.out (PG_4.out) (PW_4.out)) ?_
  rintro e w5 ⟨rfl, b⟩
  have B5 := Lib.hid (B4.out.trans (b.mono Z4.out))
  have Z5 : Hid (w.heap.size ≤ w5.heap.size) := Lib.hid (Nat.le_trans Z4.out b.size)
  have A0_5 : Hid (StR w.heap.size w5 a0 n0 f0) := Lib.hid (A0_4.out.below (b.mono Z4.out) (Nat.le_refl _))
  have PW_5 := Lib.hid (PR.below b LW_4.out PW_4.out)
  have LW_5 : Hid (w2.heap.size ≤ w5.heap.size) := Lib.hid (Nat.le_trans LW_4.out b.size)
  have PX0_5 := Lib.hid (PR.below b LX0_4.out PX0_4.out)
  have LX0_5 : Hid (w3.heap.size ≤ w5.heap.size) := Lib.hid (Nat.le_trans LX0_4.out b.size)
  have PG_5 := Lib.hid (PR.below b LG_4.out PG_4.out)
  have LG_5 : Hid (w4.heap.size ≤ w5.heap.size) := Lib.hid (Nat.le_trans LG_4.out b.size)
  clear b
  go_wp2_with fail
  refine Calls.mono (toT_any (Z5.out) (A0_5.out) N0.out) ?_
  rintro e w6 ⟨v, rfl, hp, b⟩
  have B6 := Lib.hid (B5.out.trans (b.mono Z5.out))
  have Z6 : Hid (w.heap.size ≤ w6.heap.size) := Lib.hid (Nat.le_trans Z5.out b.size)
  have A0_6 : Hid (StR w.heap.size w6 a0 n0 f0) := Lib.hid (A0_5.out.below (b.mono Z5.out) (Nat.le_refl _))
  have PW_6 := Lib.hid (PR.below b LW_5.out PW_5.out)
  have LW_6 : Hid (w2.heap.size ≤ w6.heap.size) := Lib.hid (Nat.le_trans LW_5.out b.size)
  have PX0_6 := Lib.hid (PR.below b LX0_5.out PX0_5.out)
  have LX0_6 : Hid (w3.heap.size ≤ w6.heap.size) := Lib.hid (Nat.le_trans LX0_5.out b.size)
  have PG_6 := Lib.hid (PR.below b LG_5.out PG_5.out)
  have LG_6 : Hid (w4.heap.size ≤ w6.heap.size) := Lib.hid (Nat.le_trans LG_5.out b.size)
  obtain ⟨aU0, cU0, rfl, hf⟩ := hp.st
  have SMU0 := Lib.hid b.size
  have RU0_6 := Lib.hid hf
  have PU0_6 := Lib.hid hp
  have LU0_6 : Hid (w6.heap.size ≤ w6.heap.size) := Lib.hid (Nat.le_refl _)
  clear hf
  clear b hp
  go_wp2_with fail
  refine Calls.mono (eqSt_any (fun _ _ => rfl) N0.out (PX0_6.out) (PU0_6.out)) ?_
  rintro e w7 ⟨rfl, b⟩
  have B7 := Lib.hid (B6.out.trans (b.mono Z6.out))
  have Z7 : Hid (w.heap.size ≤ w7.heap.size) := Lib.hid (Nat.le_trans Z6.out b.size)
  have A0_7 : Hid (StR w.heap.size w7 a0 n0 f0) := Lib.hid (A0_6.out.below (b.mono Z6.out) (Nat.le_refl _))
  have PW_7 := Lib.hid (PR.below b LW_6.out PW_6.out)
  have LW_7 : Hid (w2.heap.size ≤ w7.heap.size) := Lib.hid (Nat.le_trans LW_6.out b.size)
  have PX0_7 := Lib.hid (PR.below b LX0_6.out PX0_6.out)
  have LX0_7 : Hid (w3.heap.size ≤ w7.heap.size) := Lib.hid (Nat.le_trans LX0_6.out b.size)
  have PG_7 := Lib.hid (PR.below b LG_6.out PG_6.out)
  have LG_7 : Hid (w4.heap.size ≤ w7.heap.size) := Lib.hid (Nat.le_trans LG_6.out b.size)
  have PU0_7 := Lib.hid (PR.below b LU0_6.out PU0_6.out)
  have LU0_7 : Hid (w6.heap.size ≤ w7.heap.size) := Lib.hid (Nat.le_trans LU0_6.out b.size)
  clear b
  obtain ⟨z1, hz1⟩ : ∃ z : Nat, 1 + n0 = z := ⟨_, rfl⟩
  have z1p : 0 ≤ (z1 : Int) := by omega
  have MX := Lib.hid (fun (lo hi : Nat) (v : Value) (f : Nat → List UInt8) (w : World) (h : PR 1 lo hi w v n0 (FSt f)) => markSt_any N0.out h)
  rw [hz1] at MX
  clear hz1
  go_wp2_with fail
  refine Calls.mono (MX.out _ _ _ _ _ (PX0_7.out)) ?_
  rintro e w8 ⟨rfl, hp, o⟩
  have OL := o
  have b : Below w.heap.size w7 w8 := o.below Z2.out (Nat.le_trans SMX0.out LX0_7.out)
  have B8 := Lib.hid (B7.out.trans (b))
  have Z8 : Hid (w.heap.size ≤ w8.heap.size) := Lib.hid (Nat.le_trans Z7.out b.size)
  have A0_8 : Hid (StR w.heap.size w8 a0 n0 f0) := Lib.hid (A0_7.out.below (b) (Nat.le_refl _))
  have PW_8 := Lib.hid (PR.onlG OL (.inl LW_2.out) PW_7.out)
  have LW_8 : Hid (w2.heap.size ≤ w8.heap.size) := Lib.hid (Nat.le_trans LW_7.out b.size)
  have PX0_8 := Lib.hid hp
  have LX0_8 : Hid (w3.heap.size ≤ w8.heap.size) := Lib.hid (Nat.le_trans LX0_7.out b.size)
  have PG_8 := Lib.hid (PR.onlG OL (.inr LX0_3.out) PG_7.out)
  have LG_8 : Hid (w4.heap.size ≤ w8.heap.size) := Lib.hid (Nat.le_trans LG_7.out b.size)
  clear OL o b hp
  go_wp2_with fail
  refine Calls.mono (eqF_any (fun _ _ => rfl) RN0.out (PG_8.out) (PW_8.out)) ?_
  rintro e w9 ⟨rfl, b⟩
  have B9 := Lib.hid (B8.out.trans (b.mono Z8.out))
  have Z9 : Hid (w.heap.size ≤ w9.heap.size) := Lib.hid (Nat.le_trans Z8.out b.size)
  have A0_9 : Hid (StR w.heap.size w9 a0 n0 f0) := Lib.hid (A0_8.out.below (b.mono Z8.out) (Nat.le_refl _))
  have PW_9 := Lib.hid (PR.below b LW_8.out PW_8.out)
  have LW_9 : Hid (w2.heap.size ≤ w9.heap.size) := Lib.hid (Nat.le_trans LW_8.out b.size)
  have PG_9 := Lib.hid (PR.below b LG_8.out PG_8.out)
  have LG_9 : Hid (w4.heap.size ≤ w9.heap.size) := Lib.hid (Nat.le_trans LG_8.out b.size)
  clear b
  obtain ⟨z2, hz2⟩ : ∃ z : Nat, 1 + 16 * rn0 = z := ⟨_, rfl⟩
  have z2p : 0 ≤ (z2 : Int) := by omega
  have MG := Lib.hid (fun (lo hi : Nat) (v : Value) (f : Nat → Int) (w : World) (h : PR 16 lo hi w v rn0 (FF f)) => markF_any RN0.out h)
  have HG := Lib.hid (fun (lo hi : Nat) (v : Value) (w : World) (h : PR 16 lo hi w v rn0 markU) => heldF_any RN0.out h)
  rw [hz2] at MG HG
  clear hz2
  go_wp2_with fail
  refine Calls.mono (MG.out _ _ _ _ _ (PG_9.out)) ?_
  rintro e w10 ⟨rfl, hp, o⟩
  have OL := o
  have b : Below w.heap.size w9 w10 := o.below Z3.out
  have B10 := Lib.hid (B9.out.trans (b))
  have Z10 : Hid (w.heap.size ≤ w10.heap.size) := Lib.hid (Nat.le_trans Z9.out b.size)
  have A0_10 : Hid (StR w.heap.size w10 a0 n0 f0) := Lib.hid (A0_9.out.below (b) (Nat.le_refl _))
  have PW_10 := Lib.hid (PR.onl OL (.inl LW_3.out) PW_9.out)
  have LW_10 : Hid (w2.heap.size ≤ w10.heap.size) := Lib.hid (Nat.le_trans LW_9.out b.size)
  have PG_10 := Lib.hid hp
  have LG_10 : Hid (w4.heap.size ≤ w10.heap.size) := Lib.hid (Nat.le_trans LG_9.out b.size)
  clear OL o b hp
  go_wp2_with fail
  refine Calls.mono (HG.out _ _ _ _ (PG_10.out)) ?_
  rintro e x ⟨rfl, rfl⟩
  go_wp2_with fail
  refine Calls.mono (toT_any (Z10.out) (A0_10.out) N0.out) ?_
  rintro e w11 ⟨v, rfl, hp, b⟩
  have B11 := Lib.hid (B10.out.trans (b.mono Z10.out))
  have Z11 : Hid (w.heap.size ≤ w11.heap.size) := Lib.hid (Nat.le_trans Z10.out b.size)
  have A0_11 : Hid (StR w.heap.size w11 a0 n0 f0) := Lib.hid (A0_10.out.below (b.mono Z10.out) (Nat.le_refl _))
  have PW_11 := Lib.hid (PR.below b LW_10.out PW_10.out)
  have LW_11 : Hid (w2.heap.size ≤ w11.heap.size) := Lib.hid (Nat.le_trans LW_10.out b.size)
  have PG_11 := Lib.hid (PR.below b LG_10.out PG_10.out)
  have LG_11 : Hid (w4.heap.size ≤ w11.heap.size) := Lib.hid (Nat.le_trans LG_10.out b.size)
  obtain ⟨aV0, cV0, rfl, hf⟩ := hp.st
  have SMV0 := Lib.hid b.size
  have RV0_11 := Lib.hid hf
  have PV0_11 := Lib.hid hp
  have LV0_11 : Hid (w11.heap.size ≤ w11.heap.size) := Lib.hid (Nat.le_refl _)
  clear hf
  clear b hp
  have QV0 : Hid (StR w11.heap.size w11 aV0 n0 f0) := Lib.hid (by obtain ⟨ax, cx, ex, hx⟩ := PV0_11.out.st; simp only [Value.slice.injEq] at ex; obtain ⟨rfl, -, rfl⟩ := ex; exact hx)
  go_wp2_with fail
  refine Calls.mono (IM.out aV0 cV0 w11 QV0.out) ?_
  rintro e w12 ⟨v, rfl, hp, b⟩
  have B12 := Lib.hid (B11.out.trans (b.mono Z11.out))
  have Z12 : Hid (w.heap.size ≤ w12.heap.size) := Lib.hid (Nat.le_trans Z11.out b.size)
  have A0_12 : Hid (StR w.heap.size w12 a0 n0 f0) := Lib.hid (A0_11.out.below (b.mono Z11.out) (Nat.le_refl _))
  have PW_12 := Lib.hid (PR.below b LW_11.out PW_11.out)
  have LW_12 : Hid (w2.heap.size ≤ w12.heap.size) := Lib.hid (Nat.le_trans LW_11.out b.size)
  have PG_12 := Lib.hid (PR.below b LG_11.out PG_11.out)
  have LG_12 : Hid (w4.heap.size ≤ w12.heap.size) := Lib.hid (Nat.le_trans LG_11.out b.size)
  have PV0_12 := Lib.hid (PR.below b LV0_11.out PV0_11.out)
  have LV0_12 : Hid (w11.heap.size ≤ w12.heap.size) := Lib.hid (Nat.le_trans LV0_11.out b.size)
  obtain ⟨aH, cH, rfl, hf⟩ := hp.fr
  have RH_12 := Lib.hid hf
  have PH_12 := Lib.hid hp
  have LH_12 : Hid (w12.heap.size ≤ w12.heap.size) := Lib.hid (Nat.le_refl _)
  clear hf
  clear b hp
  clear QV0
  go_wp2_with fail
  refine Calls.mono (eqF_any (fun _ _ => rfl) RN0.out (PH_12.out) (PW_12.out)) ?_
  rintro e w13 ⟨rfl, b⟩
  have B13 := Lib.hid (B12.out.trans (b.mono Z12.out))
  have Z13 : Hid (w.heap.size ≤ w13.heap.size) := Lib.hid (Nat.le_trans Z12.out b.size)
  have A0_13 : Hid (StR w.heap.size w13 a0 n0 f0) := Lib.hid (A0_12.out.below (b.mono Z12.out) (Nat.le_refl _))
  have PW_13 := Lib.hid (PR.below b LW_12.out PW_12.out)
  have LW_13 : Hid (w2.heap.size ≤ w13.heap.size) := Lib.hid (Nat.le_trans LW_12.out b.size)
  have PG_13 := Lib.hid (PR.below b LG_12.out PG_12.out)
  have LG_13 : Hid (w4.heap.size ≤ w13.heap.size) := Lib.hid (Nat.le_trans LG_12.out b.size)
  have PH_13 := Lib.hid (PR.below b LH_12.out PH_12.out)
  have LH_13 : Hid (w12.heap.size ≤ w13.heap.size) := Lib.hid (Nat.le_trans LH_12.out b.size)
  clear b
  go_wp2_with fail
  refine Calls.mono (HG.out _ _ _ _ (PG_13.out)) ?_
  rintro e x ⟨rfl, rfl⟩
  go_wp2
  go_ret
  exact ⟨rfl, B13.out⟩
end Go.Proofs.Ytkijgadkgfapgaa
