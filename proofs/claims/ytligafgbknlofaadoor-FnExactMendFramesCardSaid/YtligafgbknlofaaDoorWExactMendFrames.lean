/-
  THE WALK of the law, whole.
-/
import Derived.Test.YtligafgbknlofaaDoorHi
namespace Go.Proofs.YtligafgbknlofaaDoor
open Go.ChangeShapes Go.WideShapes Go.ChangeAt Go.RowKit
set_option maxRecDepth 100000 in
set_option maxHeartbeats 16000000 in
theorem fnExactMendFrames_walk (n0 : Nat) (f0 : Nat → Int) (hn0 : n0 ≤ maxLen) (a0 : Option Addr) (c0 : Nat) (n1 : Nat) (f1 : Nat → Int) (hn1 : n1 ≤ maxLen) (a1 : Option Addr) (c1 : Nat) (w : World) (y0 : ByF (16 * n0) f0) (h0 : FrR w.heap.size w a0 n0 f0) (y1 : ByF (16 * n1) f1) (h1 : FrR w.heap.size w a1 n1 f1) (hE : ErrT w) :
    Calls Tryd.prog 4 #[.slice a0 n0 c0, .slice a1 n1 c1] w fun e w' => e = .returned (.bool true) ∧ Below w.heap.size w w' := by
  have SZ := Lib.hid szF_any
  by_cases big0 : 1048576 < n0
  · clear y0 h0 y1 h1
    go_enter Tryd.func4, Tryd.ntmps4
    go_wp2_with fail
    refine Calls.mono (SZ.out a0 n0 c0 (1048576) (by omega) hn0 w) ?_
    rintro e x ⟨rfl, rfl⟩
    rw [if_pos big0]
    go_wp2
    go_ret
    exact ⟨rfl, Below.refl _ _⟩
  by_cases big1 : 1048576 - n0 < n1
  · clear y0 h0 y1 h1
    go_enter Tryd.func4, Tryd.ntmps4
    go_wp2_with fail
    refine Calls.mono (SZ.out a0 n0 c0 (1048576) (by omega) hn0 w) ?_
    rintro e x ⟨rfl, rfl⟩
    rw [if_neg big0]
    have kz0 : ((1048576 - n0 : Nat) : Int) < 0 ↔ False := by simp
    go_wp2_with fail
    refine Calls.mono (SZ.out a1 n1 c1 (1048576 - n0) (by omega) hn1 w) ?_
    rintro e x ⟨rfl, rfl⟩
    rw [if_pos big1]
    go_wp2
    go_ret
    exact ⟨rfl, Below.refl _ _⟩
  have N0 : Hid (n0 ≤ 1048576) := Lib.hid (by omega)
  have BG0 := Lib.hid big0
  have NL0 := Lib.hid hn0
  have A0_0 : Hid (FrR w.heap.size w a0 n0 f0) := Lib.hid h0
  have N1 : Hid (n1 ≤ 1048576) := Lib.hid (by omega)
  have BG1 := Lib.hid big1
  have NL1 := Lib.hid hn1
  have A1_0 : Hid (FrR w.heap.size w a1 n1 f1) := Lib.hid h1
  have B0 : Hid (Below w.heap.size w w) := Lib.hid (Below.refl _ _)
  have Z0 : Hid (w.heap.size ≤ w.heap.size) := Lib.hid (Nat.le_refl _)
  have ET := Lib.hid hE
  have SP := Lib.hid (sMendU_any n0 n1 f0 f1 y0 y1)
  have IM := Lib.hid (iMendU_any n0 n1 f0 f1 y0 y1 N0.out)
  obtain ⟨rn0, hrn0⟩ : ∃ x : Nat, meN n0 n1 = x := ⟨_, rfl⟩
  have RN0 : Hid (rn0 ≤ 1048576) := Lib.hid (by rw [← hrn0]; exact meN_le n0 n1 N0.out)
  simp only [hrn0] at SP IM
  clear hrn0
  obtain ⟨rf0, hrf0⟩ : ∃ x : Nat → Int, mdK f0 f1 n1 n0 = x := ⟨_, rfl⟩
  simp only [hrf0] at SP IM
  clear hrf0
  obtain ⟨rc1, hrc1⟩ : ∃ x : Int, meK f0 f1 n0 n1 = x := ⟨_, rfl⟩
  simp only [hrc1] at SP IM
  clear hrc1
  obtain ⟨rc2, hrc2⟩ : ∃ x : Int, meC n0 n1 = x := ⟨_, rfl⟩
  simp only [hrc2] at SP IM
  clear hrc2
  clear y0 h0 hn0 big0 y1 h1 hn1 big1
  go_enter Tryd.func4, Tryd.ntmps4
  go_wp2_with fail
  refine Calls.mono (SZ.out a0 n0 c0 (1048576) (by omega) NL0.out w) ?_
  rintro e x ⟨rfl, rfl⟩
  rw [if_neg BG0.out]
  have kz0 : ((1048576 - n0 : Nat) : Int) < 0 ↔ False := by simp
  go_wp2_with fail
  refine Calls.mono (SZ.out a1 n1 c1 (1048576 - n0) (by omega) NL1.out w) ?_
  rintro e x ⟨rfl, rfl⟩
  rw [if_neg BG1.out]
  have kz1 : ((1048576 - n0 - n1 : Nat) : Int) < 0 ↔ False := by simp
  go_wp2_with fail
  refine Calls.mono (toFd_any (Z0.out) (A0_0.out) N0.out) ?_
  rintro e w1 ⟨v, rfl, hp, b, hk⟩
  have B1 := Lib.hid (B0.out.trans (b.mono Z0.out))
  have Z1 : Hid (w.heap.size ≤ w1.heap.size) := Lib.hid (Nat.le_trans Z0.out b.size)
  have A0_1 : Hid (FrR w.heap.size w1 a0 n0 f0) := Lib.hid (A0_0.out.below (b.mono Z0.out) (Nat.le_refl _))
  have A1_1 : Hid (FrR w.heap.size w1 a1 n1 f1) := Lib.hid (A1_0.out.below (b.mono Z0.out) (Nat.le_refl _))
  obtain ⟨aT0, cT0, rfl, hf⟩ := hp.fr
  have RT0_1 := Lib.hid hf
  have PT0_1 := Lib.hid hp
  have LT0_1 : Hid (w1.heap.size ≤ w1.heap.size) := Lib.hid (Nat.le_refl _)
  clear hf
  clear b hp
  have KT0 := Lib.hid (hk _ _ _ rfl)
  clear hk
  go_wp2_with fail
  refine Calls.mono (toFd_any (Z1.out) (A1_1.out) N1.out) ?_
  rintro e w2 ⟨v, rfl, hp, b, hk⟩
  have B2 := Lib.hid (B1.out.trans (b.mono Z1.out))
  have Z2 : Hid (w.heap.size ≤ w2.heap.size) := Lib.hid (Nat.le_trans Z1.out b.size)
  have A0_2 : Hid (FrR w.heap.size w2 a0 n0 f0) := Lib.hid (A0_1.out.below (b.mono Z1.out) (Nat.le_refl _))
  have A1_2 : Hid (FrR w.heap.size w2 a1 n1 f1) := Lib.hid (A1_1.out.below (b.mono Z1.out) (Nat.le_refl _))
  have PT0_2 := Lib.hid (PR.below b LT0_1.out PT0_1.out)
  have LT0_2 : Hid (w1.heap.size ≤ w2.heap.size) := Lib.hid (Nat.le_trans LT0_1.out b.size)
  obtain ⟨aT1, cT1, rfl, hf⟩ := hp.fr
  have RT1_2 := Lib.hid hf
  have PT1_2 := Lib.hid hp
  have LT1_2 : Hid (w2.heap.size ≤ w2.heap.size) := Lib.hid (Nat.le_refl _)
  clear hf
  clear b hp
  have KT1 := Lib.hid (hk _ _ _ rfl)
  clear hk
  have QT0 : Hid (FrR w2.heap.size w2 aT0 n0 f0) := Lib.hid (by obtain ⟨ax, cx, ex, hx⟩ := PT0_2.out.fr; simp only [Value.slice.injEq] at ex; obtain ⟨rfl, -, rfl⟩ := ex; exact hx)
  have QT1 : Hid (FrR w2.heap.size w2 aT1 n1 f1) := Lib.hid (by obtain ⟨ax, cx, ex, hx⟩ := PT1_2.out.fr; simp only [Value.slice.injEq] at ex; obtain ⟨rfl, -, rfl⟩ := ex; exact hx)
  go_wp2_with fail
  refine Calls.mono (SP.out aT0 cT0 aT1 cT1 w2 QT0.out QT1.out KT0.out KT1.out) ?_
  rintro e w3 ⟨v, rfl, hp, b⟩
  have B3 := Lib.hid (B2.out.trans (b.mono Z2.out))
  have Z3 : Hid (w.heap.size ≤ w3.heap.size) := Lib.hid (Nat.le_trans Z2.out b.size)
  have A0_3 : Hid (FrR w.heap.size w3 a0 n0 f0) := Lib.hid (A0_2.out.below (b.mono Z2.out) (Nat.le_refl _))
  have A1_3 : Hid (FrR w.heap.size w3 a1 n1 f1) := Lib.hid (A1_2.out.below (b.mono Z2.out) (Nat.le_refl _))
  have PT0_3 := Lib.hid (PR.below b LT0_2.out PT0_2.out)
  have LT0_3 : Hid (w1.heap.size ≤ w3.heap.size) := Lib.hid (Nat.le_trans LT0_2.out b.size)
  have PT1_3 := Lib.hid (PR.below b LT1_2.out PT1_2.out)
  have LT1_3 : Hid (w2.heap.size ≤ w3.heap.size) := Lib.hid (Nat.le_trans LT1_2.out b.size)
  obtain ⟨aW, cW, rfl, hf⟩ := hp.fr
  have RW_3 := Lib.hid hf
  have PW_3 := Lib.hid hp
  have LW_3 : Hid (w3.heap.size ≤ w3.heap.size) := Lib.hid (Nat.le_refl _)
  clear hf
  clear b hp
  clear QT0 QT1
  go_wp2_with fail
  refine Calls.mono (toFd_any (Z3.out) (A0_3.out) N0.out) ?_
  rintro e w4 ⟨v, rfl, hp, b, hk⟩
  have B4 := Lib.hid (B3.out.trans (b.mono Z3.out))
  have Z4 : Hid (w.heap.size ≤ w4.heap.size) := Lib.hid (Nat.le_trans Z3.out b.size)
  have A0_4 : Hid (FrR w.heap.size w4 a0 n0 f0) := Lib.hid (A0_3.out.below (b.mono Z3.out) (Nat.le_refl _))
  have A1_4 : Hid (FrR w.heap.size w4 a1 n1 f1) := Lib.hid (A1_3.out.below (b.mono Z3.out) (Nat.le_refl _))
  have PW_4 := Lib.hid (PR.below b LW_3.out PW_3.out)
  have LW_4 : Hid (w3.heap.size ≤ w4.heap.size) := Lib.hid (Nat.le_trans LW_3.out b.size)
  obtain ⟨aX0, cX0, rfl, hf⟩ := hp.fr
  have RX0_4 := Lib.hid hf
  have PX0_4 := Lib.hid hp
  have LX0_4 : Hid (w4.heap.size ≤ w4.heap.size) := Lib.hid (Nat.le_refl _)
  clear hf
  clear b hp
  have KX0 := Lib.hid (hk _ _ _ rfl)
  clear hk
  go_wp2_with fail
  refine Calls.mono (toFd_any (Z4.out) (A1_4.out) N1.out) ?_
  rintro e w5 ⟨v, rfl, hp, b, hk⟩
  have B5 := Lib.hid (B4.out.trans (b.mono Z4.out))
  have Z5 : Hid (w.heap.size ≤ w5.heap.size) := Lib.hid (Nat.le_trans Z4.out b.size)
  have A0_5 : Hid (FrR w.heap.size w5 a0 n0 f0) := Lib.hid (A0_4.out.below (b.mono Z4.out) (Nat.le_refl _))
  have A1_5 : Hid (FrR w.heap.size w5 a1 n1 f1) := Lib.hid (A1_4.out.below (b.mono Z4.out) (Nat.le_refl _))
  have PW_5 := Lib.hid (PR.below b LW_4.out PW_4.out)
  have LW_5 : Hid (w3.heap.size ≤ w5.heap.size) := Lib.hid (Nat.le_trans LW_4.out b.size)
  have PX0_5 := Lib.hid (PR.below b LX0_4.out PX0_4.out)
  have LX0_5 : Hid (w4.heap.size ≤ w5.heap.size) := Lib.hid (Nat.le_trans LX0_4.out b.size)
  obtain ⟨aX1, cX1, rfl, hf⟩ := hp.fr
  have RX1_5 := Lib.hid hf
  have PX1_5 := Lib.hid hp
  have LX1_5 : Hid (w5.heap.size ≤ w5.heap.size) := Lib.hid (Nat.le_refl _)
  clear hf
  clear b hp
  have KX1 := Lib.hid (hk _ _ _ rfl)
  clear hk
  have QX0 : Hid (FrR w5.heap.size w5 aX0 n0 f0) := Lib.hid (by obtain ⟨ax, cx, ex, hx⟩ := PX0_5.out.fr; simp only [Value.slice.injEq] at ex; obtain ⟨rfl, -, rfl⟩ := ex; exact hx)
  have QX1 : Hid (FrR w5.heap.size w5 aX1 n1 f1) := Lib.hid (by obtain ⟨ax, cx, ex, hx⟩ := PX1_5.out.fr; simp only [Value.slice.injEq] at ex; obtain ⟨rfl, -, rfl⟩ := ex; exact hx)
  go_wp2_with fail
  refine Calls.mono (IM.out aX0 cX0 aX1 cX1 w5 QX0.out QX1.out KX0.out KX1.out (ET.out.below B5.out ET.out.pos)) ?_
  rintro e w6 ⟨v, rfl, hp, b⟩
  have B6 := Lib.hid (B5.out.trans (b.mono Z5.out))
  have Z6 : Hid (w.heap.size ≤ w6.heap.size) := Lib.hid (Nat.le_trans Z5.out b.size)
  have A0_6 : Hid (FrR w.heap.size w6 a0 n0 f0) := Lib.hid (A0_5.out.below (b.mono Z5.out) (Nat.le_refl _))
  have A1_6 : Hid (FrR w.heap.size w6 a1 n1 f1) := Lib.hid (A1_5.out.below (b.mono Z5.out) (Nat.le_refl _))
  have PW_6 := Lib.hid (PR.below b LW_5.out PW_5.out)
  have LW_6 : Hid (w3.heap.size ≤ w6.heap.size) := Lib.hid (Nat.le_trans LW_5.out b.size)
  have PX0_6 := Lib.hid (PR.below b LX0_5.out PX0_5.out)
  have LX0_6 : Hid (w4.heap.size ≤ w6.heap.size) := Lib.hid (Nat.le_trans LX0_5.out b.size)
  have PX1_6 := Lib.hid (PR.below b LX1_5.out PX1_5.out)
  have LX1_6 : Hid (w5.heap.size ≤ w6.heap.size) := Lib.hid (Nat.le_trans LX1_5.out b.size)
  obtain ⟨aG, cG, rfl, hf⟩ := hp.fr
  have RG_6 := Lib.hid hf
  have PG_6 := Lib.hid hp
  have LG_6 : Hid (w6.heap.size ≤ w6.heap.size) := Lib.hid (Nat.le_refl _)
  clear hf
  clear b hp
  clear QX0 QX1
  go_wp2_with fail
  refine Calls.mono (eqF_any (fun _ _ => rfl) RN0.out (PG_6.out) (PW_6.out)) ?_
  rintro e w7 ⟨rfl, b⟩
  have B7 := Lib.hid (B6.out.trans (b.mono Z6.out))
  have Z7 : Hid (w.heap.size ≤ w7.heap.size) := Lib.hid (Nat.le_trans Z6.out b.size)
  have A0_7 : Hid (FrR w.heap.size w7 a0 n0 f0) := Lib.hid (A0_6.out.below (b.mono Z6.out) (Nat.le_refl _))
  have A1_7 : Hid (FrR w.heap.size w7 a1 n1 f1) := Lib.hid (A1_6.out.below (b.mono Z6.out) (Nat.le_refl _))
  have PW_7 := Lib.hid (PR.below b LW_6.out PW_6.out)
  have LW_7 : Hid (w3.heap.size ≤ w7.heap.size) := Lib.hid (Nat.le_trans LW_6.out b.size)
  have PX0_7 := Lib.hid (PR.below b LX0_6.out PX0_6.out)
  have LX0_7 : Hid (w4.heap.size ≤ w7.heap.size) := Lib.hid (Nat.le_trans LX0_6.out b.size)
  have PX1_7 := Lib.hid (PR.below b LX1_6.out PX1_6.out)
  have LX1_7 : Hid (w5.heap.size ≤ w7.heap.size) := Lib.hid (Nat.le_trans LX1_6.out b.size)
  have PG_7 := Lib.hid (PR.below b LG_6.out PG_6.out)
  have LG_7 : Hid (w6.heap.size ≤ w7.heap.size) := Lib.hid (Nat.le_trans LG_6.out b.size)
  clear b
  go_wp2_with fail
  refine Calls.mono (toFd_any (Z7.out) (A0_7.out) N0.out) ?_
  rintro e w8 ⟨v, rfl, hp, b, hk⟩
  have B8 := Lib.hid (B7.out.trans (b.mono Z7.out))
  have Z8 : Hid (w.heap.size ≤ w8.heap.size) := Lib.hid (Nat.le_trans Z7.out b.size)
  have A0_8 : Hid (FrR w.heap.size w8 a0 n0 f0) := Lib.hid (A0_7.out.below (b.mono Z7.out) (Nat.le_refl _))
  have A1_8 : Hid (FrR w.heap.size w8 a1 n1 f1) := Lib.hid (A1_7.out.below (b.mono Z7.out) (Nat.le_refl _))
  have PW_8 := Lib.hid (PR.below b LW_7.out PW_7.out)
  have LW_8 : Hid (w3.heap.size ≤ w8.heap.size) := Lib.hid (Nat.le_trans LW_7.out b.size)
  have PX0_8 := Lib.hid (PR.below b LX0_7.out PX0_7.out)
  have LX0_8 : Hid (w4.heap.size ≤ w8.heap.size) := Lib.hid (Nat.le_trans LX0_7.out b.size)
  have PX1_8 := Lib.hid (PR.below b LX1_7.out PX1_7.out)
  have LX1_8 : Hid (w5.heap.size ≤ w8.heap.size) := Lib.hid (Nat.le_trans LX1_7.out b.size)
  have PG_8 := Lib.hid (PR.below b LG_7.out PG_7.out)
  have LG_8 : Hid (w6.heap.size ≤ w8.heap.size) := Lib.hid (Nat.le_trans LG_7.out b.size)
  obtain ⟨aU0, cU0, rfl, hf⟩ := hp.fr
  have RU0_8 := Lib.hid hf
  have PU0_8 := Lib.hid hp
  have LU0_8 : Hid (w8.heap.size ≤ w8.heap.size) := Lib.hid (Nat.le_refl _)
  clear hf
  clear b hp
  have KU0 := Lib.hid (hk _ _ _ rfl)
  clear hk
  go_wp2_with fail
  refine Calls.mono (eqF_any (fun _ _ => rfl) N0.out (PX0_8.out) (PU0_8.out)) ?_
  rintro e w9 ⟨rfl, b⟩
  have B9 := Lib.hid (B8.out.trans (b.mono Z8.out))
  have Z9 : Hid (w.heap.size ≤ w9.heap.size) := Lib.hid (Nat.le_trans Z8.out b.size)
  have A0_9 : Hid (FrR w.heap.size w9 a0 n0 f0) := Lib.hid (A0_8.out.below (b.mono Z8.out) (Nat.le_refl _))
  have A1_9 : Hid (FrR w.heap.size w9 a1 n1 f1) := Lib.hid (A1_8.out.below (b.mono Z8.out) (Nat.le_refl _))
  have PW_9 := Lib.hid (PR.below b LW_8.out PW_8.out)
  have LW_9 : Hid (w3.heap.size ≤ w9.heap.size) := Lib.hid (Nat.le_trans LW_8.out b.size)
  have PX0_9 := Lib.hid (PR.below b LX0_8.out PX0_8.out)
  have LX0_9 : Hid (w4.heap.size ≤ w9.heap.size) := Lib.hid (Nat.le_trans LX0_8.out b.size)
  have PX1_9 := Lib.hid (PR.below b LX1_8.out PX1_8.out)
  have LX1_9 : Hid (w5.heap.size ≤ w9.heap.size) := Lib.hid (Nat.le_trans LX1_8.out b.size)
  have PG_9 := Lib.hid (PR.below b LG_8.out PG_8.out)
  have LG_9 : Hid (w6.heap.size ≤ w9.heap.size) := Lib.hid (Nat.le_trans LG_8.out b.size)
  have PU0_9 := Lib.hid (PR.below b LU0_8.out PU0_8.out)
  have LU0_9 : Hid (w8.heap.size ≤ w9.heap.size) := Lib.hid (Nat.le_trans LU0_8.out b.size)
  clear b
  go_wp2_with fail
  refine Calls.mono (toFd_any (Z9.out) (A1_9.out) N1.out) ?_
  rintro e w10 ⟨v, rfl, hp, b, hk⟩
  have B10 := Lib.hid (B9.out.trans (b.mono Z9.out))
  have Z10 : Hid (w.heap.size ≤ w10.heap.size) := Lib.hid (Nat.le_trans Z9.out b.size)
  have A0_10 : Hid (FrR w.heap.size w10 a0 n0 f0) := Lib.hid (A0_9.out.below (b.mono Z9.out) (Nat.le_refl _))
  have A1_10 : Hid (FrR w.heap.size w10 a1 n1 f1) := Lib.hid (A1_9.out.below (b.mono Z9.out) (Nat.le_refl _))
  have PW_10 := Lib.hid (PR.below b LW_9.out PW_9.out)
  have LW_10 : Hid (w3.heap.size ≤ w10.heap.size) := Lib.hid (Nat.le_trans LW_9.out b.size)
  have PX0_10 := Lib.hid (PR.below b LX0_9.out PX0_9.out)
  have LX0_10 : Hid (w4.heap.size ≤ w10.heap.size) := Lib.hid (Nat.le_trans LX0_9.out b.size)
  have PX1_10 := Lib.hid (PR.below b LX1_9.out PX1_9.out)
  have LX1_10 : Hid (w5.heap.size ≤ w10.heap.size) := Lib.hid (Nat.le_trans LX1_9.out b.size)
  have PG_10 := Lib.hid (PR.below b LG_9.out PG_9.out)
  have LG_10 : Hid (w6.heap.size ≤ w10.heap.size) := Lib.hid (Nat.le_trans LG_9.out b.size)
  obtain ⟨aU1, cU1, rfl, hf⟩ := hp.fr
  have RU1_10 := Lib.hid hf
  have PU1_10 := Lib.hid hp
  have LU1_10 : Hid (w10.heap.size ≤ w10.heap.size) := Lib.hid (Nat.le_refl _)
  clear hf
  clear b hp
  have KU1 := Lib.hid (hk _ _ _ rfl)
  clear hk
  go_wp2_with fail
  refine Calls.mono (eqF_any (fun _ _ => rfl) N1.out (PX1_10.out) (PU1_10.out)) ?_
  rintro e w11 ⟨rfl, b⟩
  have B11 := Lib.hid (B10.out.trans (b.mono Z10.out))
  have Z11 : Hid (w.heap.size ≤ w11.heap.size) := Lib.hid (Nat.le_trans Z10.out b.size)
  have A0_11 : Hid (FrR w.heap.size w11 a0 n0 f0) := Lib.hid (A0_10.out.below (b.mono Z10.out) (Nat.le_refl _))
  have A1_11 : Hid (FrR w.heap.size w11 a1 n1 f1) := Lib.hid (A1_10.out.below (b.mono Z10.out) (Nat.le_refl _))
  have PW_11 := Lib.hid (PR.below b LW_10.out PW_10.out)
  have LW_11 : Hid (w3.heap.size ≤ w11.heap.size) := Lib.hid (Nat.le_trans LW_10.out b.size)
  have PX0_11 := Lib.hid (PR.below b LX0_10.out PX0_10.out)
  have LX0_11 : Hid (w4.heap.size ≤ w11.heap.size) := Lib.hid (Nat.le_trans LX0_10.out b.size)
  have PX1_11 := Lib.hid (PR.below b LX1_10.out PX1_10.out)
  have LX1_11 : Hid (w5.heap.size ≤ w11.heap.size) := Lib.hid (Nat.le_trans LX1_10.out b.size)
  have PG_11 := Lib.hid (PR.below b LG_10.out PG_10.out)
  have LG_11 : Hid (w6.heap.size ≤ w11.heap.size) := Lib.hid (Nat.le_trans LG_10.out b.size)
  have PU1_11 := Lib.hid (PR.below b LU1_10.out PU1_10.out)
  have LU1_11 : Hid (w10.heap.size ≤ w11.heap.size) := Lib.hid (Nat.le_trans LU1_10.out b.size)
  clear b
  obtain ⟨z1, hz1⟩ : ∃ z : Nat, 1 + 16 * n0 = z := ⟨_, rfl⟩
  have z1p : 0 ≤ (z1 : Int) := by omega
  have MX := Lib.hid (fun (lo hi : Nat) (v : Value) (f : Nat → Int) (w : World) (h : PR 16 lo hi w v n0 (FF f)) => markF_any N0.out h)
  rw [hz1] at MX
  have ZB1 : Hid (z1 ≤ 20000000) := Lib.hid (by have := N0.out; omega)
  clear hz1
  go_wp2_with fail
  refine Calls.mono (MX.out _ _ _ _ _ (PX0_11.out)) ?_
  rintro e w12 ⟨rfl, hp, o⟩
  have OL := o
  have b : Below w.heap.size w11 w12 := o.below Z3.out
  have B12 := Lib.hid (B11.out.trans (b))
  have Z12 : Hid (w.heap.size ≤ w12.heap.size) := Lib.hid (Nat.le_trans Z11.out b.size)
  have A0_12 : Hid (FrR w.heap.size w12 a0 n0 f0) := Lib.hid (A0_11.out.below (b) (Nat.le_refl _))
  have A1_12 : Hid (FrR w.heap.size w12 a1 n1 f1) := Lib.hid (A1_11.out.below (b) (Nat.le_refl _))
  have PW_12 := Lib.hid (PR.onl OL (.inl LW_3.out) PW_11.out)
  have LW_12 : Hid (w3.heap.size ≤ w12.heap.size) := Lib.hid (Nat.le_trans LW_11.out b.size)
  have PX0_12 := Lib.hid hp
  have LX0_12 : Hid (w4.heap.size ≤ w12.heap.size) := Lib.hid (Nat.le_trans LX0_11.out b.size)
  have PX1_12 := Lib.hid (PR.onl OL (.inr LX0_4.out) PX1_11.out)
  have LX1_12 : Hid (w5.heap.size ≤ w12.heap.size) := Lib.hid (Nat.le_trans LX1_11.out b.size)
  have PG_12 := Lib.hid (PR.onl OL (.inr LX0_5.out) PG_11.out)
  have LG_12 : Hid (w6.heap.size ≤ w12.heap.size) := Lib.hid (Nat.le_trans LG_11.out b.size)
  clear OL o b hp
  obtain ⟨z1b, hz1b⟩ : ∃ z : Nat, z1 + 16 * n1 = z := ⟨_, rfl⟩
  have z1bp : 0 ≤ (z1b : Int) := by omega
  have MY := Lib.hid (fun (lo hi : Nat) (v : Value) (f : Nat → Int) (w : World) (h : PR 16 lo hi w v n1 (FF f)) => markX_any (s := z1) N1.out ZB1.out h)
  rw [hz1b] at MY
  clear hz1b
  go_wp2_with fail
  refine Calls.mono (MY.out _ _ _ _ _ (PX1_12.out)) ?_
  rintro e w13 ⟨rfl, hp, o⟩
  have OL := o
  have b : Below w.heap.size w12 w13 := o.below Z4.out
  have B13 := Lib.hid (B12.out.trans (b))
  have Z13 : Hid (w.heap.size ≤ w13.heap.size) := Lib.hid (Nat.le_trans Z12.out b.size)
  have A0_13 : Hid (FrR w.heap.size w13 a0 n0 f0) := Lib.hid (A0_12.out.below (b) (Nat.le_refl _))
  have A1_13 : Hid (FrR w.heap.size w13 a1 n1 f1) := Lib.hid (A1_12.out.below (b) (Nat.le_refl _))
  have PW_13 := Lib.hid (PR.onl OL (.inl LW_4.out) PW_12.out)
  have LW_13 : Hid (w3.heap.size ≤ w13.heap.size) := Lib.hid (Nat.le_trans LW_12.out b.size)
  have PX1_13 := Lib.hid hp
  have LX1_13 : Hid (w5.heap.size ≤ w13.heap.size) := Lib.hid (Nat.le_trans LX1_12.out b.size)
  have PG_13 := Lib.hid (PR.onl OL (.inr LX1_5.out) PG_12.out)
  have LG_13 : Hid (w6.heap.size ≤ w13.heap.size) := Lib.hid (Nat.le_trans LG_12.out b.size)
  clear OL o b hp
  go_wp2_with fail
  refine Calls.mono (eqF_any (fun _ _ => rfl) RN0.out (PG_13.out) (PW_13.out)) ?_
  rintro e w14 ⟨rfl, b⟩
  have B14 := Lib.hid (B13.out.trans (b.mono Z13.out))
  have Z14 : Hid (w.heap.size ≤ w14.heap.size) := Lib.hid (Nat.le_trans Z13.out b.size)
  have A0_14 : Hid (FrR w.heap.size w14 a0 n0 f0) := Lib.hid (A0_13.out.below (b.mono Z13.out) (Nat.le_refl _))
  have A1_14 : Hid (FrR w.heap.size w14 a1 n1 f1) := Lib.hid (A1_13.out.below (b.mono Z13.out) (Nat.le_refl _))
  have PW_14 := Lib.hid (PR.below b LW_13.out PW_13.out)
  have LW_14 : Hid (w3.heap.size ≤ w14.heap.size) := Lib.hid (Nat.le_trans LW_13.out b.size)
  have PG_14 := Lib.hid (PR.below b LG_13.out PG_13.out)
  have LG_14 : Hid (w6.heap.size ≤ w14.heap.size) := Lib.hid (Nat.le_trans LG_13.out b.size)
  clear b
  obtain ⟨z2, hz2⟩ : ∃ z : Nat, 1 + 16 * rn0 = z := ⟨_, rfl⟩
  have z2p : 0 ≤ (z2 : Int) := by omega
  have MG := Lib.hid (fun (lo hi : Nat) (v : Value) (f : Nat → Int) (w : World) (h : PR 16 lo hi w v rn0 (FF f)) => markF_any RN0.out h)
  have HG := Lib.hid (fun (lo hi : Nat) (v : Value) (w : World) (h : PR 16 lo hi w v rn0 markU) => heldF_any RN0.out h)
  rw [hz2] at MG HG
  clear hz2
  go_wp2_with fail
  refine Calls.mono (MG.out _ _ _ _ _ (PG_14.out)) ?_
  rintro e w15 ⟨rfl, hp, o⟩
  have OL := o
  have b : Below w.heap.size w14 w15 := o.below Z5.out
  have B15 := Lib.hid (B14.out.trans (b))
  have Z15 : Hid (w.heap.size ≤ w15.heap.size) := Lib.hid (Nat.le_trans Z14.out b.size)
  have A0_15 : Hid (FrR w.heap.size w15 a0 n0 f0) := Lib.hid (A0_14.out.below (b) (Nat.le_refl _))
  have A1_15 : Hid (FrR w.heap.size w15 a1 n1 f1) := Lib.hid (A1_14.out.below (b) (Nat.le_refl _))
  have PW_15 := Lib.hid (PR.onl OL (.inl LW_5.out) PW_14.out)
  have LW_15 : Hid (w3.heap.size ≤ w15.heap.size) := Lib.hid (Nat.le_trans LW_14.out b.size)
  have PG_15 := Lib.hid hp
  have LG_15 : Hid (w6.heap.size ≤ w15.heap.size) := Lib.hid (Nat.le_trans LG_14.out b.size)
  clear OL o b hp
  go_wp2_with fail
  refine Calls.mono (HG.out _ _ _ _ (PG_15.out)) ?_
  rintro e x ⟨rfl, rfl⟩
  go_wp2_with fail
  refine Calls.mono (toFd_any (Z15.out) (A0_15.out) N0.out) ?_
  rintro e w16 ⟨v, rfl, hp, b, hk⟩
  have B16 := Lib.hid (B15.out.trans (b.mono Z15.out))
  have Z16 : Hid (w.heap.size ≤ w16.heap.size) := Lib.hid (Nat.le_trans Z15.out b.size)
  have A0_16 : Hid (FrR w.heap.size w16 a0 n0 f0) := Lib.hid (A0_15.out.below (b.mono Z15.out) (Nat.le_refl _))
  have A1_16 : Hid (FrR w.heap.size w16 a1 n1 f1) := Lib.hid (A1_15.out.below (b.mono Z15.out) (Nat.le_refl _))
  have PW_16 := Lib.hid (PR.below b LW_15.out PW_15.out)
  have LW_16 : Hid (w3.heap.size ≤ w16.heap.size) := Lib.hid (Nat.le_trans LW_15.out b.size)
  have PG_16 := Lib.hid (PR.below b LG_15.out PG_15.out)
  have LG_16 : Hid (w6.heap.size ≤ w16.heap.size) := Lib.hid (Nat.le_trans LG_15.out b.size)
  obtain ⟨aV0, cV0, rfl, hf⟩ := hp.fr
  have RV0_16 := Lib.hid hf
  have PV0_16 := Lib.hid hp
  have LV0_16 : Hid (w16.heap.size ≤ w16.heap.size) := Lib.hid (Nat.le_refl _)
  clear hf
  clear b hp
  have KV0 := Lib.hid (hk _ _ _ rfl)
  clear hk
  go_wp2_with fail
  refine Calls.mono (toFd_any (Z16.out) (A1_16.out) N1.out) ?_
  rintro e w17 ⟨v, rfl, hp, b, hk⟩
  have B17 := Lib.hid (B16.out.trans (b.mono Z16.out))
  have Z17 : Hid (w.heap.size ≤ w17.heap.size) := Lib.hid (Nat.le_trans Z16.out b.size)
  have A0_17 : Hid (FrR w.heap.size w17 a0 n0 f0) := Lib.hid (A0_16.out.below (b.mono Z16.out) (Nat.le_refl _))
  have A1_17 : Hid (FrR w.heap.size w17 a1 n1 f1) := Lib.hid (A1_16.out.below (b.mono Z16.out) (Nat.le_refl _))
  have PW_17 := Lib.hid (PR.below b LW_16.out PW_16.out)
  have LW_17 : Hid (w3.heap.size ≤ w17.heap.size) := Lib.hid (Nat.le_trans LW_16.out b.size)
  have PG_17 := Lib.hid (PR.below b LG_16.out PG_16.out)
  have LG_17 : Hid (w6.heap.size ≤ w17.heap.size) := Lib.hid (Nat.le_trans LG_16.out b.size)
  have PV0_17 := Lib.hid (PR.below b LV0_16.out PV0_16.out)
  have LV0_17 : Hid (w16.heap.size ≤ w17.heap.size) := Lib.hid (Nat.le_trans LV0_16.out b.size)
  obtain ⟨aV1, cV1, rfl, hf⟩ := hp.fr
  have RV1_17 := Lib.hid hf
  have PV1_17 := Lib.hid hp
  have LV1_17 : Hid (w17.heap.size ≤ w17.heap.size) := Lib.hid (Nat.le_refl _)
  clear hf
  clear b hp
  have KV1 := Lib.hid (hk _ _ _ rfl)
  clear hk
  have QV0 : Hid (FrR w17.heap.size w17 aV0 n0 f0) := Lib.hid (by obtain ⟨ax, cx, ex, hx⟩ := PV0_17.out.fr; simp only [Value.slice.injEq] at ex; obtain ⟨rfl, -, rfl⟩ := ex; exact hx)
  have QV1 : Hid (FrR w17.heap.size w17 aV1 n1 f1) := Lib.hid (by obtain ⟨ax, cx, ex, hx⟩ := PV1_17.out.fr; simp only [Value.slice.injEq] at ex; obtain ⟨rfl, -, rfl⟩ := ex; exact hx)
  go_wp2_with fail
  refine Calls.mono (IM.out aV0 cV0 aV1 cV1 w17 QV0.out QV1.out KV0.out KV1.out (ET.out.below B17.out ET.out.pos)) ?_
  rintro e w18 ⟨v, rfl, hp, b⟩
  have B18 := Lib.hid (B17.out.trans (b.mono Z17.out))
  have Z18 : Hid (w.heap.size ≤ w18.heap.size) := Lib.hid (Nat.le_trans Z17.out b.size)
  have A0_18 : Hid (FrR w.heap.size w18 a0 n0 f0) := Lib.hid (A0_17.out.below (b.mono Z17.out) (Nat.le_refl _))
  have A1_18 : Hid (FrR w.heap.size w18 a1 n1 f1) := Lib.hid (A1_17.out.below (b.mono Z17.out) (Nat.le_refl _))
  have PW_18 := Lib.hid (PR.below b LW_17.out PW_17.out)
  have LW_18 : Hid (w3.heap.size ≤ w18.heap.size) := Lib.hid (Nat.le_trans LW_17.out b.size)
  have PG_18 := Lib.hid (PR.below b LG_17.out PG_17.out)
  have LG_18 : Hid (w6.heap.size ≤ w18.heap.size) := Lib.hid (Nat.le_trans LG_17.out b.size)
  have PV0_18 := Lib.hid (PR.below b LV0_17.out PV0_17.out)
  have LV0_18 : Hid (w16.heap.size ≤ w18.heap.size) := Lib.hid (Nat.le_trans LV0_17.out b.size)
  have PV1_18 := Lib.hid (PR.below b LV1_17.out PV1_17.out)
  have LV1_18 : Hid (w17.heap.size ≤ w18.heap.size) := Lib.hid (Nat.le_trans LV1_17.out b.size)
  obtain ⟨aH, cH, rfl, hf⟩ := hp.fr
  have RH_18 := Lib.hid hf
  have PH_18 := Lib.hid hp
  have LH_18 : Hid (w18.heap.size ≤ w18.heap.size) := Lib.hid (Nat.le_refl _)
  clear hf
  clear b hp
  clear QV0 QV1
  go_wp2_with fail
  refine Calls.mono (eqF_any (fun _ _ => rfl) RN0.out (PH_18.out) (PW_18.out)) ?_
  rintro e w19 ⟨rfl, b⟩
  have B19 := Lib.hid (B18.out.trans (b.mono Z18.out))
  have Z19 : Hid (w.heap.size ≤ w19.heap.size) := Lib.hid (Nat.le_trans Z18.out b.size)
  have A0_19 : Hid (FrR w.heap.size w19 a0 n0 f0) := Lib.hid (A0_18.out.below (b.mono Z18.out) (Nat.le_refl _))
  have A1_19 : Hid (FrR w.heap.size w19 a1 n1 f1) := Lib.hid (A1_18.out.below (b.mono Z18.out) (Nat.le_refl _))
  have PW_19 := Lib.hid (PR.below b LW_18.out PW_18.out)
  have LW_19 : Hid (w3.heap.size ≤ w19.heap.size) := Lib.hid (Nat.le_trans LW_18.out b.size)
  have PG_19 := Lib.hid (PR.below b LG_18.out PG_18.out)
  have LG_19 : Hid (w6.heap.size ≤ w19.heap.size) := Lib.hid (Nat.le_trans LG_18.out b.size)
  have PH_19 := Lib.hid (PR.below b LH_18.out PH_18.out)
  have LH_19 : Hid (w18.heap.size ≤ w19.heap.size) := Lib.hid (Nat.le_trans LH_18.out b.size)
  clear b
  go_wp2_with fail
  refine Calls.mono (HG.out _ _ _ _ (PG_19.out)) ?_
  rintro e x ⟨rfl, rfl⟩
  go_wp2
  go_ret
  exact ⟨rfl, B19.out⟩
end Go.Proofs.YtligafgbknlofaaDoor
