/-
  THE WALK of the law, whole: what the program's function and the specification's answer.
-/
import Derived.Test.YtdcphheeapmjcaaIcl
namespace Go.Proofs.Ytdcphheeapmjcaa
open Go.ChangeShapes Go.WideShapes Go.ChangeAt Go.RowKit Go.Deep
open Wd
set_option maxRecDepth 20000 in
set_option maxHeartbeats 4000000 in
theorem composeImages_law (a0 a1 : Option Addr) (cap0 cap1 : Nat) (F G : List (List UInt8)) (hsF : SLen F) (hsG : SLen G) (w : World) (hrF : SRow w.heap.size w a0 F) (hrG : SRow w.heap.size w a1 G) :
    Calls Try.prog 10 #[.slice a0 F.length cap0, .slice a1 G.length cap1] w fun e w' => e = .returned (.bool true) ∧ Below w.heap.size w w' := by
  have RF := Lib.hid hrF
  have RG := Lib.hid hrG
  have LG := Lib.hid hsG
  have SZ := Lib.hid (sz_any a0 cap0 F hsF w hrF)
  clear hrF hrG hsF hsG
  go_enter Try.func10, Try.ntmps10
  go_wp2_with fail
  refine SZ.out.mono ?_
  rintro e w' ⟨⟨z, rfl, hz, hf⟩, rfl⟩
  by_cases hn : z < 0
  · clear hf
    go_wp2
    go_ret
    exact ⟨rfl, Below.refl _ _⟩
  have hF := Lib.hid (hf (by omega))
  have SY := Lib.hid (szl_any z (by omega) hz a1 cap1 G LG.out w RG.out)
  clear hf
  go_wp2_with fail
  refine SY.out.mono ?_
  rintro e w' ⟨⟨z2, rfl, hz2, hf⟩, rfl⟩
  by_cases hn2 : z2 < 0
  · clear hf
    go_wp2
    go_ret
    exact ⟨rfl, Below.refl _ _⟩
  have hG := Lib.hid (hf (by omega))
  clear hf
  have CF : Hid (∀ w', Below w.heap.size w w' → Calls Try.prog 28 #[.slice a0 F.length cap0] w' (CopyPost F w')) := Lib.hid fun w' b => copy_any a0 cap0 F hF.out.1 w' (RF.out.later b)
  have CG : Hid (∀ w', Below w.heap.size w w' → Calls Try.prog 28 #[.slice a1 G.length cap1] w' (CopyPost G w')) := Lib.hid fun w' b => copy_any a1 cap1 G hG.out.1 w' (RG.out.later b)
  have SC : Hid (∀ g1 g2 w, SRow w.heap.size w (some ⟨g1, 0, none⟩) F → SRow w.heap.size w (some ⟨g2, 0, none⟩) G → Calls Try.prog 33 #[.slice (some ⟨g1, 0, none⟩) F.length F.length, .slice (some ⟨g2, 0, none⟩) G.length G.length] w (CmPost (cmR F G) (cmC F G) w)) := Lib.hid fun g1 g2 w h h1 => scompose_any _ _ _ _ F G hF.out hG.out w h h1
  have IC : Hid (∀ g1 g2 w, SRow w.heap.size w (some ⟨g1, 0, none⟩) F → SRow w.heap.size w (some ⟨g2, 0, none⟩) G → Calls Try.prog 34 #[.slice (some ⟨g1, 0, none⟩) F.length F.length, .slice (some ⟨g2, 0, none⟩) G.length G.length] w (ImPost (cmR F G) (cmC F G) w)) := Lib.hid fun g1 g2 w h h1 => icompose_any _ _ _ _ F G hF.out hG.out w h h1
  have RL := Lib.hid (cmR_len F G)
  generalize cmR F G = R at SC IC RL
  generalize cmC F G = C at SC IC
  have FL := Lib.hid hF.out.1
  have GL := Lib.hid hG.out.1
  clear hF hG SZ SY RF RG LG hz hz2
  -- the specification's answer
  go_wp2_with fail
  refine (CF.out w (Below.refl _ _)).mono ?_
  rintro e wa ⟨gA, rfl, hgA, hcA, bA⟩
  have A1 := Lib.hid bA
  have RA := Lib.hid (strC_row hcA)
  clear bA hcA
  go_wp2_with fail
  refine (CG.out wa A1.out).mono ?_
  rintro e wb ⟨gB, rfl, hgB, hcB, bB⟩
  have SC1 := Lib.hid (SC.out gA gB wb (RA.out.later bB) (strC_row hcB))
  have Ab := Lib.hid (A1.out.trans (bB.mono A1.out.size))
  clear bB hcB RA SC hgA hgB
  go_wp2_with fail
  refine SC1.out.mono ?_
  rintro e wc ⟨v0, rfl, O0, bc⟩
  obtain ⟨b0, c0, rfl, S0⟩ := O0.form
  have W0 : Hid (∀ W, Below wc.heap.size wc W → SRow W.heap.size W b0 R) := Lib.hid fun W b => S0.later b
  have AC := Lib.hid (Ab.out.trans (bc.mono Ab.out.size))
  have AT : Hid (∀ W, Below wc.heap.size wc W → Below w.heap.size w W) := Lib.hid fun W b => AC.out.trans (b.mono AC.out.size)
  clear O0 S0 bc SC1 Ab A1
  -- the program's answer
  go_wp2_with fail
  refine (CF.out wc AC.out).mono ?_
  rintro e wd ⟨gx, rfl, hgx, hcx, bd⟩
  have Cd := Lib.hid bd
  have HX := Lib.hid hcx
  have GX := Lib.hid hgx
  clear bd hcx hgx
  go_wp2_with fail
  refine (CG.out wd (AT.out _ Cd.out)).mono ?_
  rintro e we ⟨gy, rfl, hgy, hcy, be⟩
  have X2 : Hid (we.heap[gx]? = some (.cells (strC F F.length) 9 (0, 0))) := Lib.hid ((be.block _ (Array.getElem?_eq_some_iff.1 HX.out).1).trans HX.out)
  have HY := Lib.hid hcy
  have GY : Hid (gx < gy) := Lib.hid (Nat.lt_of_lt_of_le (Array.getElem?_eq_some_iff.1 HX.out).1 hgy)
  have Ce := Lib.hid (Cd.out.trans (be.mono Cd.out.size))
  have IC1 := Lib.hid (IC.out gx gy we (strC_row X2.out) (strC_row HY.out))
  clear be hcy hgy HX
  go_wp2_with fail
  refine IC1.out.mono ?_
  rintro e wf ⟨v1, rfl, T1, bf⟩
  obtain ⟨b1, c1, rfl, S1⟩ := T1.form
  have TF := Lib.hid T1
  have Cf := Lib.hid (Ce.out.trans (bf.mono Ce.out.size))
  have XF : Hid (wf.heap[gx]? = some (.cells (strC F F.length) 9 (0, 0))) := Lib.hid ((bf.block _ (Array.getElem?_eq_some_iff.1 X2.out).1).trans X2.out)
  have YF : Hid (wf.heap[gy]? = some (.cells (strC G G.length) 9 (0, 0))) := Lib.hid ((bf.block _ (Array.getElem?_eq_some_iff.1 HY.out).1).trans HY.out)
  have GE : Hid (gy < we.heap.size) := Lib.hid (Array.getElem?_eq_some_iff.1 HY.out).1
  have EF : Hid (we.heap.size ≤ wf.heap.size) := Lib.hid bf.size
  have EQ1 := Lib.hid (eqs_any b1 b0 c1 c0 R (by have := RL.out; omega) wf S1 (W0.out wf Cf.out))
  clear bf T1 S1 IC1 X2 HY
  go_wp2_with fail
  refine EQ1.out.mono ?_
  rintro e wg ⟨rfl, bg⟩
  have KG := Lib.hid bg
  have Cg := Lib.hid (Cf.out.trans (bg.mono Cf.out.size))
  clear bg EQ1
  go_wp2_with fail
  refine (CF.out wg (AT.out _ Cg.out)).mono ?_
  rintro e wh ⟨g3, rfl, hg3, hc3, bh⟩
  have KH := Lib.hid (KG.out.trans (bh.mono KG.out.size))
  have Ch := Lib.hid (Cg.out.trans (bh.mono Cg.out.size))
  have XH : Hid (wh.heap[gx]? = some (.cells (strC F F.length) 9 (0, 0))) := Lib.hid ((KH.out.block _ (Array.getElem?_eq_some_iff.1 XF.out).1).trans XF.out)
  have EQ2 := Lib.hid (eqs_any (some ⟨gx, 0, none⟩) (some ⟨g3, 0, none⟩) F.length F.length F FL.out wh (strC_row XH.out) (strC_row hc3))
  clear bh hc3 hg3 KG Cg XH
  go_wp2_with fail
  refine EQ2.out.mono ?_
  rintro e wi ⟨rfl, bi⟩
  have KI := Lib.hid (KH.out.trans (bi.mono KH.out.size))
  have Ci := Lib.hid (Ch.out.trans (bi.mono Ch.out.size))
  clear bi EQ2 KH Ch
  go_wp2_with fail
  refine (CG.out wi (AT.out _ Ci.out)).mono ?_
  rintro e wj ⟨g4, rfl, hg4, hc4, bj⟩
  have KJ := Lib.hid (KI.out.trans (bj.mono KI.out.size))
  have Cj := Lib.hid (Ci.out.trans (bj.mono Ci.out.size))
  have YJ : Hid (wj.heap[gy]? = some (.cells (strC G G.length) 9 (0, 0))) := Lib.hid ((KJ.out.block _ (Array.getElem?_eq_some_iff.1 YF.out).1).trans YF.out)
  have EQ3 := Lib.hid (eqs_any (some ⟨gy, 0, none⟩) (some ⟨g4, 0, none⟩) G.length G.length G GL.out wj (strC_row YJ.out) (strC_row hc4))
  clear bj hc4 hg4 KI Ci YJ
  go_wp2_with fail
  refine EQ3.out.mono ?_
  rintro e wk ⟨rfl, bk⟩
  have KK := Lib.hid (KJ.out.trans (bk.mono KJ.out.size))
  have Ck := Lib.hid (Cj.out.trans (bk.mono Cj.out.size))
  have XK : Hid (wk.heap[gx]? = some (.cells (strC F F.length) 9 (0, 0))) := Lib.hid ((KK.out.block _ (Array.getElem?_eq_some_iff.1 XF.out).1).trans XF.out)
  have YK : Hid (wk.heap[gy]? = some (.cells (strC G G.length) 9 (0, 0))) := Lib.hid ((KK.out.block _ (Array.getElem?_eq_some_iff.1 YF.out).1).trans YF.out)
  have TK : Hid (BlkT we.heap.size (.slice b1 R.length c1) R wk) := Lib.hid (TF.out.keep KK.out)
  have EK : Hid (we.heap.size ≤ wk.heap.size) := Lib.hid (Nat.le_trans EF.out KK.out.size)
  clear bk EQ3 KJ Cj XF YF TF EF KK
  -- the marks in the arguments
  obtain ⟨y1, hy1⟩ : ∃ y1 : Nat, 1 + F.length = y1 := ⟨_, rfl⟩
  obtain ⟨y2, hy2⟩ : ∃ y2 : Nat, y1 + G.length = y2 := ⟨_, rfl⟩
  have y1b : (y1 : Int) ≤ 2000000 := by have := FL.out; omega
  have y2b : (y2 : Int) ≤ 4000000 := by have := FL.out; have := GL.out; omega
  have Y1 : Hid (1 ≤ y1 ∧ y1 ≤ 4000000) := Lib.hid (by omega)
  have M0 : Hid (Calls Try.prog 35 #[.slice (some ⟨gx, 0, none⟩) F.length F.length, .int .i64 1] wk fun e w' => e = .returned (.int .i64 (y1 : Int)) ∧ Only gx wk w') := Lib.hid (by
    rw [← hy1]
    exact (mark_any gx 1 F FL.out (by omega) (by omega) wk XK.out).mono fun e w' ⟨h1, _, h3⟩ => ⟨h1, h3⟩)
  have HY2 := Lib.hid hy2
  clear hy1 hy2 XK
  go_wp2_with fail
  refine M0.out.mono ?_
  rintro e wl ⟨rfl, ol⟩
  have YL : wl.heap[gy]? = some (.cells (strC G G.length) 9 (0, 0)) := (ol.block _ (Array.getElem?_eq_some_iff.1 YK.out).1 (fun e => Nat.ne_of_gt GY.out (Option.some.inj e))).trans YK.out
  have M1 : Hid (Calls Try.prog 35 #[.slice (some ⟨gy, 0, none⟩) G.length G.length, .int .i64 (y1 : Int)] wl fun e w' => e = .returned (.int .i64 (y2 : Int)) ∧ Only gy wl w') := Lib.hid (by
    rw [← HY2.out]
    exact (mark_any gy y1 G GL.out Y1.out.1 Y1.out.2 wl YL).mono fun e w' ⟨h1, _, h3⟩ => ⟨h1, h3⟩)
  have Cl := Lib.hid (Ck.out.trans ((ol.below GX.out Ck.out.size)))
  have TL : Hid (BlkT we.heap.size (.slice b1 R.length c1) R wl) := Lib.hid (TK.out.only (Nat.lt_trans GY.out GE.out) ol)
  have EL : Hid (we.heap.size ≤ wl.heap.size) := Lib.hid (Nat.le_trans EK.out ol.size)
  clear ol YL M0 YK TK EK Ck
  go_wp2_with fail
  refine M1.out.mono ?_
  rintro e wm ⟨rfl, om⟩
  have Cm := Lib.hid (Cl.out.trans ((om.below (Nat.le_trans GX.out (Nat.le_of_lt GY.out)) Cl.out.size)))
  have TM : Hid (BlkT we.heap.size (.slice b1 R.length c1) R wm) := Lib.hid (TL.out.only GE.out om)
  have EM : Hid (we.heap.size ≤ wm.heap.size) := Lib.hid (Nat.le_trans EL.out om.size)
  clear om M1 TL EL Cl GX GY GE Y1 HY2
  have t5 : decide ((y2 : Int) < 0) = false := by simp
  obtain ⟨b1', c1', e1', S1'⟩ := TM.out.form
  injection e1' with e1a e1b e1c
  subst e1a
  have EQ4 := Lib.hid (eqs_any b1 b0 c1 c0 R (by have := RL.out; omega) wm S1' (W0.out wm Cm.out))
  clear S1' e1b e1c
  go_wp2_with fail
  refine EQ4.out.mono ?_
  rintro e wn ⟨rfl, bn⟩
  have Cn := Lib.hid (Cm.out.trans (bn.mono Cm.out.size))
  have TN : Hid (BlkT we.heap.size (.slice b1 R.length c1) R wn) := Lib.hid (TM.out.keep bn)
  have EN : Hid (we.heap.size ≤ wn.heap.size) := Lib.hid (Nat.le_trans EM.out bn.size)
  clear bn EQ4 Cm TM EM
  -- the marks in the answer
  obtain ⟨y3, hy3⟩ : ∃ y3 : Nat, 1 + R.length = y3 := ⟨_, rfl⟩
  have y3b : (y3 : Int) ≤ 5 := by have := RL.out; omega
  have t6 : decide ((y3 : Int) < 0) = false := by simp
  have M2 : Hid (Calls Try.prog 35 #[.slice b1 R.length c1, .int .i64 1] wn fun e w' => e = .returned (.int .i64 (y3 : Int)) ∧ BlkT we.heap.size (.slice b1 R.length c1) (mks 1 R.length) w' ∧ Below we.heap.size wn w') := Lib.hid (by
    rw [← hy3]
    exact markB_any we.heap.size 1 _ R (by have := RL.out; omega) (by omega) (by omega) wn EN.out TN.out)
  have HE : Hid (∀ W, BlkT we.heap.size (.slice b1 R.length c1) (mks 1 R.length) W → Calls Try.prog 36 #[.slice b1 R.length c1, .int .i64 1] W fun e w' => e = .returned (.int .i64 (y3 : Int)) ∧ Below W.heap.size W w') := Lib.hid (by
    rw [← hy3]
    exact fun W h => heldB_any we.heap.size 1 R.length _ (by have := RL.out; omega) (by omega) (by omega) W h)
  clear hy3
  go_wp2_with fail
  refine M2.out.mono ?_
  rintro e wo ⟨rfl, to, bo⟩
  have Co := Lib.hid (Cn.out.trans (bo.mono Ce.out.size))
  have TO := Lib.hid to
  have HE1 := Lib.hid (HE.out wo to)
  clear to bo M2 TN EN Cn
  go_wp2_with fail
  refine HE1.out.mono ?_
  rintro e wp ⟨rfl, bp⟩
  have Cp := Lib.hid (Co.out.trans (bp.mono Co.out.size))
  have TP : Hid (BlkT we.heap.size (.slice b1 R.length c1) (mks 1 R.length) wp) := Lib.hid (TO.out.keep bp)
  clear bp HE1 Co TO
  go_wp2_with fail
  refine (CF.out wp (AT.out _ Cp.out)).mono ?_
  rintro e wq ⟨g5, rfl, hg5, hc5, bq⟩
  have Cq := Lib.hid (Cp.out.trans (bq.mono Cp.out.size))
  have TQ : Hid (BlkT we.heap.size (.slice b1 R.length c1) (mks 1 R.length) wq) := Lib.hid (TP.out.keep bq)
  have R5 := Lib.hid (strC_row hc5)
  clear bq hc5 hg5 Cp TP
  go_wp2_with fail
  refine (CG.out wq (AT.out _ Cq.out)).mono ?_
  rintro e wr ⟨g6, rfl, hg6, hc6, br⟩
  have Cr := Lib.hid (Cq.out.trans (br.mono Cq.out.size))
  have TR : Hid (BlkT we.heap.size (.slice b1 R.length c1) (mks 1 R.length) wr) := Lib.hid (TQ.out.keep br)
  have IC2 := Lib.hid (IC.out g5 g6 wr (R5.out.later br) (strC_row hc6))
  clear br hc6 hg6 Cq TQ R5 CF CG IC
  go_wp2_with fail
  refine IC2.out.mono ?_
  rintro e ws ⟨v2, rfl, T2, bs⟩
  obtain ⟨b2, c2, rfl, S2⟩ := T2.form
  have Cs := Lib.hid (Cr.out.trans (bs.mono Cr.out.size))
  have TS : Hid (BlkT we.heap.size (.slice b1 R.length c1) (mks 1 R.length) ws) := Lib.hid (TR.out.keep bs)
  have EQ5 := Lib.hid (eqs_any b2 b0 c2 c0 R (by have := RL.out; omega) ws S2 (W0.out ws Cs.out))
  clear bs T2 S2 IC2 Cr TR
  go_wp2_with fail
  refine EQ5.out.mono ?_
  rintro e wt ⟨rfl, bt⟩
  have Ct := Lib.hid (Cs.out.trans (bt.mono Cs.out.size))
  have HE2 := Lib.hid (HE.out wt (TS.out.keep bt))
  clear bt EQ5 Cs TS HE
  go_wp2_with fail
  refine HE2.out.mono ?_
  rintro e wu ⟨rfl, bu⟩
  have Cu := Lib.hid (AT.out _ (Ct.out.trans (bu.mono Ct.out.size)))
  clear bu HE2 Ct
  go_wp2
  go_ret
  exact ⟨rfl, Cu.out⟩
theorem fnExactComposeImages_walk (a0 : Option Addr) (len0 cap0 : Nat) (a1 : Option Addr) (len1 cap1 : Nat) (w : World) (h0 : ∃ L : List (List UInt8), L.length = len0 ∧ SRow w.heap.size w a0 L ∧ SLen L) (h1 : ∃ L : List (List UInt8), L.length = len1 ∧ SRow w.heap.size w a1 L ∧ SLen L) :
    Calls Try.prog 10 #[.slice a0 len0 cap0, .slice a1 len1 cap1] w fun e w' => e = .returned (.bool true) ∧ Below w.heap.size w w' := by
  obtain ⟨F, rfl, hrF, hsF⟩ := h0
  obtain ⟨G, rfl, hrG, hsG⟩ := h1
  exact composeImages_law a0 a1 cap0 cap1 F G hsF hsG w hrF hrG
end Go.Proofs.Ytdcphheeapmjcaa
