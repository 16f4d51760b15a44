/-
  CONTRACT: PictureFile by the specification.
-/
import Derived.Test.YthfmkejdpflpcaaPfa
namespace Go.Proofs.Ythfmkejdpflpcaa
open Go.ChangeShapes Go.WideShapes Go.ChangeAt Go.RowKit
theorem u8_wrap_nat (n : Nat) : IntKind.u8.wrap (n : Int) = (n : Int) % 256 := by simp [IntKind.wrap, IntKind.bits, IntKind.signed]
set_option maxRecDepth 100000 in
set_option maxHeartbeats 8000000 in
theorem sPicFile_any (a : Option Addr) (n cap : Nat) (f : Nat → Int) (w : World) (hn : n ≤ 1048576) (h : BlR w.heap.size w a n f) (hf : BlF n f) :
    Calls Try.prog 43 #[.slice a n cap] w (PfPost f n w) := by
  have OK : Hid (∀ W, Below w.heap.size w W → Calls Try.prog 61 #[.slice a n cap] W fun e w' => e = .returned (.bool (validP f n)) ∧ Below W.heap.size W w') := Lib.hid fun W hW => sOk_any a n cap f W.heap.size W (Nat.le_refl _) hn (h.below hW hW.size) hf
  cases hv : validP f n with
  | false =>
    have BAD := Lib.hid (fun a c w' hb => PfPost.bad (f := f) (n := n) (w := w) (w' := w') (a := a) (c := c) hv hb)
    rw [hv] at OK
    clear hv h hf hn
    go_enter Try.func43, Try.ntmps43
    go_wp2_with fail
    refine (OK.out _ (Below.refl _ _)).mono ?_
    rintro e w2 ⟨rfl, b⟩
    have B2 := Lib.hid (b.alloc b.size (.cells #[] 104))
    clear b OK
    go_wp2
    exact bodyPost_ret (v := .tuple #[.slice (some ⟨w2.heap.size, 0, none⟩) 0 0, .int .i64 1]) (by simp [results, Try.results43, go_sem]) rfl (BAD.out _ _ _ B2.out)
  | true =>
    have h64 := validP_le hv
    have nI : (n : Int) ≤ 64 := by omega
    have N64 := Lib.hid h64
    have HR := Lib.hid h
    have MBK : Hid (∀ k, k < n → MB (mkF f k)) := Lib.hid fun k hk => blf_mk hf hk
    have FU := Lib.hid (fun r base w hr hb => four_any r hr base w hb)
    have PM : Hid (∀ k, k < n → ∀ W, Calls Try.prog 80 #[.agg (M16 (mkF f k))] W fun e w' => ∃ a cap, e = .returned (.slice a (mpN (mkF f k)) cap) ∧ YrL W.heap.size w' a (mpN (mkF f k)) (mpB (mkF f k)) ∧ Below W.heap.size W w') := Lib.hid fun k hk W => (spack_any (mkF f k) (blf_mk hf hk) W).mono fun e w' h => PmPost.own h
    have PL := Lib.hid (pfN_le f)
    have GO : Hid (∀ w0 e w', Below w.heap.size w w0 → PkPost 2 (n : Int) (pfN f n) (pfB f n) w0 e w' → PfPost f n w e w') := Lib.hid fun w0 e w' hb hp => PfPost.of hv hb hp
    have LP : Hid (pfN f n ≤ 8192 → ∀ a c W, YrR W.heap.size W a (pfN f n) (pfB f n) → Calls Try.prog 81 #[.int .i64 2, .int .i64 (n : Int), .slice a (pfN f n) c] W fun e w' => ∃ v, e = .returned v ∧ PkPost 2 (n : Int) (pfN f n) (pfB f n) W (.returned (.tuple #[v, .int .i64 0])) w' ∧ Below W.heap.size W w') := Lib.hid fun h8 a c W hy => (lpack_any 2 n (pfN f n) (by omega) (by omega) (by omega) h8 (pfB f n) (pfB_by f n) a c W hy).mono fun e w' ⟨v, he, h1, h2⟩ => ⟨v, he, PkPost.full (k := 2) (c := n) (hdC_ok ⟨by decide, by decide, by omega, by omega⟩ h8) h1 h2, h2⟩
    have LB : Hid (8192 < pfN f n → ∀ W W' a, Below W.heap.size W W' → PkPost 2 (n : Int) (pfN f n) (pfB f n) W (.returned (.tuple #[.slice a 0 0, .int .i64 3])) W') := Lib.hid fun h8 W W' a hb => PkPost.empty (hdC_big ⟨by decide, by decide, by omega, by omega⟩ h8) (by decide) hb
    have ST := Lib.hid (pfB_step f)
    have SN := Lib.hid (pfN_step f)
    rw [hv] at OK
    clear hv h hf hn h64
    go_enter Try.func43, Try.ntmps43
    go_wp2_with fail
    refine (OK.out _ (Below.refl _ _)).mono ?_
    rintro e w2 ⟨rfl, b⟩
    have B2 := Lib.hid b
    clear b OK
    obtain ⟨w4, hw4⟩ : ∃ x, w2.alloc (.cells #[] 5) = x := ⟨_, rfl⟩
    have O4 : Hid (OwnU w.heap.size (.slice (some ⟨w2.heap.size, 0, none⟩) 0 0) (pfN f 0) (pfB f 0) w4) := Lib.hid (by rw [← hw4]; exact World.ownsRow_made (size := 1) w2 #[] 0 B2.out.size (by unfold maxLen; omega) rfl)
    have B4 : Hid (Below w.heap.size w w4) := Lib.hid (by rw [← hw4]; exact B2.out.alloc B2.out.size _)
    go_wp2
    clear hw4
    go_loopw [4, 5] (fun v vi wr => ∃ i : Nat, i ≤ n ∧ vi = .int .i64 (i : Int) ∧ Hid (OwnU w.heap.size v (pfN f i) (pfB f i) wr) ∧ Hid (Below w.heap.size w wr)) (fun _ vi _ => n - (intOf vi).toNat)
    case atStart => exact ⟨0, Nat.zero_le _, rfl, O4, B4⟩
    case round =>
      obtain ⟨i, hi, rfl, O6, B6⟩ := hrel
      clear O4 B4
      by_cases hlt : i < n
      · have ti : (i : Int) < (n : Int) := by omega
        have HI := Lib.hid hlt
        obtain ⟨g, off, rfl, hg, hc⟩ : ∃ g off, a = some ⟨g, off, none⟩ ∧ g < w.heap.size ∧ ∀ j, j < 18 * n → w.cell? ⟨g, off + j, none⟩ = some (bcell f j) := by
          rcases HR.out with h | h
          · omega
          · exact h
        have HG := Lib.hid hg
        have C0 : Hid (∀ W, Below w.heap.size w W → W.cell? ⟨g, off + i * 18, none⟩ = some (.int .i32 (f (i * 18)))) := Lib.hid fun W hW => (hW.cell (p := ⟨g, off + i * 18, none⟩) HG.out).trans ((hc (i * 18) (by omega)).trans (by unfold bcell; rw [if_pos (by omega)]))
        have C1 : Hid (∀ W, Below w.heap.size w W → W.cell? ⟨g, off + i * 18 + 1, none⟩ = some (.int .i32 (f (i * 18 + 1)))) := Lib.hid fun W hW => (hW.cell (p := ⟨g, off + i * 18 + 1, none⟩) HG.out).trans ((hc (i * 18 + 1) (by omega)).trans (by unfold bcell; rw [if_pos (by omega)]))
        have CM : Hid (∀ W, Below w.heap.size w W → ∀ j v, (M16 (mkF f i))[j]? = some v → W.cell? ⟨g, off + i * 18 + 2 + j, none⟩ = some v) := Lib.hid fun W hW j v e => by
          have hj : j < 16 := by
            rcases Nat.lt_or_ge j 16 with h | h
            · exact h
            · rw [Array.getElem?_eq_none (by rw [arr_size]; exact h)] at e; cases e
          rw [arr_get _ _ _ _ hj] at e
          rw [← e]
          refine (hW.cell (p := ⟨g, off + i * 18 + 2 + j, none⟩) HG.out).trans ?_
          rw [show off + i * 18 + 2 + j = off + (i * 18 + 2 + j) by omega, hc _ (by omega)]
          unfold bcell mkF
          rw [if_neg (by omega)]
        have PMI := Lib.hid (PM.out i hlt)
        have SNI := Lib.hid (SN.out i)
        have STI := Lib.hid (ST.out i)
        have LI : Hid (pfN f i ≤ 20000) := Lib.hid (by have := PL.out i; have := N64.out; omega)
        have M16S : Hid ((M16 (mkF f i)).size = 16) := Lib.hid (arr_size _ _ _)
        have ML : Hid (mpN (mkF f i) ≤ 256) := Lib.hid (mpN_le _)
        obtain ⟨M, hM⟩ : ∃ z, M16 (mkF f i) = z := ⟨_, rfl⟩
        obtain ⟨L, hL⟩ : ∃ z, mpN (mkF f i) = z := ⟨_, rfl⟩
        obtain ⟨D, hD⟩ : ∃ z, mpB (mkF f i) = z := ⟨_, rfl⟩
        rw [hM] at CM PMI M16S
        rw [hL] at PMI SNI STI ML
        rw [hD] at PMI STI
        have cx0 := C0.out wr B6.out
        obtain ⟨x0, hx0⟩ : ∃ z, f (i * 18) = z := ⟨_, rfl⟩
        obtain ⟨x1, hx1⟩ : ∃ z, f (i * 18 + 1) = z := ⟨_, rfl⟩
        rw [hx0] at C0 STI cx0
        rw [hx1] at C1 STI
        obtain ⟨u0, hu0⟩ : ∃ z, u32N x0 = z := ⟨_, rfl⟩
        obtain ⟨u1, hu1⟩ : ∃ z, u32N x1 = z := ⟨_, rfl⟩
        have W0 : IntKind.u32.wrap x0 = (u0 : Int) := by rw [u32N_wrap, hu0]
        have W1 : IntKind.u32.wrap x1 = (u1 : Int) := by rw [u32N_wrap, hu1]
        have U0 : Hid (u0 < 4294967296) := Lib.hid (by rw [← hu0]; exact u32N_lt _)
        have U1 : Hid (u1 < 4294967296) := Lib.hid (by rw [← hu1]; exact u32N_lt _)
        rw [hu0, hu1] at STI
        obtain ⟨Q, hQ⟩ : ∃ z, pfB f i = z := ⟨_, rfl⟩
        obtain ⟨P, hP⟩ : ∃ z, pfN f i = z := ⟨_, rfl⟩
        rw [hQ] at STI O6
        rw [hP] at STI SNI O6 LI
        clear hM hL hD hx0 hx1 hu0 hu1 hQ hP hc hg hlt hi PM SN ST MBK
        go_wp2_with fail
        refine (FU.out u0 w.heap.size wr U0.out B6.out.size).mono ?_
        rintro e w7 ⟨v7, rfl, h7, b7⟩
        obtain ⟨g7, k7, rfl, -, -, -, hc7⟩ := h7.form (by omega)
        have C7 : Hid (∀ j, j < 4 → w7.cell? ⟨g7, 0 + j, none⟩ = some (.int .u8 (byW u0 j))) := Lib.hid fun j hj => by rw [Nat.zero_add]; exact hc7 j hj
        have O7 : Hid (OwnU w.heap.size u4 P Q w7) := Lib.hid (ownsRow_below O6.out b7)
        have B7 : Hid (Below w.heap.size w w7) := Lib.hid (B6.out.trans (b7.mono B6.out.size))
        have Z7 := Lib.hid B7.out.size
        clear h7 b7 hc7 cx0
        go_wp2_with (at_builtin; refine wpList_append_u rfl _ _ rfl w.heap.size _ P Q rfl O7.out g7 0 4 k7 (byW u0) rfl C7.out (by have := LI.out; omega) Z7.out w B7.out ?_; intro v8 w8 h1 h2; have O8 := Lib.hid h1; have B8 := Lib.hid h2; have cx1 := C1.out w8 h2; clear h1 h2)
        refine (FU.out u1 w.heap.size w8 U1.out B8.out.size).mono ?_
        rintro e w9 ⟨v9, rfl, h7, b7⟩
        obtain ⟨g9, k9, rfl, -, -, -, hc7⟩ := h7.form (by omega)
        have C9 : Hid (∀ j, j < 4 → w9.cell? ⟨g9, 0 + j, none⟩ = some (.int .u8 (byW u1 j))) := Lib.hid fun j hj => by rw [Nat.zero_add]; exact hc7 j hj
        have O9 : Hid (OwnU w.heap.size v8 (P + 4) (catU Q P (byW u0)) w9) := Lib.hid (ownsRow_below O8.out b7)
        have B9 : Hid (Below w.heap.size w w9) := Lib.hid (B8.out.trans (b7.mono B8.out.size))
        have Z9 := Lib.hid B9.out.size
        clear h7 b7 hc7 cx1 O7 C7 B7 Z7
        go_wp2_with (first | (at_builtin; refine wpList_append_u rfl _ _ rfl w.heap.size _ (P + 4) (catU Q P (byW u0)) rfl O9.out g9 0 4 k9 (byW u1) rfl C9.out (by have := LI.out; omega) Z9.out w B9.out ?_; intro va wa h1 h2; have Oa := Lib.hid h1; have Ba := Lib.hid h2; have CMa := Lib.hid (CM.out wa h2); clear h1 h2) | (refine wpList_load_part rfl 71 _ rfl g (off + i * 18 + 2) rfl M _ CMa.out Try.underlying71 rfl (mask_info _ M16S.out) ?_))
        refine (PMI.out wa).mono ?_
        rintro e wb ⟨ab, cb, rfl, hy, b7⟩
        have Ob : Hid (OwnU w.heap.size va (P + 4 + 4) (catU (catU Q P (byW u0)) (P + 4) (byW u1)) wb) := Lib.hid (ownsRow_below Oa.out b7)
        have Bb : Hid (Below w.heap.size w wb) := Lib.hid (Ba.out.trans (b7.mono Ba.out.size))
        have Yb := Lib.hid hy
        have OL := Lib.hid (World.ownsRow.lt Oa.out)
        clear hy b7 O9 C9 B9 Z9 O8 Oa
        obtain ⟨l8, hl8⟩ : ∃ z, (L : Int) % 256 = z := ⟨_, rfl⟩
        have WL : IntKind.u8.wrap (L : Int) = l8 := by rw [u8_wrap_nat, hl8]
        rw [hl8] at STI
        obtain ⟨wc, hwc⟩ : ∃ x, wb.alloc (.cells #[.int .u8 l8] 5) = x := ⟨_, rfl⟩
        have bc : Below wb.heap.size wb wc := by rw [← hwc]; exact (Below.refl _ _).alloc (Nat.le_refl _) _
        have Oc : Hid (OwnU w.heap.size va (P + 4 + 4) (catU (catU Q P (byW u0)) (P + 4) (byW u1)) wc) := Lib.hid (ownsRow_below Ob.out bc)
        have Bc : Hid (Below w.heap.size w wc) := Lib.hid (Bb.out.trans (bc.mono Bb.out.size))
        have Cc : Hid (∀ j, j < 1 → wc.cell? ⟨wb.heap.size, 0 + j, none⟩ = some (.int .u8 ((fun _ => l8) j))) := Lib.hid fun j hj => by
          obtain rfl : j = 0 := by omega
          rw [← hwc]
          exact Lib.cell_of_heap (World.alloc_heap_new wb _) 0
        have Zc := Lib.hid Bc.out.size
        have Yc := Lib.hid (Yb.out.below bc)
        clear bc hl8 Ob
        go_wp2_with (first | (at_builtin; refine wpList_append_uP rfl _ _ rfl w.heap.size _ (P + 4 + 4) (catU (catU Q P (byW u0)) (P + 4) (byW u1)) rfl Oc.out wb.heap.size 0 1 1 (fun _ => l8) rfl Cc.out (by have := LI.out; omega) Zc.out w Bc.out ?_; intro vd wd h1 h2 h3; have Od := Lib.hid h1; have Bd := Lib.hid h2; have Yd : Hid (YrR wd.heap.size wd ab L D) := Lib.hid (Yc.out.grown h3 (fun k hk => (OL.out k hk).2)).yr; clear h1 h2 h3; obtain ⟨ve, we, hr6, O6x, G6⟩ := run_append_y 95 vd (P + 4 + 4 + 1) _ Od.out ab L cb D Yd.out (by have := LI.out; have := ML.out; omega) Bd.out.size; have Be := Lib.hid (Bd.out.trans (grown_belowU Od.out G6 Bd.out.size)); have Oe := Lib.hid O6x; clear O6x G6) | (at_builtin; refine Lib.wpList_append_run _ rfl _ _ _ _ rfl _ _ rfl rfl _ _ hr6 ?_; clear hr6))
        have Of : Hid (OwnU w.heap.size ve (pfN f (i + 1)) (pfB f (i + 1)) we) := Lib.hid (by rw [SNI.out, STI.out]; exact Oe.out)
        clear SNI STI Oe
        go_roundw
        case rel => exact ⟨i + 1, HI.out, by go_num, Of, Be⟩
        case measure => have := HI.out; simp [intOf]; omega
      · have ti : ¬ (i : Int) < (n : Int) := by omega
        obtain rfl : i = n := by omega
        obtain ⟨a8, c8, rfl, hy8⟩ := own_yr O6.out
        have Y8 := Lib.hid hy8
        clear hy8 hlt hi O6
        by_cases h8 : 8192 < pfN f i
        · have LBX := Lib.hid (LB.out h8)
          have GOX := Lib.hid (GO.out wr)
          have t8 : (8192 : Int) < (pfN f i : Int) := by omega
          obtain ⟨w9, hw9⟩ : ∃ x, wr.alloc (.cells #[] 104) = x := ⟨_, rfl⟩
          have b9 : Hid (Below wr.heap.size wr w9) := Lib.hid (by rw [← hw9]; exact (Below.refl _ _).alloc (Nat.le_refl _) _)
          go_wp2
          exact bodyPost_ret (v := .tuple #[.slice (some ⟨wr.heap.size, 0, none⟩) 0 0, .int .i64 3]) (by simp [results, Try.results43, go_sem]) rfl (GOX.out _ _ B6.out (LBX.out _ _ _ b9.out))
        · have t8 : ¬ (8192 : Int) < (pfN f i : Int) := by omega
          have LPX := Lib.hid (LP.out (by omega) a8 c8 wr Y8.out)
          have GOX := Lib.hid (GO.out wr)
          clear h8
          go_wp2_with fail
          refine LPX.out.mono ?_
          rintro e w9 ⟨v, rfl, hp, b⟩
          have R := Lib.hid (GOX.out _ _ B6.out hp)
          clear hp b
          go_wp2
          exact bodyPost_ret (v := .tuple #[v, .int .i64 0]) (by simp [results, Try.results43, go_sem]) rfl R.out
end Go.Proofs.Ythfmkejdpflpcaa
