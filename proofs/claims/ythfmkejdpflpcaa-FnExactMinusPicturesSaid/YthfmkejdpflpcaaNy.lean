/-
  CONTRACT: MinusPictures by the specification.
-/
import Derived.Test.YthfmkejdpflpcaaNv
namespace Go.Proofs.Ythfmkejdpflpcaa
open Go.ChangeShapes Go.WideShapes Go.ChangeAt Go.RowKit Go.Maps Go.WideMaps
set_option maxRecDepth 100000 in
set_option maxHeartbeats 16000000 in
theorem sMinusPic_any (ga gb : Nat) (n m ca cb : Nat) (f g : Nat → Int) (K0 : List (Int × Int)) (w : World) (hn : n ≤ 1048576) (hm : m ≤ 1048576) (ha : BlR w.heap.size w (some ⟨ga, 0, none⟩) n f) (hb : BlR w.heap.size w (some ⟨gb, 0, none⟩) m g) (hf : BlF n f) (hg : BlF m g) (hK : bbV f n g m = true → PicK (GF MinusMasksG (shF f n) (shF g m)) K0) :
    Calls Try.prog 34 #[.slice (some ⟨ga, 0, none⟩) n ca, .slice (some ⟨gb, 0, none⟩) m cb] w (BbPost MinusMasksG f n g m K0 w) := by
  unfold BbPost
  have OKA : Hid (∀ W, Below w.heap.size w W → Calls Try.prog 61 #[.slice (some ⟨ga, 0, none⟩) n ca] W fun e w' => e = .returned (.bool (validP f n)) ∧ Below W.heap.size W w') := Lib.hid fun W hW => sOk_any _ n ca f W.heap.size W (Nat.le_refl _) hn (ha.below hW hW.size) hf
  have OKB : Hid (∀ W, Below w.heap.size w W → Calls Try.prog 61 #[.slice (some ⟨gb, 0, none⟩) m cb] W fun e w' => e = .returned (.bool (validP g m)) ∧ Below W.heap.size W w') := Lib.hid fun W hW => sOk_any _ m cb g W.heap.size W (Nat.le_refl _) hm (hb.below hW hW.size) hg
  cases hva : validP f n with
  | false =>
    have hv : bbV f n g m = false := by unfold bbV; rw [hva]; rfl
    have E1 : bbC f n g m K0 = 1 := by unfold bbC; rw [hv]; exact if_neg (by decide)
    have E2 : bbK f n g m K0 = [] := by unfold bbK; rw [hv]; exact if_neg (by decide)
    rw [E1, E2]
    rw [hva] at OKA
    clear hv E1 E2 hva ha hb hf hg hK hn hm OKB
    go_enter Try.func34, Try.ntmps34
    go_wp2_with fail
    refine (OKA.out _ (Below.refl _ _)).mono ?_
    rintro e w1 ⟨rfl, bq⟩
    have B1 := Lib.hid bq
    clear bq OKA
    go_wp2
    exact bodyPost_ret (v := .tuple #[.slice (some ⟨w1.heap.size, 0, none⟩) 0 0, .int .i64 1]) (by simp [results, Try.results34, go_sem]) rfl ⟨_, rfl, (ob_made w1).mono B1.out.size, B1.out.alloc B1.out.size _⟩
  | true =>
    rw [hva] at OKA
    cases hvb : validP g m with
    | false =>
      have hv : bbV f n g m = false := by unfold bbV; rw [hva, hvb]; rfl
      have E1 : bbC f n g m K0 = 1 := by unfold bbC; rw [hv]; exact if_neg (by decide)
      have E2 : bbK f n g m K0 = [] := by unfold bbK; rw [hv]; exact if_neg (by decide)
      rw [E1, E2]
      rw [hvb] at OKB
      clear hv E1 E2 hva hvb ha hb hf hg hK hn hm
      go_enter Try.func34, Try.ntmps34
      go_wp2_with fail
      refine (OKA.out _ (Below.refl _ _)).mono ?_
      rintro e w1 ⟨rfl, bq⟩
      have B1 := Lib.hid bq
      clear bq OKA
      go_wp2_with fail
      refine (OKB.out _ B1.out).mono ?_
      rintro e w2 ⟨rfl, bq⟩
      have B2 := Lib.hid (B1.out.trans (bq.mono B1.out.size))
      clear bq OKB
      go_wp2
      exact bodyPost_ret (v := .tuple #[.slice (some ⟨w2.heap.size, 0, none⟩) 0 0, .int .i64 1]) (by simp [results, Try.results34, go_sem]) rfl ⟨_, rfl, (ob_made w2).mono B2.out.size, B2.out.alloc B2.out.size _⟩
    | true =>
      have hv : bbV f n g m = true := by unfold bbV; rw [hva, hvb]; rfl
      have E1 : bbC f n g m K0 = ioC K0 := by unfold bbC; rw [hv]; rfl
      have E2 : bbK f n g m K0 = ioK K0 := by unfold bbK; rw [hv]; rfl
      rw [E1, E2]
      rw [hvb] at OKB
      have HK := Lib.hid (hK hv)
      have RA := Lib.hid ha
      have RB := Lib.hid hb
      have HF := Lib.hid hf
      have HG := Lib.hid hg
      have HV1 := Lib.hid hva
      have HV2 := Lib.hid hvb
      have N64 := Lib.hid (validP_le hva)
      have M64 := Lib.hid (validP_le hvb)
      have nI : (n : Int) ≤ 64 := by have := validP_le hva; omega
      have mI : (m : Int) ≤ 64 := by have := validP_le hvb; omega
      have MM1 := Lib.hid hm
      clear hv E1 E2 hva hvb ha hb hf hg hK hn hm
      go_enter Try.func34, Try.ntmps34
      go_wp2_with fail
      refine (OKA.out _ (Below.refl _ _)).mono ?_
      rintro e w1 ⟨rfl, bq⟩
      have B1 := Lib.hid bq
      clear bq OKA
      go_wp2_with fail
      refine (OKB.out _ B1.out).mono ?_
      rintro e w2 ⟨rfl, bq⟩
      have B2 := Lib.hid (B1.out.trans (bq.mono B1.out.size))
      clear bq OKB
      have O3 : Hid (OB w.heap.size (.slice (some ⟨w2.heap.size, 0, none⟩) 0 0) (GF MinusMasksG (shF f 0) (shF g m)) [] (w2.alloc (.cells #[] 73))) := Lib.hid (((ob_made (F := fun _ _ => zI) w2).mono B2.out.size).congr fun p q j hj => accO0 .andNot andNot_zeroL f g HG.out p q j hj)
      have B3 : Hid (Below w.heap.size w (w2.alloc (.cells #[] 73))) := Lib.hid (B2.out.alloc B2.out.size _)
      have P3 : Hid (PicK (GF MinusMasksG (shF f 0) (shF g m)) []) := Lib.hid (PicK.nil.congr fun p q _ _ j hj => accO0 .andNot andNot_zeroL f g HG.out p q j hj)
      have L3 : Hid (([] : List (Int × Int)).length ≤ 64 + 0) := Lib.hid (by decide)
      obtain ⟨K3, hK3⟩ : ∃ z, ([] : List (Int × Int)) = z := ⟨_, rfl⟩
      rw [hK3] at O3 P3 L3
      clear hK3
      go_wp2
      generalize w2.alloc (.cells #[] 73) = w3 at O3 B3 ⊢
      go_loopw [6, 7] (fun v vi wr => ∃ i K, i ≤ n ∧ vi = .int .i64 ((i : Nat) : Int) ∧ Hid (PicK (GF MinusMasksG (shF f i) (shF g m)) K) ∧ Hid (K.length ≤ 64 + i) ∧ Hid (OB w.heap.size v (GF MinusMasksG (shF f i) (shF g m)) K wr) ∧ Hid (Below w.heap.size w wr)) (fun _ vi _ => n - (intOf vi).toNat)
      case atStart => exact ⟨0, K3, Nat.zero_le _, rfl, P3, L3, O3, B3⟩
      case round =>
        obtain ⟨i, K, hi, rfl, PK, LN1, O4, B4⟩ := hrel
        clear P3 L3 O3 B3
        by_cases hlt : i < n
        · have ti : (i : Int) < (n : Int) := by omega
          have HI := Lib.hid hlt
          obtain ⟨gg, off, hx, hgg, hc⟩ : ∃ gg off, (some ⟨ga, 0, none⟩ : Option Addr) = some ⟨gg, off, none⟩ ∧ gg < w.heap.size ∧ ∀ j, j < 18 * n → w.cell? ⟨gg, off + j, none⟩ = some (bcell f j) := by
            rcases RA.out with h | h
            · omega
            · exact h
          cases hx
          have HCB : Hid (∀ W, Below w.heap.size w W → ∀ j v, (blk f i)[j]? = some v → W.cell? ⟨ga, i * 18 + j, none⟩ = some v) := Lib.hid fun W hW j v e => by
            have hj : j < 18 := by
              have := (Array.getElem?_eq_some_iff.1 e).1
              rwa [blk_size] at this
            have h2 := hc (i * 18 + j) (by omega)
            rw [Nat.zero_add] at h2
            rw [hW.cell (p := ⟨ga, i * 18 + j, none⟩) hgg, h2, ← blk_get f i j hj]
            exact e
          have HC01 : Hid (∀ W, Below w.heap.size w W → W.cell? ⟨ga, i * 18, none⟩ = some (.int .i32 (f (i * 18))) ∧ W.cell? ⟨ga, i * 18 + 1, none⟩ = some (.int .i32 (f (i * 18 + 1)))) := Lib.hid fun W hW => ⟨HCB.out W hW 0 _ rfl, HCB.out W hW 1 _ rfl⟩
          have HCM : Hid (∀ W, Below w.heap.size w W → ∀ j v, (M16 (mkF f i))[j]? = some v → W.cell? ⟨ga, i * 18 + 2 + j, none⟩ = some v) := Lib.hid fun W hW j v e => by
            have := HCB.out W hW (2 + j) v (bl_mask _ _ (mkF f i) j v e)
            rwa [← Nat.add_assoc] at this
          obtain ⟨CP, CQ⟩ := blf_co HF.out hlt
          have AD : Hid (∀ W, OB w.heap.size u6 (GF MinusMasksG (shF f i) (shF g m)) K W → w.heap.size ≤ W.heap.size → Calls Try.prog 69 #[u6, .agg #[.int .i32 (f (i * 18)), .int .i32 (f (i * 18 + 1))], .agg (M16 (MinusMasksG (mkF f i) (shF g m (f (i * 18)) (f (i * 18 + 1)))))] W fun e w' => ∃ v' K', e = .returned v' ∧ PicK (GF MinusMasksG (shF f (i + 1)) (shF g m)) K' ∧ K'.length ≤ 64 + (i + 1) ∧ OB w.heap.size v' (GF MinusMasksG (shF f (i + 1)) (shF g m)) K' w' ∧ Below W.heap.size W w') := Lib.hid fun W hW hs =>
            (l07Add_any w.heap.size u6 (GF MinusMasksG (shF f i) (shF g m)) K (f (i * 18)) (f (i * 18 + 1)) (MinusMasksG (mkF f i) (shF g m (f (i * 18)) (f (i * 18 + 1)))) W PK.out (gf_MB .andNot _ _) CP CQ (show MB (rowF (fun x y => bits .andNot .u16 x y) (mkF f i) (shF g m (f (i * 18)) (f (i * 18 + 1)))) from fun y _ => u16_hi .andNot (mkF f i y) (shF g m (f (i * 18)) (f (i * 18 + 1)) y)) (by have := LN1.out; have := HI.out; omega) hs hW).mono fun e w' ⟨v', K', h1, h2, h3, h4, h5⟩ => ⟨v', K', h1, h2.congr fun p q _ _ y hy => accO .andNot andNot_zeroL g HG.out HV1.out HI.out p q y hy, Nat.le_trans h3 (by have := LN1.out; omega), h4.congr fun p q y hy => accO .andNot andNot_zeroL g HG.out HV1.out HI.out p q y hy, h5⟩
          have HC2 : Hid (∀ W, Below wr.heap.size wr W → W.cell? ⟨ga, i * 18, none⟩ = some (.int .i32 (f (i * 18))) ∧ W.cell? ⟨ga, i * 18 + 1, none⟩ = some (.int .i32 (f (i * 18 + 1)))) := Lib.hid fun W hW => HC01.out W (B4.out.trans (hW.mono B4.out.size))
          have HCX : Hid (∀ W, Below wr.heap.size wr W → ∀ j v, (M16 (mkF f i))[j]? = some v → W.cell? ⟨ga, i * 18 + 2 + j, none⟩ = some v) := Lib.hid fun W hW => HCM.out W (B4.out.trans (hW.mono B4.out.size))
          have AD2 : Hid (∀ W, Below wr.heap.size wr W → Calls Try.prog 69 #[u6, .agg #[.int .i32 (f (i * 18)), .int .i32 (f (i * 18 + 1))], .agg (M16 (MinusMasksG (mkF f i) (shF g m (f (i * 18)) (f (i * 18 + 1)))))] W fun e w' => ∃ v' K', e = .returned v' ∧ PicK (GF MinusMasksG (shF f (i + 1)) (shF g m)) K' ∧ K'.length ≤ 64 + (i + 1) ∧ OB w.heap.size v' (GF MinusMasksG (shF f (i + 1)) (shF g m)) K' w' ∧ Below W.heap.size W w') := Lib.hid fun W hW => AD.out W (O4.out.kept (below_grown hW) (ownNone _)) (Nat.le_trans B4.out.size hW.size)
          have FD : Hid (∀ W, Below wr.heap.size wr W → Calls Try.prog 73 #[.slice (some ⟨gb, 0, none⟩) m cb, .agg #[.int .i32 (f (i * 18)), .int .i32 (f (i * 18 + 1))]] W fun e w' => e = .returned (.agg (M16 (shF g m (f (i * 18)) (f (i * 18 + 1))))) ∧ Below W.heap.size W w') := Lib.hid fun W hW => by
            rw [shF_fd HV2.out]
            exact find_any _ m cb g _ _ W MM1.out (RB.out.below (B4.out.trans (hW.mono B4.out.size)) (Nat.le_trans B4.out.size hW.size))
          have MK : Hid (∀ W, Calls Try.prog 75 #[.agg (M16 (mkF f i)), .agg (M16 (shF g m (f (i * 18)) (f (i * 18 + 1))))] W fun e w' => e = .returned (.agg (M16 (MinusMasksG (mkF f i) (shF g m (f (i * 18)) (f (i * 18 + 1)))))) ∧ Below W.heap.size W w') := Lib.hid fun W => sMinusMasks_any _ _ (blf_mk HF.out hlt) (shF_MB HG.out m (Nat.le_refl _) _ _) W
          have XS : Hid ((M16 (mkF f i)).size = 16) := Lib.hid (arr_size _ _ _)
          clear HC01 HCM HCB AD CP CQ hc hgg hlt hi
          obtain ⟨X, hX⟩ : ∃ z, M16 (mkF f i) = z := ⟨_, rfl⟩
          rw [hX] at HCX MK XS
          obtain ⟨Z, hZ⟩ : ∃ z, M16 (MinusMasksG (mkF f i) (shF g m (f (i * 18)) (f (i * 18 + 1)))) = z := ⟨_, rfl⟩
          rw [hZ] at AD2 MK
          obtain ⟨Y, hY⟩ : ∃ z, M16 (shF g m (f (i * 18)) (f (i * 18 + 1))) = z := ⟨_, rfl⟩
          rw [hY] at FD MK
          clear hZ hY
          obtain ⟨P, hP⟩ : ∃ z, f (i * 18) = z := ⟨_, rfl⟩
          obtain ⟨Q, hQ⟩ : ∃ z, f (i * 18 + 1) = z := ⟨_, rfl⟩
          rw [hP] at HC2 AD2 FD
          rw [hQ] at HC2 AD2 FD
          clear hX hP hQ
          go_wp2
          refine wp_region_inv (by kernel_rfl) (fun listed act W => listed.size = 21 ∧ (Below wr.heap.size wr W ∧ (listed.getD 20 false = true → listed.getD 0 false = true) ∧ (listed.getD 20 false = false → act.tmps.getD 6 undef = u6)) ∧ ∃ x0 x1 x2 x3 x4 x5 x6 x7 x8 x9 x10 x11 x12 x13 x14 x15 x16 x17 x18 x19 x20, act = { tmps := #[.slice (some ⟨ga, 0, none⟩) n ca, .slice (some ⟨gb, 0, none⟩) m cb, undef, undef, .slice none 0 0, .int .i64 0, x20, .int .i64 (i : Int), .slice (some ⟨ga, 0, none⟩) n ca, .bool true, .bool false, .bool false, .slice (some ⟨gb, 0, none⟩) m cb, .bool true, .bool false, .bool false, undef, .slice (some ⟨w2.heap.size, 0, none⟩) 0 0, .int .i64 (i : Int), .slice (some ⟨ga, 0, none⟩) n ca, .int .i64 (n : Int), .bool true, u22, u23, x0, x1, x2, x3, x4, x5, x6, x7, x8, x9, x10, x11, x12, x13, x14, x15, x16, x17, x18, x19, undef, undef, undef, undef], defers := [] } ∧ (listed.getD 0 false = true → x0 = u6) ∧ (listed.getD 1 false = true → x1 = .slice (some ⟨ga, 0, none⟩) n ca) ∧ (listed.getD 2 false = true → x2 = .int .i64 (i : Int)) ∧ (listed.getD 3 false = true → x3 = .pointer (some ⟨ga, i * 18, none⟩)) ∧ (listed.getD 4 false = true → x4 = .pointer (some ⟨ga, i * 18, none⟩)) ∧ (listed.getD 5 false = true → x5 = .agg #[.int .i32 P, .int .i32 Q]) ∧ (listed.getD 6 false = true → x6 = .slice (some ⟨ga, 0, none⟩) n ca) ∧ (listed.getD 7 false = true → x7 = .int .i64 (i : Int)) ∧ (listed.getD 8 false = true → x8 = .pointer (some ⟨ga, i * 18, none⟩)) ∧ (listed.getD 9 false = true → x9 = .pointer (some ⟨ga, i * 18 + 2, none⟩)) ∧ (listed.getD 10 false = true → x10 = .agg X) ∧ (listed.getD 11 false = true → x11 = .slice (some ⟨gb, 0, none⟩) m cb) ∧ (listed.getD 12 false = true → x12 = .slice (some ⟨ga, 0, none⟩) n ca) ∧ (listed.getD 13 false = true → x13 = .int .i64 (i : Int)) ∧ (listed.getD 14 false = true → x14 = .pointer (some ⟨ga, i * 18, none⟩)) ∧ (listed.getD 15 false = true → x15 = .pointer (some ⟨ga, i * 18, none⟩)) ∧ (listed.getD 16 false = true → x16 = .agg #[.int .i32 P, .int .i32 Q]) ∧ (listed.getD 17 false = true → x17 = .agg Y) ∧ (listed.getD 18 false = true → x18 = .agg Z) ∧ (listed.getD 19 false = true → (∃ K2, PicK (GF MinusMasksG (shF f (i + 1)) (shF g m)) K2 ∧ K2.length ≤ 64 + (i + 1) ∧ OB w.heap.size x19 (GF MinusMasksG (shF f (i + 1)) (shF g m)) K2 W)) ∧ (listed.getD 20 false = true → (listed.getD 19 false = true ∧ x20 = x19))) (by kernel_rfl) ?h0z (fun _ _ _ h => h.1) ?hstepz ?hendz
          case h0z =>
            refine ⟨rfl, ⟨(Below.refl _ _).drew, fun h => absurd h (by decide), fun _ => rfl⟩, _, _, _, _, _, _, _, _, _, _, _, _, _, _, _, _, _, _, _, _, _, rfl, ?_, ?_, ?_, ?_, ?_, ?_, ?_, ?_, ?_, ?_, ?_, ?_, ?_, ?_, ?_, ?_, ?_, ?_, ?_, ?_, ?_⟩ <;> (intro h; exact absurd h (by decide))
          case hstepz =>
            rintro listed act W ii oo ⟨hs, hB, x0, x1, x2, x3, x4, x5, x6, x7, x8, x9, x10, x11, x12, x13, x14, x15, x16, x17, x18, x19, x20, rfl, e0, e1, e2, e3, e4, e5, e6, e7, e8, e9, e10, e11, e12, e13, e14, e15, e16, e17, e18, e19, e20⟩ hun hio hpre
            have HB := Lib.hid hB
            have E0 := Lib.hid e0
            have E1 := Lib.hid e1
            have E2 := Lib.hid e2
            have E3 := Lib.hid e3
            have E4 := Lib.hid e4
            have E5 := Lib.hid e5
            have E6 := Lib.hid e6
            have E7 := Lib.hid e7
            have E8 := Lib.hid e8
            have E9 := Lib.hid e9
            have E10 := Lib.hid e10
            have E11 := Lib.hid e11
            have E12 := Lib.hid e12
            have E13 := Lib.hid e13
            have E14 := Lib.hid e14
            have E15 := Lib.hid e15
            have E16 := Lib.hid e16
            have E17 := Lib.hid e17
            have E18 := Lib.hid e18
            have E19 := Lib.hid e19
            have E20 := Lib.hid e20
            have HS := Lib.hid hs
            have HU := Lib.hid hun
            have PRE := Lib.hid hpre
            clear e0 e1 e2 e3 e4 e5 e6 e7 e8 e9 e10 e11 e12 e13 e14 e15 e16 e17 e18 e19 e20 hs hpre hB hun
            match ii, hio with
            | 0, hio =>
              clear hio
              have nlast : listed.getD 20 false = false := by
                cases hh : listed.getD 20 false with
                | false => rfl
                | true => exact absurd (HB.out.2.1 hh) (by rw [nlist HU.out]; decide)
              have hxl : x20 = u6 := HB.out.2.2 nlast
              obtain rfl := hxl
              refine wpOp_by rfl fun KK HKK => ?_
              go_wp2_with (fail)
              exact HKK.out _ _ ⟨by rw [Array.size_setIfInBounds, HS.out], ⟨HB.out.1, fun h => set_keeps (HB.out.2.1 ((listed_set h).resolve_left (by decide))), fun h => HB.out.2.2 (set_not h)⟩, _, _, _, _, _, _, _, _, _, _, _, _, _, _, _, _, _, _, _, _, _, rfl, fun _ => rfl, fun h => E1.out ((listed_set h).resolve_left (by decide)), fun h => E2.out ((listed_set h).resolve_left (by decide)), fun h => E3.out ((listed_set h).resolve_left (by decide)), fun h => E4.out ((listed_set h).resolve_left (by decide)), fun h => E5.out ((listed_set h).resolve_left (by decide)), fun h => E6.out ((listed_set h).resolve_left (by decide)), fun h => E7.out ((listed_set h).resolve_left (by decide)), fun h => E8.out ((listed_set h).resolve_left (by decide)), fun h => E9.out ((listed_set h).resolve_left (by decide)), fun h => E10.out ((listed_set h).resolve_left (by decide)), fun h => E11.out ((listed_set h).resolve_left (by decide)), fun h => E12.out ((listed_set h).resolve_left (by decide)), fun h => E13.out ((listed_set h).resolve_left (by decide)), fun h => E14.out ((listed_set h).resolve_left (by decide)), fun h => E15.out ((listed_set h).resolve_left (by decide)), fun h => E16.out ((listed_set h).resolve_left (by decide)), fun h => E17.out ((listed_set h).resolve_left (by decide)), fun h => E18.out ((listed_set h).resolve_left (by decide)), fun h => (E19.out ((listed_set h).resolve_left (by decide))), fun h => ⟨set_keeps ((E20.out ((listed_set h).resolve_left (by decide)))).1, ((E20.out ((listed_set h).resolve_left (by decide)))).2⟩⟩
            | 1, hio =>
              clear hio
              refine wpOp_by rfl fun KK HKK => ?_
              go_wp2_with (fail)
              exact HKK.out _ _ ⟨by rw [Array.size_setIfInBounds, HS.out], ⟨HB.out.1, fun h => set_keeps (HB.out.2.1 ((listed_set h).resolve_left (by decide))), fun h => HB.out.2.2 (set_not h)⟩, _, _, _, _, _, _, _, _, _, _, _, _, _, _, _, _, _, _, _, _, _, rfl, fun h => E0.out ((listed_set h).resolve_left (by decide)), fun _ => rfl, fun h => E2.out ((listed_set h).resolve_left (by decide)), fun h => E3.out ((listed_set h).resolve_left (by decide)), fun h => E4.out ((listed_set h).resolve_left (by decide)), fun h => E5.out ((listed_set h).resolve_left (by decide)), fun h => E6.out ((listed_set h).resolve_left (by decide)), fun h => E7.out ((listed_set h).resolve_left (by decide)), fun h => E8.out ((listed_set h).resolve_left (by decide)), fun h => E9.out ((listed_set h).resolve_left (by decide)), fun h => E10.out ((listed_set h).resolve_left (by decide)), fun h => E11.out ((listed_set h).resolve_left (by decide)), fun h => E12.out ((listed_set h).resolve_left (by decide)), fun h => E13.out ((listed_set h).resolve_left (by decide)), fun h => E14.out ((listed_set h).resolve_left (by decide)), fun h => E15.out ((listed_set h).resolve_left (by decide)), fun h => E16.out ((listed_set h).resolve_left (by decide)), fun h => E17.out ((listed_set h).resolve_left (by decide)), fun h => E18.out ((listed_set h).resolve_left (by decide)), fun h => (E19.out ((listed_set h).resolve_left (by decide))), fun h => ⟨set_keeps ((E20.out ((listed_set h).resolve_left (by decide)))).1, ((E20.out ((listed_set h).resolve_left (by decide)))).2⟩⟩
            | 2, hio =>
              clear hio
              refine wpOp_by rfl fun KK HKK => ?_
              go_wp2_with (fail)
              exact HKK.out _ _ ⟨by rw [Array.size_setIfInBounds, HS.out], ⟨HB.out.1, fun h => set_keeps (HB.out.2.1 ((listed_set h).resolve_left (by decide))), fun h => HB.out.2.2 (set_not h)⟩, _, _, _, _, _, _, _, _, _, _, _, _, _, _, _, _, _, _, _, _, _, rfl, fun h => E0.out ((listed_set h).resolve_left (by decide)), fun h => E1.out ((listed_set h).resolve_left (by decide)), fun _ => rfl, fun h => E3.out ((listed_set h).resolve_left (by decide)), fun h => E4.out ((listed_set h).resolve_left (by decide)), fun h => E5.out ((listed_set h).resolve_left (by decide)), fun h => E6.out ((listed_set h).resolve_left (by decide)), fun h => E7.out ((listed_set h).resolve_left (by decide)), fun h => E8.out ((listed_set h).resolve_left (by decide)), fun h => E9.out ((listed_set h).resolve_left (by decide)), fun h => E10.out ((listed_set h).resolve_left (by decide)), fun h => E11.out ((listed_set h).resolve_left (by decide)), fun h => E12.out ((listed_set h).resolve_left (by decide)), fun h => E13.out ((listed_set h).resolve_left (by decide)), fun h => E14.out ((listed_set h).resolve_left (by decide)), fun h => E15.out ((listed_set h).resolve_left (by decide)), fun h => E16.out ((listed_set h).resolve_left (by decide)), fun h => E17.out ((listed_set h).resolve_left (by decide)), fun h => E18.out ((listed_set h).resolve_left (by decide)), fun h => (E19.out ((listed_set h).resolve_left (by decide))), fun h => ⟨set_keeps ((E20.out ((listed_set h).resolve_left (by decide)))).1, ((E20.out ((listed_set h).resolve_left (by decide)))).2⟩⟩
            | 3, hio =>
              simp only [List.getElem?_toArray, List.getElem?_cons_succ, List.getElem?_cons_zero, Option.some.injEq] at hio
              subst hio
              have p1 := PRE.out ⟨1, .data⟩ (by simp) rfl
              have p2 := PRE.out ⟨2, .data⟩ (by simp) rfl
              obtain rfl := E1.out p1
              obtain rfl := E2.out p2
              refine wpOp_by rfl fun KK HKK => ?_
              go_wp2_with (fail)
              exact HKK.out _ _ ⟨by rw [Array.size_setIfInBounds, HS.out], ⟨HB.out.1, fun h => set_keeps (HB.out.2.1 ((listed_set h).resolve_left (by decide))), fun h => HB.out.2.2 (set_not h)⟩, _, _, _, _, _, _, _, _, _, _, _, _, _, _, _, _, _, _, _, _, _, rfl, fun h => E0.out ((listed_set h).resolve_left (by decide)), fun _ => rfl, fun _ => rfl, fun _ => rfl, fun h => E4.out ((listed_set h).resolve_left (by decide)), fun h => E5.out ((listed_set h).resolve_left (by decide)), fun h => E6.out ((listed_set h).resolve_left (by decide)), fun h => E7.out ((listed_set h).resolve_left (by decide)), fun h => E8.out ((listed_set h).resolve_left (by decide)), fun h => E9.out ((listed_set h).resolve_left (by decide)), fun h => E10.out ((listed_set h).resolve_left (by decide)), fun h => E11.out ((listed_set h).resolve_left (by decide)), fun h => E12.out ((listed_set h).resolve_left (by decide)), fun h => E13.out ((listed_set h).resolve_left (by decide)), fun h => E14.out ((listed_set h).resolve_left (by decide)), fun h => E15.out ((listed_set h).resolve_left (by decide)), fun h => E16.out ((listed_set h).resolve_left (by decide)), fun h => E17.out ((listed_set h).resolve_left (by decide)), fun h => E18.out ((listed_set h).resolve_left (by decide)), fun h => (E19.out ((listed_set h).resolve_left (by decide))), fun h => ⟨set_keeps ((E20.out ((listed_set h).resolve_left (by decide)))).1, ((E20.out ((listed_set h).resolve_left (by decide)))).2⟩⟩
            | 4, hio =>
              simp only [List.getElem?_toArray, List.getElem?_cons_succ, List.getElem?_cons_zero, Option.some.injEq] at hio
              subst hio
              have p3 := PRE.out ⟨3, .data⟩ (by simp) rfl
              obtain rfl := E3.out p3
              refine wpOp_by rfl fun KK HKK => ?_
              go_wp2_with (fail)
              exact HKK.out _ _ ⟨by rw [Array.size_setIfInBounds, HS.out], ⟨HB.out.1, fun h => set_keeps (HB.out.2.1 ((listed_set h).resolve_left (by decide))), fun h => HB.out.2.2 (set_not h)⟩, _, _, _, _, _, _, _, _, _, _, _, _, _, _, _, _, _, _, _, _, _, rfl, fun h => E0.out ((listed_set h).resolve_left (by decide)), fun h => E1.out ((listed_set h).resolve_left (by decide)), fun h => E2.out ((listed_set h).resolve_left (by decide)), fun _ => rfl, fun _ => rfl, fun h => E5.out ((listed_set h).resolve_left (by decide)), fun h => E6.out ((listed_set h).resolve_left (by decide)), fun h => E7.out ((listed_set h).resolve_left (by decide)), fun h => E8.out ((listed_set h).resolve_left (by decide)), fun h => E9.out ((listed_set h).resolve_left (by decide)), fun h => E10.out ((listed_set h).resolve_left (by decide)), fun h => E11.out ((listed_set h).resolve_left (by decide)), fun h => E12.out ((listed_set h).resolve_left (by decide)), fun h => E13.out ((listed_set h).resolve_left (by decide)), fun h => E14.out ((listed_set h).resolve_left (by decide)), fun h => E15.out ((listed_set h).resolve_left (by decide)), fun h => E16.out ((listed_set h).resolve_left (by decide)), fun h => E17.out ((listed_set h).resolve_left (by decide)), fun h => E18.out ((listed_set h).resolve_left (by decide)), fun h => (E19.out ((listed_set h).resolve_left (by decide))), fun h => ⟨set_keeps ((E20.out ((listed_set h).resolve_left (by decide)))).1, ((E20.out ((listed_set h).resolve_left (by decide)))).2⟩⟩
            | 5, hio =>
              simp only [List.getElem?_toArray, List.getElem?_cons_succ, List.getElem?_cons_zero, Option.some.injEq] at hio
              subst hio
              have p4 := PRE.out ⟨4, .data⟩ (by simp) rfl
              obtain rfl := E4.out p4
              obtain ⟨cc0, cc1⟩ := HC2.out _ HB.out.1
              refine wpOp_by rfl fun KK HKK => ?_
              go_wp2_with (fail)
              exact HKK.out _ _ ⟨by rw [Array.size_setIfInBounds, HS.out], ⟨HB.out.1, fun h => set_keeps (HB.out.2.1 ((listed_set h).resolve_left (by decide))), fun h => HB.out.2.2 (set_not h)⟩, _, _, _, _, _, _, _, _, _, _, _, _, _, _, _, _, _, _, _, _, _, rfl, fun h => E0.out ((listed_set h).resolve_left (by decide)), fun h => E1.out ((listed_set h).resolve_left (by decide)), fun h => E2.out ((listed_set h).resolve_left (by decide)), fun h => E3.out ((listed_set h).resolve_left (by decide)), fun _ => rfl, fun _ => rfl, fun h => E6.out ((listed_set h).resolve_left (by decide)), fun h => E7.out ((listed_set h).resolve_left (by decide)), fun h => E8.out ((listed_set h).resolve_left (by decide)), fun h => E9.out ((listed_set h).resolve_left (by decide)), fun h => E10.out ((listed_set h).resolve_left (by decide)), fun h => E11.out ((listed_set h).resolve_left (by decide)), fun h => E12.out ((listed_set h).resolve_left (by decide)), fun h => E13.out ((listed_set h).resolve_left (by decide)), fun h => E14.out ((listed_set h).resolve_left (by decide)), fun h => E15.out ((listed_set h).resolve_left (by decide)), fun h => E16.out ((listed_set h).resolve_left (by decide)), fun h => E17.out ((listed_set h).resolve_left (by decide)), fun h => E18.out ((listed_set h).resolve_left (by decide)), fun h => (E19.out ((listed_set h).resolve_left (by decide))), fun h => ⟨set_keeps ((E20.out ((listed_set h).resolve_left (by decide)))).1, ((E20.out ((listed_set h).resolve_left (by decide)))).2⟩⟩
            | 6, hio =>
              clear hio
              refine wpOp_by rfl fun KK HKK => ?_
              go_wp2_with (fail)
              exact HKK.out _ _ ⟨by rw [Array.size_setIfInBounds, HS.out], ⟨HB.out.1, fun h => set_keeps (HB.out.2.1 ((listed_set h).resolve_left (by decide))), fun h => HB.out.2.2 (set_not h)⟩, _, _, _, _, _, _, _, _, _, _, _, _, _, _, _, _, _, _, _, _, _, rfl, fun h => E0.out ((listed_set h).resolve_left (by decide)), fun h => E1.out ((listed_set h).resolve_left (by decide)), fun h => E2.out ((listed_set h).resolve_left (by decide)), fun h => E3.out ((listed_set h).resolve_left (by decide)), fun h => E4.out ((listed_set h).resolve_left (by decide)), fun h => E5.out ((listed_set h).resolve_left (by decide)), fun _ => rfl, fun h => E7.out ((listed_set h).resolve_left (by decide)), fun h => E8.out ((listed_set h).resolve_left (by decide)), fun h => E9.out ((listed_set h).resolve_left (by decide)), fun h => E10.out ((listed_set h).resolve_left (by decide)), fun h => E11.out ((listed_set h).resolve_left (by decide)), fun h => E12.out ((listed_set h).resolve_left (by decide)), fun h => E13.out ((listed_set h).resolve_left (by decide)), fun h => E14.out ((listed_set h).resolve_left (by decide)), fun h => E15.out ((listed_set h).resolve_left (by decide)), fun h => E16.out ((listed_set h).resolve_left (by decide)), fun h => E17.out ((listed_set h).resolve_left (by decide)), fun h => E18.out ((listed_set h).resolve_left (by decide)), fun h => (E19.out ((listed_set h).resolve_left (by decide))), fun h => ⟨set_keeps ((E20.out ((listed_set h).resolve_left (by decide)))).1, ((E20.out ((listed_set h).resolve_left (by decide)))).2⟩⟩
            | 7, hio =>
              clear hio
              refine wpOp_by rfl fun KK HKK => ?_
              go_wp2_with (fail)
              exact HKK.out _ _ ⟨by rw [Array.size_setIfInBounds, HS.out], ⟨HB.out.1, fun h => set_keeps (HB.out.2.1 ((listed_set h).resolve_left (by decide))), fun h => HB.out.2.2 (set_not h)⟩, _, _, _, _, _, _, _, _, _, _, _, _, _, _, _, _, _, _, _, _, _, rfl, fun h => E0.out ((listed_set h).resolve_left (by decide)), fun h => E1.out ((listed_set h).resolve_left (by decide)), fun h => E2.out ((listed_set h).resolve_left (by decide)), fun h => E3.out ((listed_set h).resolve_left (by decide)), fun h => E4.out ((listed_set h).resolve_left (by decide)), fun h => E5.out ((listed_set h).resolve_left (by decide)), fun h => E6.out ((listed_set h).resolve_left (by decide)), fun _ => rfl, fun h => E8.out ((listed_set h).resolve_left (by decide)), fun h => E9.out ((listed_set h).resolve_left (by decide)), fun h => E10.out ((listed_set h).resolve_left (by decide)), fun h => E11.out ((listed_set h).resolve_left (by decide)), fun h => E12.out ((listed_set h).resolve_left (by decide)), fun h => E13.out ((listed_set h).resolve_left (by decide)), fun h => E14.out ((listed_set h).resolve_left (by decide)), fun h => E15.out ((listed_set h).resolve_left (by decide)), fun h => E16.out ((listed_set h).resolve_left (by decide)), fun h => E17.out ((listed_set h).resolve_left (by decide)), fun h => E18.out ((listed_set h).resolve_left (by decide)), fun h => (E19.out ((listed_set h).resolve_left (by decide))), fun h => ⟨set_keeps ((E20.out ((listed_set h).resolve_left (by decide)))).1, ((E20.out ((listed_set h).resolve_left (by decide)))).2⟩⟩
            | 8, hio =>
              simp only [List.getElem?_toArray, List.getElem?_cons_succ, List.getElem?_cons_zero, Option.some.injEq] at hio
              subst hio
              have p6 := PRE.out ⟨6, .data⟩ (by simp) rfl
              have p7 := PRE.out ⟨7, .data⟩ (by simp) rfl
              obtain rfl := E6.out p6
              obtain rfl := E7.out p7
              refine wpOp_by rfl fun KK HKK => ?_
              go_wp2_with (fail)
              exact HKK.out _ _ ⟨by rw [Array.size_setIfInBounds, HS.out], ⟨HB.out.1, fun h => set_keeps (HB.out.2.1 ((listed_set h).resolve_left (by decide))), fun h => HB.out.2.2 (set_not h)⟩, _, _, _, _, _, _, _, _, _, _, _, _, _, _, _, _, _, _, _, _, _, rfl, fun h => E0.out ((listed_set h).resolve_left (by decide)), fun h => E1.out ((listed_set h).resolve_left (by decide)), fun h => E2.out ((listed_set h).resolve_left (by decide)), fun h => E3.out ((listed_set h).resolve_left (by decide)), fun h => E4.out ((listed_set h).resolve_left (by decide)), fun h => E5.out ((listed_set h).resolve_left (by decide)), fun _ => rfl, fun _ => rfl, fun _ => rfl, fun h => E9.out ((listed_set h).resolve_left (by decide)), fun h => E10.out ((listed_set h).resolve_left (by decide)), fun h => E11.out ((listed_set h).resolve_left (by decide)), fun h => E12.out ((listed_set h).resolve_left (by decide)), fun h => E13.out ((listed_set h).resolve_left (by decide)), fun h => E14.out ((listed_set h).resolve_left (by decide)), fun h => E15.out ((listed_set h).resolve_left (by decide)), fun h => E16.out ((listed_set h).resolve_left (by decide)), fun h => E17.out ((listed_set h).resolve_left (by decide)), fun h => E18.out ((listed_set h).resolve_left (by decide)), fun h => (E19.out ((listed_set h).resolve_left (by decide))), fun h => ⟨set_keeps ((E20.out ((listed_set h).resolve_left (by decide)))).1, ((E20.out ((listed_set h).resolve_left (by decide)))).2⟩⟩
            | 9, hio =>
              simp only [List.getElem?_toArray, List.getElem?_cons_succ, List.getElem?_cons_zero, Option.some.injEq] at hio
              subst hio
              have p8 := PRE.out ⟨8, .data⟩ (by simp) rfl
              obtain rfl := E8.out p8
              refine wpOp_by rfl fun KK HKK => ?_
              go_wp2_with (fail)
              exact HKK.out _ _ ⟨by rw [Array.size_setIfInBounds, HS.out], ⟨HB.out.1, fun h => set_keeps (HB.out.2.1 ((listed_set h).resolve_left (by decide))), fun h => HB.out.2.2 (set_not h)⟩, _, _, _, _, _, _, _, _, _, _, _, _, _, _, _, _, _, _, _, _, _, rfl, fun h => E0.out ((listed_set h).resolve_left (by decide)), fun h => E1.out ((listed_set h).resolve_left (by decide)), fun h => E2.out ((listed_set h).resolve_left (by decide)), fun h => E3.out ((listed_set h).resolve_left (by decide)), fun h => E4.out ((listed_set h).resolve_left (by decide)), fun h => E5.out ((listed_set h).resolve_left (by decide)), fun h => E6.out ((listed_set h).resolve_left (by decide)), fun h => E7.out ((listed_set h).resolve_left (by decide)), fun _ => rfl, fun _ => rfl, fun h => E10.out ((listed_set h).resolve_left (by decide)), fun h => E11.out ((listed_set h).resolve_left (by decide)), fun h => E12.out ((listed_set h).resolve_left (by decide)), fun h => E13.out ((listed_set h).resolve_left (by decide)), fun h => E14.out ((listed_set h).resolve_left (by decide)), fun h => E15.out ((listed_set h).resolve_left (by decide)), fun h => E16.out ((listed_set h).resolve_left (by decide)), fun h => E17.out ((listed_set h).resolve_left (by decide)), fun h => E18.out ((listed_set h).resolve_left (by decide)), fun h => (E19.out ((listed_set h).resolve_left (by decide))), fun h => ⟨set_keeps ((E20.out ((listed_set h).resolve_left (by decide)))).1, ((E20.out ((listed_set h).resolve_left (by decide)))).2⟩⟩
            | 10, hio =>
              simp only [List.getElem?_toArray, List.getElem?_cons_succ, List.getElem?_cons_zero, Option.some.injEq] at hio
              subst hio
              have p9 := PRE.out ⟨9, .data⟩ (by simp) rfl
              obtain rfl := E9.out p9
              refine wpOp_by rfl fun KK HKK => ?_
              go_wp2_with ((refine wpList_load_part rfl 71 _ rfl ga (i * 18 + 2) rfl X _ (HCX.out _ HB.out.1) Try.underlying71 rfl (mask_info _ XS.out) ?_))
              exact HKK.out _ _ ⟨by rw [Array.size_setIfInBounds, HS.out], ⟨HB.out.1, fun h => set_keeps (HB.out.2.1 ((listed_set h).resolve_left (by decide))), fun h => HB.out.2.2 (set_not h)⟩, _, _, _, _, _, _, _, _, _, _, _, _, _, _, _, _, _, _, _, _, _, rfl, fun h => E0.out ((listed_set h).resolve_left (by decide)), fun h => E1.out ((listed_set h).resolve_left (by decide)), fun h => E2.out ((listed_set h).resolve_left (by decide)), fun h => E3.out ((listed_set h).resolve_left (by decide)), fun h => E4.out ((listed_set h).resolve_left (by decide)), fun h => E5.out ((listed_set h).resolve_left (by decide)), fun h => E6.out ((listed_set h).resolve_left (by decide)), fun h => E7.out ((listed_set h).resolve_left (by decide)), fun h => E8.out ((listed_set h).resolve_left (by decide)), fun _ => rfl, fun _ => rfl, fun h => E11.out ((listed_set h).resolve_left (by decide)), fun h => E12.out ((listed_set h).resolve_left (by decide)), fun h => E13.out ((listed_set h).resolve_left (by decide)), fun h => E14.out ((listed_set h).resolve_left (by decide)), fun h => E15.out ((listed_set h).resolve_left (by decide)), fun h => E16.out ((listed_set h).resolve_left (by decide)), fun h => E17.out ((listed_set h).resolve_left (by decide)), fun h => E18.out ((listed_set h).resolve_left (by decide)), fun h => (E19.out ((listed_set h).resolve_left (by decide))), fun h => ⟨set_keeps ((E20.out ((listed_set h).resolve_left (by decide)))).1, ((E20.out ((listed_set h).resolve_left (by decide)))).2⟩⟩
            | 11, hio =>
              clear hio
              refine wpOp_by rfl fun KK HKK => ?_
              go_wp2_with (fail)
              exact HKK.out _ _ ⟨by rw [Array.size_setIfInBounds, HS.out], ⟨HB.out.1, fun h => set_keeps (HB.out.2.1 ((listed_set h).resolve_left (by decide))), fun h => HB.out.2.2 (set_not h)⟩, _, _, _, _, _, _, _, _, _, _, _, _, _, _, _, _, _, _, _, _, _, rfl, fun h => E0.out ((listed_set h).resolve_left (by decide)), fun h => E1.out ((listed_set h).resolve_left (by decide)), fun h => E2.out ((listed_set h).resolve_left (by decide)), fun h => E3.out ((listed_set h).resolve_left (by decide)), fun h => E4.out ((listed_set h).resolve_left (by decide)), fun h => E5.out ((listed_set h).resolve_left (by decide)), fun h => E6.out ((listed_set h).resolve_left (by decide)), fun h => E7.out ((listed_set h).resolve_left (by decide)), fun h => E8.out ((listed_set h).resolve_left (by decide)), fun h => E9.out ((listed_set h).resolve_left (by decide)), fun h => E10.out ((listed_set h).resolve_left (by decide)), fun _ => rfl, fun h => E12.out ((listed_set h).resolve_left (by decide)), fun h => E13.out ((listed_set h).resolve_left (by decide)), fun h => E14.out ((listed_set h).resolve_left (by decide)), fun h => E15.out ((listed_set h).resolve_left (by decide)), fun h => E16.out ((listed_set h).resolve_left (by decide)), fun h => E17.out ((listed_set h).resolve_left (by decide)), fun h => E18.out ((listed_set h).resolve_left (by decide)), fun h => (E19.out ((listed_set h).resolve_left (by decide))), fun h => ⟨set_keeps ((E20.out ((listed_set h).resolve_left (by decide)))).1, ((E20.out ((listed_set h).resolve_left (by decide)))).2⟩⟩
            | 12, hio =>
              clear hio
              refine wpOp_by rfl fun KK HKK => ?_
              go_wp2_with (fail)
              exact HKK.out _ _ ⟨by rw [Array.size_setIfInBounds, HS.out], ⟨HB.out.1, fun h => set_keeps (HB.out.2.1 ((listed_set h).resolve_left (by decide))), fun h => HB.out.2.2 (set_not h)⟩, _, _, _, _, _, _, _, _, _, _, _, _, _, _, _, _, _, _, _, _, _, rfl, fun h => E0.out ((listed_set h).resolve_left (by decide)), fun h => E1.out ((listed_set h).resolve_left (by decide)), fun h => E2.out ((listed_set h).resolve_left (by decide)), fun h => E3.out ((listed_set h).resolve_left (by decide)), fun h => E4.out ((listed_set h).resolve_left (by decide)), fun h => E5.out ((listed_set h).resolve_left (by decide)), fun h => E6.out ((listed_set h).resolve_left (by decide)), fun h => E7.out ((listed_set h).resolve_left (by decide)), fun h => E8.out ((listed_set h).resolve_left (by decide)), fun h => E9.out ((listed_set h).resolve_left (by decide)), fun h => E10.out ((listed_set h).resolve_left (by decide)), fun h => E11.out ((listed_set h).resolve_left (by decide)), fun _ => rfl, fun h => E13.out ((listed_set h).resolve_left (by decide)), fun h => E14.out ((listed_set h).resolve_left (by decide)), fun h => E15.out ((listed_set h).resolve_left (by decide)), fun h => E16.out ((listed_set h).resolve_left (by decide)), fun h => E17.out ((listed_set h).resolve_left (by decide)), fun h => E18.out ((listed_set h).resolve_left (by decide)), fun h => (E19.out ((listed_set h).resolve_left (by decide))), fun h => ⟨set_keeps ((E20.out ((listed_set h).resolve_left (by decide)))).1, ((E20.out ((listed_set h).resolve_left (by decide)))).2⟩⟩
            | 13, hio =>
              clear hio
              refine wpOp_by rfl fun KK HKK => ?_
              go_wp2_with (fail)
              exact HKK.out _ _ ⟨by rw [Array.size_setIfInBounds, HS.out], ⟨HB.out.1, fun h => set_keeps (HB.out.2.1 ((listed_set h).resolve_left (by decide))), fun h => HB.out.2.2 (set_not h)⟩, _, _, _, _, _, _, _, _, _, _, _, _, _, _, _, _, _, _, _, _, _, rfl, fun h => E0.out ((listed_set h).resolve_left (by decide)), fun h => E1.out ((listed_set h).resolve_left (by decide)), fun h => E2.out ((listed_set h).resolve_left (by decide)), fun h => E3.out ((listed_set h).resolve_left (by decide)), fun h => E4.out ((listed_set h).resolve_left (by decide)), fun h => E5.out ((listed_set h).resolve_left (by decide)), fun h => E6.out ((listed_set h).resolve_left (by decide)), fun h => E7.out ((listed_set h).resolve_left (by decide)), fun h => E8.out ((listed_set h).resolve_left (by decide)), fun h => E9.out ((listed_set h).resolve_left (by decide)), fun h => E10.out ((listed_set h).resolve_left (by decide)), fun h => E11.out ((listed_set h).resolve_left (by decide)), fun h => E12.out ((listed_set h).resolve_left (by decide)), fun _ => rfl, fun h => E14.out ((listed_set h).resolve_left (by decide)), fun h => E15.out ((listed_set h).resolve_left (by decide)), fun h => E16.out ((listed_set h).resolve_left (by decide)), fun h => E17.out ((listed_set h).resolve_left (by decide)), fun h => E18.out ((listed_set h).resolve_left (by decide)), fun h => (E19.out ((listed_set h).resolve_left (by decide))), fun h => ⟨set_keeps ((E20.out ((listed_set h).resolve_left (by decide)))).1, ((E20.out ((listed_set h).resolve_left (by decide)))).2⟩⟩
            | 14, hio =>
              simp only [List.getElem?_toArray, List.getElem?_cons_succ, List.getElem?_cons_zero, Option.some.injEq] at hio
              subst hio
              have p12 := PRE.out ⟨12, .data⟩ (by simp) rfl
              have p13 := PRE.out ⟨13, .data⟩ (by simp) rfl
              obtain rfl := E12.out p12
              obtain rfl := E13.out p13
              refine wpOp_by rfl fun KK HKK => ?_
              go_wp2_with (fail)
              exact HKK.out _ _ ⟨by rw [Array.size_setIfInBounds, HS.out], ⟨HB.out.1, fun h => set_keeps (HB.out.2.1 ((listed_set h).resolve_left (by decide))), fun h => HB.out.2.2 (set_not h)⟩, _, _, _, _, _, _, _, _, _, _, _, _, _, _, _, _, _, _, _, _, _, rfl, fun h => E0.out ((listed_set h).resolve_left (by decide)), fun h => E1.out ((listed_set h).resolve_left (by decide)), fun h => E2.out ((listed_set h).resolve_left (by decide)), fun h => E3.out ((listed_set h).resolve_left (by decide)), fun h => E4.out ((listed_set h).resolve_left (by decide)), fun h => E5.out ((listed_set h).resolve_left (by decide)), fun h => E6.out ((listed_set h).resolve_left (by decide)), fun h => E7.out ((listed_set h).resolve_left (by decide)), fun h => E8.out ((listed_set h).resolve_left (by decide)), fun h => E9.out ((listed_set h).resolve_left (by decide)), fun h => E10.out ((listed_set h).resolve_left (by decide)), fun h => E11.out ((listed_set h).resolve_left (by decide)), fun _ => rfl, fun _ => rfl, fun _ => rfl, fun h => E15.out ((listed_set h).resolve_left (by decide)), fun h => E16.out ((listed_set h).resolve_left (by decide)), fun h => E17.out ((listed_set h).resolve_left (by decide)), fun h => E18.out ((listed_set h).resolve_left (by decide)), fun h => (E19.out ((listed_set h).resolve_left (by decide))), fun h => ⟨set_keeps ((E20.out ((listed_set h).resolve_left (by decide)))).1, ((E20.out ((listed_set h).resolve_left (by decide)))).2⟩⟩
            | 15, hio =>
              simp only [List.getElem?_toArray, List.getElem?_cons_succ, List.getElem?_cons_zero, Option.some.injEq] at hio
              subst hio
              have p14 := PRE.out ⟨14, .data⟩ (by simp) rfl
              obtain rfl := E14.out p14
              refine wpOp_by rfl fun KK HKK => ?_
              go_wp2_with (fail)
              exact HKK.out _ _ ⟨by rw [Array.size_setIfInBounds, HS.out], ⟨HB.out.1, fun h => set_keeps (HB.out.2.1 ((listed_set h).resolve_left (by decide))), fun h => HB.out.2.2 (set_not h)⟩, _, _, _, _, _, _, _, _, _, _, _, _, _, _, _, _, _, _, _, _, _, rfl, fun h => E0.out ((listed_set h).resolve_left (by decide)), fun h => E1.out ((listed_set h).resolve_left (by decide)), fun h => E2.out ((listed_set h).resolve_left (by decide)), fun h => E3.out ((listed_set h).resolve_left (by decide)), fun h => E4.out ((listed_set h).resolve_left (by decide)), fun h => E5.out ((listed_set h).resolve_left (by decide)), fun h => E6.out ((listed_set h).resolve_left (by decide)), fun h => E7.out ((listed_set h).resolve_left (by decide)), fun h => E8.out ((listed_set h).resolve_left (by decide)), fun h => E9.out ((listed_set h).resolve_left (by decide)), fun h => E10.out ((listed_set h).resolve_left (by decide)), fun h => E11.out ((listed_set h).resolve_left (by decide)), fun h => E12.out ((listed_set h).resolve_left (by decide)), fun h => E13.out ((listed_set h).resolve_left (by decide)), fun _ => rfl, fun _ => rfl, fun h => E16.out ((listed_set h).resolve_left (by decide)), fun h => E17.out ((listed_set h).resolve_left (by decide)), fun h => E18.out ((listed_set h).resolve_left (by decide)), fun h => (E19.out ((listed_set h).resolve_left (by decide))), fun h => ⟨set_keeps ((E20.out ((listed_set h).resolve_left (by decide)))).1, ((E20.out ((listed_set h).resolve_left (by decide)))).2⟩⟩
            | 16, hio =>
              simp only [List.getElem?_toArray, List.getElem?_cons_succ, List.getElem?_cons_zero, Option.some.injEq] at hio
              subst hio
              have p15 := PRE.out ⟨15, .data⟩ (by simp) rfl
              obtain rfl := E15.out p15
              obtain ⟨cc0, cc1⟩ := HC2.out _ HB.out.1
              refine wpOp_by rfl fun KK HKK => ?_
              go_wp2_with (fail)
              exact HKK.out _ _ ⟨by rw [Array.size_setIfInBounds, HS.out], ⟨HB.out.1, fun h => set_keeps (HB.out.2.1 ((listed_set h).resolve_left (by decide))), fun h => HB.out.2.2 (set_not h)⟩, _, _, _, _, _, _, _, _, _, _, _, _, _, _, _, _, _, _, _, _, _, rfl, fun h => E0.out ((listed_set h).resolve_left (by decide)), fun h => E1.out ((listed_set h).resolve_left (by decide)), fun h => E2.out ((listed_set h).resolve_left (by decide)), fun h => E3.out ((listed_set h).resolve_left (by decide)), fun h => E4.out ((listed_set h).resolve_left (by decide)), fun h => E5.out ((listed_set h).resolve_left (by decide)), fun h => E6.out ((listed_set h).resolve_left (by decide)), fun h => E7.out ((listed_set h).resolve_left (by decide)), fun h => E8.out ((listed_set h).resolve_left (by decide)), fun h => E9.out ((listed_set h).resolve_left (by decide)), fun h => E10.out ((listed_set h).resolve_left (by decide)), fun h => E11.out ((listed_set h).resolve_left (by decide)), fun h => E12.out ((listed_set h).resolve_left (by decide)), fun h => E13.out ((listed_set h).resolve_left (by decide)), fun h => E14.out ((listed_set h).resolve_left (by decide)), fun _ => rfl, fun _ => rfl, fun h => E17.out ((listed_set h).resolve_left (by decide)), fun h => E18.out ((listed_set h).resolve_left (by decide)), fun h => (E19.out ((listed_set h).resolve_left (by decide))), fun h => ⟨set_keeps ((E20.out ((listed_set h).resolve_left (by decide)))).1, ((E20.out ((listed_set h).resolve_left (by decide)))).2⟩⟩
            | 17, hio =>
              simp only [List.getElem?_toArray, List.getElem?_cons_succ, List.getElem?_cons_zero, Option.some.injEq] at hio
              subst hio
              have p11 := PRE.out ⟨11, .data⟩ (by simp) rfl
              have p16 := PRE.out ⟨16, .data⟩ (by simp) rfl
              obtain rfl := E11.out p11
              obtain rfl := E16.out p16
              refine wpOp_by rfl fun KK HKK => ?_
              go_wp2_with fail
              refine Calls.mono (FD.out _ HB.out.1) ?_
              rintro e W' ⟨rfl, bq⟩
              go_wp2
              exact HKK.out _ _ ⟨by rw [Array.size_setIfInBounds, HS.out], ⟨HB.out.1.trans (bq.mono HB.out.1.size), fun h => set_keeps (HB.out.2.1 ((listed_set h).resolve_left (by decide))), fun h => HB.out.2.2 (set_not h)⟩, _, _, _, _, _, _, _, _, _, _, _, _, _, _, _, _, _, _, _, _, _, rfl, fun h => E0.out ((listed_set h).resolve_left (by decide)), fun h => E1.out ((listed_set h).resolve_left (by decide)), fun h => E2.out ((listed_set h).resolve_left (by decide)), fun h => E3.out ((listed_set h).resolve_left (by decide)), fun h => E4.out ((listed_set h).resolve_left (by decide)), fun h => E5.out ((listed_set h).resolve_left (by decide)), fun h => E6.out ((listed_set h).resolve_left (by decide)), fun h => E7.out ((listed_set h).resolve_left (by decide)), fun h => E8.out ((listed_set h).resolve_left (by decide)), fun h => E9.out ((listed_set h).resolve_left (by decide)), fun h => E10.out ((listed_set h).resolve_left (by decide)), fun _ => rfl, fun h => E12.out ((listed_set h).resolve_left (by decide)), fun h => E13.out ((listed_set h).resolve_left (by decide)), fun h => E14.out ((listed_set h).resolve_left (by decide)), fun h => E15.out ((listed_set h).resolve_left (by decide)), fun _ => rfl, fun _ => rfl, fun h => E18.out ((listed_set h).resolve_left (by decide)), fun h => (E19.out ((listed_set h).resolve_left (by decide))).imp fun K2 hk => ⟨hk.1, hk.2.1, hk.2.2.kept (below_grown bq) (ownNone _)⟩, fun h => ⟨set_keeps ((E20.out ((listed_set h).resolve_left (by decide)))).1, ((E20.out ((listed_set h).resolve_left (by decide)))).2⟩⟩
            | 18, hio =>
              simp only [List.getElem?_toArray, List.getElem?_cons_succ, List.getElem?_cons_zero, Option.some.injEq] at hio
              subst hio
              have p10 := PRE.out ⟨10, .data⟩ (by simp) rfl
              have p17 := PRE.out ⟨17, .data⟩ (by simp) rfl
              obtain rfl := E10.out p10
              obtain rfl := E17.out p17
              refine wpOp_by rfl fun KK HKK => ?_
              go_wp2_with fail
              refine Calls.mono (MK.out _) ?_
              rintro e W' ⟨rfl, bq⟩
              go_wp2
              exact HKK.out _ _ ⟨by rw [Array.size_setIfInBounds, HS.out], ⟨HB.out.1.trans (bq.mono HB.out.1.size), fun h => set_keeps (HB.out.2.1 ((listed_set h).resolve_left (by decide))), fun h => HB.out.2.2 (set_not h)⟩, _, _, _, _, _, _, _, _, _, _, _, _, _, _, _, _, _, _, _, _, _, rfl, fun h => E0.out ((listed_set h).resolve_left (by decide)), fun h => E1.out ((listed_set h).resolve_left (by decide)), fun h => E2.out ((listed_set h).resolve_left (by decide)), fun h => E3.out ((listed_set h).resolve_left (by decide)), fun h => E4.out ((listed_set h).resolve_left (by decide)), fun h => E5.out ((listed_set h).resolve_left (by decide)), fun h => E6.out ((listed_set h).resolve_left (by decide)), fun h => E7.out ((listed_set h).resolve_left (by decide)), fun h => E8.out ((listed_set h).resolve_left (by decide)), fun h => E9.out ((listed_set h).resolve_left (by decide)), fun _ => rfl, fun h => E11.out ((listed_set h).resolve_left (by decide)), fun h => E12.out ((listed_set h).resolve_left (by decide)), fun h => E13.out ((listed_set h).resolve_left (by decide)), fun h => E14.out ((listed_set h).resolve_left (by decide)), fun h => E15.out ((listed_set h).resolve_left (by decide)), fun h => E16.out ((listed_set h).resolve_left (by decide)), fun _ => rfl, fun _ => rfl, fun h => (E19.out ((listed_set h).resolve_left (by decide))).imp fun K2 hk => ⟨hk.1, hk.2.1, hk.2.2.kept (below_grown bq) (ownNone _)⟩, fun h => ⟨set_keeps ((E20.out ((listed_set h).resolve_left (by decide)))).1, ((E20.out ((listed_set h).resolve_left (by decide)))).2⟩⟩
            | 19, hio =>
              simp only [List.getElem?_toArray, List.getElem?_cons_succ, List.getElem?_cons_zero, Option.some.injEq] at hio
              subst hio
              have p0 := PRE.out ⟨0, .data⟩ (by simp) rfl
              have p5 := PRE.out ⟨5, .data⟩ (by simp) rfl
              have p18 := PRE.out ⟨18, .data⟩ (by simp) rfl
              obtain rfl := E0.out p0
              obtain rfl := E5.out p5
              obtain rfl := E18.out p18
              refine wpOp_by rfl fun KK HKK => ?_
              go_wp2_with fail
              refine Calls.mono (AD2.out _ HB.out.1) ?_
              rintro e W' ⟨v2, K2, rfl, k1, k2, k3, bq⟩
              go_wp2
              exact HKK.out _ _ ⟨by rw [Array.size_setIfInBounds, HS.out], ⟨HB.out.1.trans (bq.mono HB.out.1.size), fun h => set_keeps (HB.out.2.1 ((listed_set h).resolve_left (by decide))), fun h => HB.out.2.2 (set_not h)⟩, _, _, _, _, _, _, _, _, _, _, _, _, _, _, _, _, _, _, _, _, _, rfl, fun _ => rfl, fun h => E1.out ((listed_set h).resolve_left (by decide)), fun h => E2.out ((listed_set h).resolve_left (by decide)), fun h => E3.out ((listed_set h).resolve_left (by decide)), fun h => E4.out ((listed_set h).resolve_left (by decide)), fun _ => rfl, fun h => E6.out ((listed_set h).resolve_left (by decide)), fun h => E7.out ((listed_set h).resolve_left (by decide)), fun h => E8.out ((listed_set h).resolve_left (by decide)), fun h => E9.out ((listed_set h).resolve_left (by decide)), fun h => E10.out ((listed_set h).resolve_left (by decide)), fun h => E11.out ((listed_set h).resolve_left (by decide)), fun h => E12.out ((listed_set h).resolve_left (by decide)), fun h => E13.out ((listed_set h).resolve_left (by decide)), fun h => E14.out ((listed_set h).resolve_left (by decide)), fun h => E15.out ((listed_set h).resolve_left (by decide)), fun h => E16.out ((listed_set h).resolve_left (by decide)), fun h => E17.out ((listed_set h).resolve_left (by decide)), fun _ => rfl, fun _ => ⟨K2, k1, k2, k3⟩, fun h => absurd (E20.out ((listed_set h).resolve_left (by decide))).1 (by rw [nlist HU.out]; decide)⟩
            | 20, hio =>
              simp only [List.getElem?_toArray, List.getElem?_cons_succ, List.getElem?_cons_zero, Option.some.injEq] at hio
              subst hio
              have p19 := PRE.out ⟨19, .data⟩ (by simp) rfl
              refine wpOp_by rfl fun KK HKK => ?_
              go_wp2_with (fail)
              exact HKK.out _ _ ⟨by rw [Array.size_setIfInBounds, HS.out], ⟨HB.out.1, fun _ => set_keeps (PRE.out ⟨0, .phase⟩ (by simp) rfl), fun h => absurd h (by simp [Array.getD_eq_getD_getElem?, HS.out])⟩, _, _, _, _, _, _, _, _, _, _, _, _, _, _, _, _, _, _, _, _, _, rfl, fun h => E0.out ((listed_set h).resolve_left (by decide)), fun h => E1.out ((listed_set h).resolve_left (by decide)), fun h => E2.out ((listed_set h).resolve_left (by decide)), fun h => E3.out ((listed_set h).resolve_left (by decide)), fun h => E4.out ((listed_set h).resolve_left (by decide)), fun h => E5.out ((listed_set h).resolve_left (by decide)), fun h => E6.out ((listed_set h).resolve_left (by decide)), fun h => E7.out ((listed_set h).resolve_left (by decide)), fun h => E8.out ((listed_set h).resolve_left (by decide)), fun h => E9.out ((listed_set h).resolve_left (by decide)), fun h => E10.out ((listed_set h).resolve_left (by decide)), fun h => E11.out ((listed_set h).resolve_left (by decide)), fun h => E12.out ((listed_set h).resolve_left (by decide)), fun h => E13.out ((listed_set h).resolve_left (by decide)), fun h => E14.out ((listed_set h).resolve_left (by decide)), fun h => E15.out ((listed_set h).resolve_left (by decide)), fun h => E16.out ((listed_set h).resolve_left (by decide)), fun h => E17.out ((listed_set h).resolve_left (by decide)), fun h => E18.out ((listed_set h).resolve_left (by decide)), fun h => (E19.out ((listed_set h).resolve_left (by decide))), fun _ => ⟨set_keeps p19, rfl⟩⟩
            | k + 21, hio => simp at hio
          case hendz =>
            rintro listed act W1 ⟨hs, hB, x0, x1, x2, x3, x4, x5, x6, x7, x8, x9, x10, x11, x12, x13, x14, x15, x16, x17, x18, x19, x20, rfl, e0, e1, e2, e3, e4, e5, e6, e7, e8, e9, e10, e11, e12, e13, e14, e15, e16, e17, e18, e19, e20⟩ hall
            obtain rfl := e0 (hall 0 (by decide))
            obtain rfl := e1 (hall 1 (by decide))
            obtain rfl := e2 (hall 2 (by decide))
            obtain rfl := e3 (hall 3 (by decide))
            obtain rfl := e4 (hall 4 (by decide))
            obtain rfl := e5 (hall 5 (by decide))
            obtain rfl := e6 (hall 6 (by decide))
            obtain rfl := e7 (hall 7 (by decide))
            obtain rfl := e8 (hall 8 (by decide))
            obtain rfl := e9 (hall 9 (by decide))
            obtain rfl := e10 (hall 10 (by decide))
            obtain rfl := e11 (hall 11 (by decide))
            obtain rfl := e12 (hall 12 (by decide))
            obtain rfl := e13 (hall 13 (by decide))
            obtain rfl := e14 (hall 14 (by decide))
            obtain rfl := e15 (hall 15 (by decide))
            obtain rfl := e16 (hall 16 (by decide))
            obtain rfl := e17 (hall 17 (by decide))
            obtain rfl := e18 (hall 18 (by decide))
            have e19 := e19 (hall 19 (by decide))
            have e20 := e20 (hall 20 (by decide))
            obtain ⟨K2, k1, k2, k3⟩ := e19
            obtain ⟨-, rfl⟩ := e20
            clear hs
            have BF : Hid (Below w.heap.size w W1) := Lib.hid (B4.out.trans (hB.1.mono B4.out.size))
            have KF := Lib.hid k1
            have LF1 := Lib.hid k2
            have OF := Lib.hid k3
            clear k1 k2 k3 hB
            go_wp2
            go_roundw
            case rel => exact ⟨i + 1, K2, HI.out, by go_num, KF, LF1, OF, BF⟩
            case measure => have := HI.out; simp [intOf]; omega
        · have ti : ¬ (i : Int) < (n : Int) := by omega
          have eN : i = n := by omega
          subst eN
          have EK := PK.out.uniq HK.out
          subst EK
          have KL : Hid (K.length ≤ 1000000) := Lib.hid (by have := LN1.out; omega)
          clear hlt hi
          go_wp2_with fail
          refine (told_any wr B4.out.size O4.out KL.out).mono ?_
          rintro e w5 ⟨v5, rfl, ho, bq⟩
          have OF := Lib.hid ho
          have BF := Lib.hid (B4.out.trans (bq.mono B4.out.size))
          clear ho bq
          go_wp2
          exact bodyPost_ret (v := .tuple #[v5, .int .i64 (ioC K)]) (by simp [results, Try.results34, go_sem]) rfl ⟨_, rfl, OF.out, BF.out⟩
end Go.Proofs.Ythfmkejdpflpcaa
