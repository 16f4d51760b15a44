/-
  CONTRACTS: the program's MendFrames.
-/
import Derived.Test.YtligafgbknlofaaDoorHg
namespace Go.Proofs.YtligafgbknlofaaDoor
open Go.ChangeShapes Go.WideShapes Go.ChangeAt Go.RowKit
theorem plc_lt {f : Nat → Int} {n j : Nat} (h : j < bdN f n) : plc f n j < plc f n (j + 1) := by
  obtain ⟨p1, p2, p3, -⟩ := plc_at h
  by_cases hj : j + 1 < bdN f n
  · rcases Nat.lt_or_ge (plc f n j) (plc f n (j + 1)) with h1 | h1
    · exact h1
    · have := bdN_mono (f := f) h1
      rw [(plc_at hj).2.2.1, p3] at this
      omega
  · have : plc f n (j + 1) = n := by unfold plc; rw [if_neg hj]
    omega
theorem md_next {f h : Nat → Int} {n m j : Nat} (hj : j < bdN f n) : mdN f h m (plc f n (j + 1)) = mdN f h m (plc f n j + 1) ∧ mdK f h m (plc f n (j + 1)) = mdK f h m (plc f n j + 1) := by
  have hl := plc_lt hj
  have := md_run (f := f) (h := h) (m := m) (a := plc f n j + 1) (plc f n (j + 1) - (plc f n j + 1)) fun k h1 h2 => okAt_md (plc_gap hj (by omega) (by omega))
  rwa [show plc f n j + 1 + (plc f n (j + 1) - (plc f n j + 1)) = plc f n (j + 1) by omega] at this
theorem md_first (f h : Nat → Int) (n m : Nat) : mdN f h m (plc f n 0) = 0 ∧ mdK f h m (plc f n 0) = f := by
  have := md_run (f := f) (h := h) (m := m) (a := 0) (plc f n 0) fun k _ h2 => okAt_md (plc_first (n := n) (by omega))
  rw [Nat.zero_add, mdK_zero] at this
  exact this
theorem md_last {f h : Nat → Int} {n m p : Nat} (hp : p ≤ n) (hm : m ≤ p) : mdN f h m n = mdN f h m p ∧ mdK f h m n = mdK f h m p := by
  have := md_run (f := f) (h := h) (m := m) (a := p) (n - p) fun k h1 _ => by unfold mdOk; simp [show ¬ k < m by omega]
  rwa [show p + (n - p) = n by omega] at this
theorem plc_end (f : Nat → Int) (n : Nat) : plc f n (bdN f n) = n := by unfold plc; rw [if_neg (Nat.lt_irrefl _)]
set_option maxHeartbeats 2000000 in
theorem clone_gen (g off n cap : Nat) (f : Nat → Int) (w : World) (hn : n ≤ 10000) (hc : ∀ j, j < n * 16 → (w.alloc (.cells #[] 48)).cell? ⟨g, off + j, none⟩ = some (.int .u8 (f j))) :
    Calls Tryd.prog 35 #[.slice (some ⟨g, off, none⟩) n cap] w fun e w' => ∃ v, e = .returned v ∧ OwnFr w.heap.size v n f w' ∧ Below w.heap.size w w' := by
  have HC := Lib.hid hc
  have HN := Lib.hid hn
  have hnil := fun W => Lib.run_eql_slice_nil (P := Tryd.prog) W 27 _ (some ⟨g, off, none⟩) n cap 0 0 Tryd.underlying27
  clear hc hn
  go_enter Tryd.func35, Tryd.ntmps35
  go_wp2_with (at_builtin; refine wpList_append_fr rfl _ _ rfl w.heap.size _ 0 f rfl (OwnFr.made f w _ (Nat.le_refl _)) g off n cap f rfl HC.out (by have := HN.out; omega) (by simp) w ((Below.refl _ w).alloc (Nat.le_refl _) _) ?_; intro v' w' h1 h2; have H1 := Lib.hid h1; have H2 := Lib.hid h2; clear h1 h2)
  go_ret
  exact ⟨_, rfl, by have := H1.out; rw [Nat.zero_add] at this; exact this.congr fun j _ => by unfold catU; rw [Nat.zero_mul, if_neg (by omega), Nat.sub_zero], H2.out⟩
set_option maxRecDepth 20000 in
set_option maxHeartbeats 16000000 in
theorem iMend_any (n m : Nat) (f h : Nat → Int) (hf : ByF (16 * n) f) (hh : ByF (16 * m) h) (hn1 : n ≤ 1048576) (a b : Option Addr) (ca cb : Nat) (w : World) (h0 : FrR w.heap.size w a n f) (h1 : FrR w.heap.size w b m h) (ka : SlOkS a n ca) (kb : SlOkS b m cb) (hE : ErrT w) :
    Calls Tryd.prog 16 #[.slice a n ca, .slice b m cb] w (MePost f h n m w) := by
  have IB := Lib.hid (iBroken_any n f hf a ca w h0 ka.1 hE)
  by_cases hn : 700 < n
  · have P : Hid (∀ w' a, Below w.heap.size w w' → MePost f h n m w (.returned (.tuple #[.slice a 0 0, .int .i64 0, .int .i64 3])) w') := Lib.hid fun w' a hb => MePost.empty (.inl hn) hb
    have EC : bbC n = 3 := if_pos hn
    rw [EC] at IB
    clear hn hf hh h0 h1 ka kb hE EC
    go_enter Tryd.func16, Tryd.ntmps16
    go_wp2_with fail
    refine IB.out.mono ?_
    rintro e w2 ⟨v, rfl, -, hb⟩
    have HB := Lib.hid hb
    clear hb IB
    go_wp2
    go_ret3
    exact P.out _ _ HB.out
  · have EC : bbC n = 0 := if_neg hn
    have EN : bbN f n = bdN f n := if_neg hn
    rw [EC, EN] at IB
    by_cases hm : 700 < m
    · have P : Hid (∀ w' a, Below w.heap.size w w' → MePost f h n m w (.returned (.tuple #[.slice a 0 0, .int .i64 0, .int .i64 3])) w') := Lib.hid fun w' a hb => MePost.empty (.inr hm) hb
      have hm' : (700 : Int) < (m : Int) := by omega
      clear hn hm hf hh h0 h1 ka kb hE EC EN
      go_enter Tryd.func16, Tryd.ntmps16
      go_wp2_with fail
      refine IB.out.mono ?_
      rintro e w2 ⟨v, rfl, -, hb⟩
      have HB := Lib.hid hb
      clear hb IB
      go_wp2
      go_ret3
      exact P.out _ _ HB.out
    · have P : Hid (∀ v w', OwnFr w.heap.size v n (mdK f h m n) w' → Below w.heap.size w w' → MePost f h n m w (.returned (.tuple #[v, .int .i64 (mdN f h m n : Int), .int .i64 0])) w') := Lib.hid fun v w' h1 h2 => MePost.full (by omega) h1 h2
      have hm' : (m : Int) ≤ 700 := by omega
      have HN : Hid (n ≤ 700 ∧ m ≤ 700) := Lib.hid ⟨by omega, by omega⟩
      obtain ⟨⟨ka1, ka2, -⟩, ga, oa, rfl⟩ := ka
      obtain ⟨⟨kb1, kb2, -⟩, gb, ob, rfl⟩ := kb
      have HA : Hid (∀ W, Below w.heap.size w W → ∀ j, j < 16 * n → W.cell? ⟨ga, oa + j, none⟩ = some (.int .u8 (f j))) := Lib.hid fun W hW j hj => by
        rcases h0 with h0 | ⟨g, o, e, hg, hc⟩
        · omega
        · cases e
          rw [hW.cell (p := ⟨ga, oa + j, none⟩) hg]; exact hc j hj
      have HBc : Hid (∀ W, Below w.heap.size w W → ∀ j, j < 16 * m → W.cell? ⟨gb, ob + j, none⟩ = some (.int .u8 (h j))) := Lib.hid fun W hW j hj => by
        rcases h1 with h1 | ⟨g, o, e, hg, hc⟩
        · omega
        · cases e
          rw [hW.cell (p := ⟨gb, ob + j, none⟩) hg]; exact hc j hj
      have YH := Lib.hid hh
      clear hn hm hf hh h0 h1 ka1 ka2 kb1 kb2 hE EC EN
      go_enter Tryd.func16, Tryd.ntmps16
      go_wp2_with fail
      refine IB.out.mono ?_
      rintro e w2 ⟨v, rfl, hp, hb⟩
      obtain ⟨ap, cp, rfl, hl⟩ := hp.lr
      have PL := Lib.hid hl
      have B2 := Lib.hid hb
      have Z2 : Hid (w.heap.size ≤ w2.heap.size) := Lib.hid hb.size
      clear hp hl hb IB
      go_wp2_with fail
      refine (clone_gen ga oa n ca f w2 (by have := HN.out; omega) (fun j hj => HA.out _ (B2.out.alloc Z2.out _) j (by omega))).mono ?_
      rintro e w3 ⟨v9, rfl, h9, b9⟩
      have O3 : Hid (OwnFr w2.heap.size v9 n (mdK f h m (plc f n 0)) w3) := Lib.hid (by rw [(md_first f h n m).2]; exact h9)
      have N3 : Hid (mdN f h m (plc f n 0) = 0) := Lib.hid (md_first f h n m).1
      have B3 := Lib.hid b9
      clear h9 b9
      have bI : ((bdN f n : Nat) : Int) ≤ 700 := by have := bdN_le f n; have := HN.out; omega
      go_wp2_with fail
      go_loopw [10, 12, 13, 14, 31] (fun ct _ _ _ i wr => ∃ j : Nat, j ≤ bdN f n ∧ i = .int .i64 (j : Int) ∧ ct = .int .i64 (mdN f h m (plc f n j) : Int) ∧ OwnFr w2.heap.size v9 n (mdK f h m (plc f n j)) wr ∧ Below w2.heap.size w2 wr) (fun _ _ _ _ i _ => bdN f n - (intOf i).toNat)
      case atStart => exact ⟨0, Nat.zero_le _, rfl, by rw [N3.out]; rfl, O3.out, B3.out⟩
      case round =>
        obtain ⟨j, hj, rfl, rfl, ho, hb⟩ := hrel
        have HO := Lib.hid ho
        have HB := Lib.hid hb
        have WZ : Hid (w2.heap.size ≤ wr.heap.size) := Lib.hid hb.size
        have BB : Hid (Below w.heap.size w wr) := Lib.hid (B2.out.trans (hb.mono Z2.out))
        clear ho hb O3 N3 B3
        by_cases hlt : j < bdN f n
        · obtain ⟨gp, op, rfl, hgp, hcp⟩ : ∃ g off, ap = some ⟨g, off, none⟩ ∧ g < w2.heap.size ∧ ∀ j, j < bdN f n → w2.cell? ⟨g, off + j, none⟩ = some (.int .i64 (bdF f n j)) := by
            rcases PL.out with h | h
            · omega
            · exact h
          have tj : (j : Int) < ((bdN f n : Nat) : Int) := by omega
          obtain ⟨p1, p2, p3, p4⟩ := plc_at hlt
          have MN := Lib.hid (md_next (h := h) (m := m) hlt)
          have HJ := Lib.hid hlt
          have cp' : wr.cell? ⟨gp, op + j, none⟩ = some (.int .i64 (plc f n j : Int)) := by
            rw [HB.out.cell (p := ⟨gp, op + j, none⟩) hgp, hcp j hlt, p4]
          obtain ⟨p, hp⟩ : ∃ p, plc f n j = p := ⟨_, rfl⟩
          rw [hp] at p1 p2 MN cp' HO ⊢
          have PN : Hid (p < n) := Lib.hid p1
          have PF : Hid (okAt f 0 p = false) := Lib.hid p2
          have NB : Hid (((mdN f h m p : Nat) : Int) ≤ 700) := Lib.hid (by have := mdN_le f h m p; have := HN.out; omega)
          have nb := NB.out
          have pI : (p : Int) ≤ 700 := by have := HN.out; omega
          clear hp p1 p2 p3 p4 hlt hj hgp hcp
          by_cases hpm : m ≤ p
          · have tpm : (m : Int) ≤ (p : Int) := by omega
            have ML := Lib.hid (md_last (f := f) (h := h) (Nat.le_of_lt PN.out) hpm)
            have R : Hid (MePost f h n m w (.returned (.tuple #[v9, .int .i64 (mdN f h m p : Int), .int .i64 0])) wr) := Lib.hid (by
              rw [← ML.out.1]
              exact P.out v9 wr (by rw [ML.out.2]; exact OwnFr.base Z2.out HO.out) BB.out)
            clear hpm
            go_wp2
            go_ret3
            exact R.out
          · have tpm : (p : Int) < (m : Int) := by omega
            have CB : Hid (∀ W, Below w.heap.size w W → ∀ j u, (Q16 (frK h p))[j]? = some u → W.cell? ⟨gb, ob + p * 16 + j, none⟩ = some u) := Lib.hid fun W hW j u e => by
              have hj : j < 16 := by
                rcases Nat.lt_or_ge j 16 with h | h
                · exact h
                · rw [arr_none _ _ _ _ h] at e; cases e
              rw [Nat.add_assoc, HBc.out W hW (p * 16 + j) (by omega), ← e, arr_get _ _ _ _ hj]
              rfl
            have GB : Hid (ByF 16 (frK h p)) := Lib.hid fun j hj => YH.out (p * 16 + j) (by omega)
            have IS := Lib.hid (iSound_any (p : Int) (frK h p) GB.out)
            have MO : Hid (∀ x, sndX (p : Int) (frK h p) = x → mdOk f h m p = x) := Lib.hid fun x hx => by
              have e : okAt h 0 p = x := by unfold okAt; rw [Int.zero_add]; exact hx
              unfold mdOk; rw [PF.out, e]; simp [show p < m by omega]
            have PU := Lib.hid (@mdK_put f h m p)
            obtain ⟨cx, hcx⟩ : ∃ cx, codeX (p : Int) = cx := ⟨_, rfl⟩
            obtain ⟨r, hr⟩ : ∃ r, frK h p = r := ⟨_, rfl⟩
            rw [hr] at CB GB IS MO PU
            rw [hcx] at IS
            clear hpm hr hcx
            go_wp2_with (refine wpList_load_part rfl 48 _ rfl gb (ob + p * 16) rfl (Q16 r) _ (CB.out wr BB.out) Tryd.underlying48 rfl (fr_info _ (arr_size _ _ _)) ?_)
            refine (IS.out wr).mono ?_
            rintro e wd ⟨rfl, bb⟩
            have OD : Hid (OwnFr w2.heap.size v9 n (mdK f h m p) wd) := Lib.hid (ownsRow_belowB HO.out bb)
            have BD : Hid (Below w2.heap.size w2 wd) := Lib.hid (HB.out.trans (bb.mono WZ.out))
            have BW : Hid (Below w.heap.size w wd) := Lib.hid (B2.out.trans (BD.out.mono Z2.out))
            clear bb IS HO HB WZ BB cp'
            cases hsd : sndX (p : Int) r with
            | false =>
              have SK := Lib.hid (md_skip (MO.out _ hsd))
              clear hsd
              go_wp2
              go_roundw
              case rel => exact ⟨j + 1, HJ.out, by go_num, by rw [MN.out.1, SK.out.1], by rw [MN.out.2, SK.out.2]; exact OD.out, BD.out⟩
              case measure => have := HJ.out; simp [intOf]; omega
            | true =>
              have MT : Hid (mdOk f h m p = true) := Lib.hid (MO.out _ hsd)
              have NS : Hid (mdN f h m (p + 1) = mdN f h m p + 1) := Lib.hid (by rw [mdN_succ, MT.out]; rfl)
              obtain ⟨g, cap, cur, rfl, hbg, hgg, hnc, hcm, hcs, htk⟩ := OD.out.2.resolve_left (fun h => by have := PN.out; omega)
              have PT : Hid (OwnFr w2.heap.size (.slice (some ⟨g, 0, none⟩) n cap) n (mdK f h m (p + 1)) (wd.setRow g (splice cur.toList (p * 16) (Q16 r).toList).toArray)) := Lib.hid ((OwnFr.put (m := r) hbg hgg hnc hcm hcs htk PN.out).congr fun j _ => PU.out MT.out j)
              have PB : Hid (Below w2.heap.size w2 (wd.setRow g (splice cur.toList (p * 16) (Q16 r).toList).toArray)) := Lib.hid (below_setRow BD.out hbg _)
              have FIT : Hid (p * 16 + (Q16 r).size ≤ cur.size) := Lib.hid (by rw [arr_size, hcs]; have := PN.out; omega)
              have GG := Lib.hid hgg
              have tpn : (p : Int) < (n : Int) := by have := PN.out; omega
              clear hsd hbg hgg hnc hcm hcs htk
              go_wp2_with (first | (refine wpList_load_part rfl 48 _ rfl gb (ob + p * 16) rfl (Q16 r) _ (CB.out wd BW.out) Tryd.underlying48 rfl (fr_info _ (arr_size _ _ _)) ?_) | (refine wpList_store_part rfl 48 _ _ rfl g (p * 16) (Q16 r) rfl rfl 48 cur GG.out (fr_info _ (arr_size _ _ _)) FIT.out (arr_cells _ _ _) ?_))
              go_roundw
              case rel => exact ⟨j + 1, HJ.out, by go_num, by rw [MN.out.1, NS.out]; go_num, by rw [MN.out.2]; exact PT.out, PB.out⟩
              case measure => have := HJ.out; simp [intOf]; omega
        · obtain rfl : j = bdN f n := by omega
          have R : Hid (MePost f h n m w (.returned (.tuple #[v9, .int .i64 (mdN f h m (plc f n (bdN f n)) : Int), .int .i64 0])) wr) := Lib.hid (by
            have e := plc_end f n
            have ho := HO.out
            rw [e] at ho ⊢
            exact P.out v9 wr (OwnFr.base Z2.out ho) BB.out)
          clear hlt hj
          go_wp2
          go_ret3
          exact R.out
end Go.Proofs.YtligafgbknlofaaDoor
