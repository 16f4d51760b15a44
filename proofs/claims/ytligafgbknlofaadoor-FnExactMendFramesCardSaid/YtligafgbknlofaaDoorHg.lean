/-
  CONTRACTS: the specification's MendFrames.
-/
import Derived.Test.YtligafgbknlofaaDoorHf
namespace Go.Proofs.YtligafgbknlofaaDoor
open Go.ChangeShapes Go.WideShapes Go.ChangeAt Go.RowKit
theorem wpList_load_partg {P : Program} {ops : Array Oper} {rest : List Oper} {o : Oper} {a : Act} {w : World} {Q : Exit → Act → World → Prop} (hw : Region.wanted o (yielded ops a.tmps) = true) (ty : TypeId) (x : Operand) (ho : o.op = .load ty x)
    (g off : Nat) (hx : a.eval x = .pointer (some ⟨g, off, none⟩)) (cs : Array Value) (d : TypeDesc) (hc : ∀ j v, cs[j]? = some v → w.cell? ⟨g, off + j, none⟩ = some v)
    (hu : P.underlying ty = some d) (hd : (match d with | .struct _ | .array _ _ => true | _ => false) = true) (hi : (P.info? ty).map (·.size) = some cs.size)
    (h : wpList P ops Q rest (a.put o.dst (.agg cs)) w) : wpList P ops Q (o :: rest) a w := by
  unfold wpList
  rw [if_pos hw]
  left
  unfold Oper.wp execOp
  simp only [ho, hx, Instr.loadAt, Instr.sureAddr, Sem.run_bind, Sem.run_pure, Result.andThen_ok, run_loadVar_part w g off ty cs d hc hu hd hi]
  exact h
def SlOkS (a : Option Addr) (n c : Nat) : Prop := SlOkF a n c ∧ ∃ b off, a = some ⟨b, off, none⟩
theorem toFd_any {a : Option Addr} {cap n : Nat} {f : Nat → Int} {B : Nat} {w : World} (hB : B ≤ w.heap.size) (h : FrR B w a n f) (hl : n ≤ 1048576) :
    Calls Tryd.prog 8 #[.slice a n cap] w fun e w' => ∃ v, e = .returned v ∧ PR 16 w.heap.size w'.heap.size w' v n (FF f) ∧ Below w.heap.size w w' ∧ ∀ a' n' c', v = .slice a' n' c' → SlOkS a' n' c' :=
  (toFS_any a cap n f B w hB h hl).mono fun e w' ⟨he, _, hb, hs, hr⟩ => ⟨_, he, ⟨_, n, rfl, .inr ⟨w.heap.size, rfl, Nat.le_refl _, hs, Nat.le_refl _, fun j hj => by
    rw [Lib.cell_of_heap hr j, rowFr_get _ _ _ _ (by omega), if_pos (by omega)]; rfl, fun j _ => Lib.frozen_of_heap hr j⟩⟩, hb, fun a' n' c' e => by
    simp only [Value.slice.injEq] at e
    obtain ⟨rfl, rfl, rfl⟩ := e
    exact ⟨⟨Nat.le_refl _, by omega, fun x hx => ⟨w.heap.size, 0, (Option.some.inj hx).symm⟩⟩, w.heap.size, 0, rfl⟩⟩
def meC (n m : Nat) : Int := if 700 < n ∨ 700 < m then 3 else 0
def meN (n m : Nat) : Nat := if 700 < n ∨ 700 < m then 0 else n
def meK (f h : Nat → Int) (n m : Nat) : Int := if 700 < n ∨ 700 < m then 0 else (mdN f h m n : Int)
theorem meN_le (n m : Nat) (hn : n ≤ 1048576) : meN n m ≤ 1048576 := by unfold meN; split <;> omega
def MePost (f h : Nat → Int) (n m : Nat) (w : World) : Ending → World → Prop := fun e w' => ∃ v, e = .returned (.tuple #[v, .int .i64 (meK f h n m), .int .i64 (meC n m)]) ∧ PR 16 w.heap.size w'.heap.size w' v (meN n m) (FF (mdK f h m n)) ∧ Below w.heap.size w w'
theorem MePost.empty {f h : Nat → Int} {n m : Nat} {w w' : World} {a : Option Addr} (hC : 700 < n ∨ 700 < m) (hb : Below w.heap.size w w') : MePost f h n m w (.returned (.tuple #[.slice a 0 0, .int .i64 0, .int .i64 3])) w' :=
  ⟨_, by unfold meK meC; rw [if_pos hC, if_pos hC], by unfold meN; rw [if_pos hC]; exact PR.empty _ _ _ _ _ _ _, hb⟩
theorem MePost.full {f h : Nat → Int} {n m : Nat} {w w' : World} {v : Value} (hC : ¬ (700 < n ∨ 700 < m)) (ho : OwnFr w.heap.size v n (mdK f h m n) w') (hb : Below w.heap.size w w') : MePost f h n m w (.returned (.tuple #[v, .int .i64 (mdN f h m n : Int), .int .i64 0])) w' :=
  ⟨v, by unfold meK meC; rw [if_neg hC, if_neg hC], by unfold meN; rw [if_neg hC]; exact ho.pr, hb⟩
theorem mdK_zero (f h : Nat → Int) (m : Nat) : mdK f h m 0 = f := by funext x; unfold mdK; simp
theorem mdK_put {f h : Nat → Int} {m k : Nat} (e : mdOk f h m k = true) : ∀ j, putF (mdK f h m k) k (frK h k) j = mdK f h m (k + 1) j := fun j => by
  unfold putF mdK frK
  by_cases e1 : j / 16 = k
  · rw [if_pos e1, if_pos ⟨by omega, by rw [e1]; exact e⟩, show k * 16 + j % 16 = j by omega]
  · rw [if_neg e1]
    by_cases e2 : j / 16 < k
    · simp [e2, show j / 16 < k + 1 by omega]
    · simp [e2, show ¬ j / 16 < k + 1 by omega]
theorem md_skip {f h : Nat → Int} {m k : Nat} (e : mdOk f h m k = false) : mdN f h m (k + 1) = mdN f h m k ∧ mdK f h m (k + 1) = mdK f h m k :=
  md_run 1 fun i h1 h2 => by obtain rfl : i = k := (by omega); exact e
set_option maxRecDepth 20000 in
set_option maxHeartbeats 16000000 in
theorem sMend_any (n m : Nat) (f h : Nat → Int) (hf : ByF (16 * n) f) (hh : ByF (16 * m) h) (a b : Option Addr) (ca cb : Nat) (w : World) (h0 : FrR w.heap.size w a n f) (h1 : FrR w.heap.size w b m h) (ka : SlOkS a n ca) (kb : SlOkS b m cb) :
    Calls Tryd.prog 15 #[.slice a n ca, .slice b m cb] w (MePost f h n m w) := by
  have BE : Hid (Below w.heap.size w (w.alloc (.cells #[] 48))) := Lib.hid ((Below.refl _ w).alloc (Nat.le_refl _) _)
  by_cases hn : 700 < n
  · have P : Hid (∀ w' a, Below w.heap.size w w' → MePost f h n m w (.returned (.tuple #[.slice a 0 0, .int .i64 0, .int .i64 3])) w') := Lib.hid fun w' a hb => MePost.empty (.inl hn) hb
    have hn' : (700 : Int) < (n : Int) := by omega
    clear hn hf hh h0 h1 ka kb
    go_enter Tryd.func15, Tryd.ntmps15
    go_wp2
    go_ret3
    exact P.out _ _ BE.out
  · by_cases hm : 700 < m
    · have P : Hid (∀ w' a, Below w.heap.size w w' → MePost f h n m w (.returned (.tuple #[.slice a 0 0, .int .i64 0, .int .i64 3])) w') := Lib.hid fun w' a hb => MePost.empty (.inr hm) hb
      have hn' : (n : Int) ≤ 700 := by omega
      have hm' : (700 : Int) < (m : Int) := by omega
      clear hn hm hf hh h0 h1 ka kb
      go_enter Tryd.func15, Tryd.ntmps15
      go_wp2
      go_ret3
      exact P.out _ _ BE.out
    · have P : Hid (∀ v w', OwnFr w.heap.size v n (mdK f h m n) w' → Below w.heap.size w w' → MePost f h n m w (.returned (.tuple #[v, .int .i64 (mdN f h m n : Int), .int .i64 0])) w') := Lib.hid fun v w' h1 h2 => MePost.full (by omega) h1 h2
      have hn' : (n : Int) ≤ 700 := by omega
      have hm' : (m : Int) ≤ 700 := by omega
      have HN : Hid (n ≤ 700 ∧ m ≤ 700) := Lib.hid ⟨by omega, by omega⟩
      obtain ⟨⟨ka1, ka2, -⟩, ga, oa, rfl⟩ := ka
      obtain ⟨⟨kb1, kb2, -⟩, gb, ob, rfl⟩ := kb
      have HA : Hid (∀ W, Below w.heap.size w W → ∀ j, j < 16 * n → W.cell? ⟨ga, oa + j, none⟩ = some (.int .u8 (f j))) := Lib.hid fun W hW j hj => by
        rcases h0 with h0 | ⟨g, o, e, hg, hc⟩
        · omega
        · cases e
          rw [hW.cell (p := ⟨ga, oa + j, none⟩) hg]; exact hc j hj
      have HBc : Hid (∀ W, Below w.heap.size w W → ∀ j, j < 16 * m → W.cell? ⟨gb, ob + j, none⟩ = some (.int .u8 (h j))) := Lib.hid fun W hW j hj => by
        rcases h1 with h1 | ⟨g, o, e, hg, hc⟩
        · omega
        · cases e
          rw [hW.cell (p := ⟨gb, ob + j, none⟩) hg]; exact hc j hj
      have YF := Lib.hid hf
      have YH := Lib.hid hh
      clear hn hm hf hh h0 h1 ka1 ka2 kb1 kb2
      go_enter Tryd.func15, Tryd.ntmps15
      go_wp2_with (at_builtin; refine wpList_append_fr rfl _ _ rfl w.heap.size _ 0 f rfl (OwnFr.made f w _ (Nat.le_refl _)) ga oa n ca f rfl (fun j hj => HA.out _ BE.out j (by omega)) (by have := HN.out; omega) (by simp) w BE.out ?_; intro v1 w1 h1 h2; have O1 : Hid (OwnFr w.heap.size v1 n (mdK f h m 0) w1) := Lib.hid (by rw [mdK_zero]; rw [Nat.zero_add] at h1; exact h1.congr fun j _ => by unfold catU; rw [Nat.zero_mul, if_neg (by omega), Nat.sub_zero]); have B1 := Lib.hid h2; clear h1 h2)
      go_loopw [8, 9] (fun ct i wr => ∃ k : Nat, k ≤ n ∧ i = .int .i64 (k : Int) ∧ ct = .int .i64 (mdN f h m k : Int) ∧ OwnFr w.heap.size v1 n (mdK f h m k) wr ∧ Below w.heap.size w wr) (fun _ i _ => n - (intOf i).toNat)
      case atStart => exact ⟨0, Nat.zero_le _, rfl, rfl, O1.out, B1.out⟩
      case round =>
        obtain ⟨k, hk, rfl, rfl, ho, hb⟩ := hrel
        have HO := Lib.hid ho
        have HB := Lib.hid hb
        have WZ : Hid (w.heap.size ≤ wr.heap.size) := Lib.hid hb.size
        clear ho hb O1 B1
        by_cases hlt : k < n
        · have tk : (k : Int) < (n : Int) := by omega
          have HK := Lib.hid hlt
          have CA : Hid (∀ W, Below w.heap.size w W → ∀ j u, (Q16 (frK f k))[j]? = some u → W.cell? ⟨ga, oa + k * 16 + j, none⟩ = some u) := Lib.hid fun W hW j u e => by
            have hj : j < 16 := by
              rcases Nat.lt_or_ge j 16 with h | h
              · exact h
              · rw [arr_none _ _ _ _ h] at e; cases e
            rw [Nat.add_assoc, HA.out W hW (k * 16 + j) (by omega), ← e, arr_get _ _ _ _ hj]
            rfl
          have FB : Hid (ByF 16 (frK f k)) := Lib.hid fun j hj => YF.out (k * 16 + j) (by omega)
          have LS := Lib.hid (l09Sound_any k (frK f k) FB.out (by have := HN.out; omega))
          have OK : Hid (okAt f 0 k = sndF k (frK f k)) := Lib.hid (okAt_in (by have := HN.out; omega))
          obtain ⟨q, hq⟩ : ∃ q, frK f k = q := ⟨_, rfl⟩
          rw [hq] at CA FB LS OK
          have NB : Hid (((mdN f h m k : Nat) : Int) ≤ 700) := Lib.hid (by have := mdN_le f h m k; have := HN.out; omega)
          clear hlt hk hq
          go_wp2_with (refine wpList_load_part rfl 48 _ rfl ga (oa + k * 16) rfl (Q16 q) _ (CA.out wr HB.out) Tryd.underlying48 rfl (fr_info _ (arr_size _ _ _)) ?_)
          refine (LS.out wr).mono ?_
          rintro e wc ⟨rfl, bb⟩
          have OC : Hid (OwnFr w.heap.size _ n (mdK f h m k) wc) := Lib.hid (ownsRow_belowB HO.out bb)
          have BC : Hid (Below w.heap.size w wc) := Lib.hid (HB.out.trans (bb.mono WZ.out))
          have ZC : Hid (w.heap.size ≤ wc.heap.size) := Lib.hid BC.out.size
          clear bb LS HO HB CA
          cases hsd : sndF k q with
          | true =>
            have SK := Lib.hid (md_skip (h := h) (m := m) (okAt_md (OK.out.trans hsd)))
            clear hsd OK
            go_wp2
            go_roundw
            case rel => exact ⟨k + 1, HK.out, by go_num, by rw [SK.out.1], by rw [SK.out.2]; exact OC.out, BC.out⟩
            case measure => have := HK.out; simp [intOf]; omega
          | false =>
            by_cases hkm : k < m
            · have tkm : (k : Int) < (m : Int) := by omega
              have CB : Hid (∀ W, Below w.heap.size w W → ∀ j u, (Q16 (frK h k))[j]? = some u → W.cell? ⟨gb, ob + k * 16 + j, none⟩ = some u) := Lib.hid fun W hW j u e => by
                have hj : j < 16 := by
                  rcases Nat.lt_or_ge j 16 with h | h
                  · exact h
                  · rw [arr_none _ _ _ _ h] at e; cases e
                rw [Nat.add_assoc, HBc.out W hW (k * 16 + j) (by omega), ← e, arr_get _ _ _ _ hj]
                rfl
              have GB : Hid (ByF 16 (frK h k)) := Lib.hid fun j hj => YH.out (k * 16 + j) (by omega)
              have LS := Lib.hid (l09Sound_any k (frK h k) GB.out (by have := HN.out; omega))
              have OH : Hid (okAt h 0 k = sndF k (frK h k)) := Lib.hid (okAt_in (by have := HN.out; omega))
              have OF : Hid (okAt f 0 k = false) := Lib.hid (OK.out.trans hsd)
              have MO : Hid (∀ x, sndF k (frK h k) = x → mdOk f h m k = x) := Lib.hid fun x hx => by
                unfold mdOk; rw [OF.out, OH.out, hx]; simp [hkm]
              have PU := Lib.hid (@mdK_put f h m k)
              obtain ⟨r, hr⟩ : ∃ r, frK h k = r := ⟨_, rfl⟩
              rw [hr] at CB GB LS MO PU
              clear hsd OK OH OF hkm hr
              go_wp2_with (refine wpList_load_partg rfl 48 _ rfl gb (ob + k * 16) rfl (Q16 r) _ (CB.out wc BC.out) Tryd.underlying48 rfl (fr_info _ (arr_size _ _ _)) ?_)
              refine (LS.out wc).mono ?_
              rintro e wd ⟨rfl, bb⟩
              have OD : Hid (OwnFr w.heap.size _ n (mdK f h m k) wd) := Lib.hid (ownsRow_belowB OC.out bb)
              have BD : Hid (Below w.heap.size w wd) := Lib.hid (BC.out.trans (bb.mono ZC.out))
              clear bb LS OC BC ZC
              cases hsd : sndF k r with
              | false =>
                have SK := Lib.hid (md_skip (MO.out _ hsd))
                clear hsd
                go_wp2
                go_roundw
                case rel => exact ⟨k + 1, HK.out, by go_num, by rw [SK.out.1], by rw [SK.out.2]; exact OD.out, BD.out⟩
                case measure => have := HK.out; simp [intOf]; omega
              | true =>
                have MT : Hid (mdOk f h m k = true) := Lib.hid (MO.out _ hsd)
                have NS : Hid (mdN f h m (k + 1) = mdN f h m k + 1) := Lib.hid (by rw [mdN_succ, MT.out]; rfl)
                obtain ⟨g, cap, cur, rfl, hbg, hgg, hnc, hcm, hcs, htk⟩ := OD.out.2.resolve_left (fun h => by have := HK.out; omega)
                have PT : Hid (OwnFr w.heap.size (.slice (some ⟨g, 0, none⟩) n cap) n (mdK f h m (k + 1)) (wd.setRow g (splice cur.toList (k * 16) (Q16 r).toList).toArray)) := Lib.hid ((OwnFr.put (m := r) hbg hgg hnc hcm hcs htk HK.out).congr fun j _ => PU.out MT.out j)
                have PB : Hid (Below w.heap.size w (wd.setRow g (splice cur.toList (k * 16) (Q16 r).toList).toArray)) := Lib.hid (below_setRow BD.out hbg _)
                have FIT : Hid (k * 16 + (Q16 r).size ≤ cur.size) := Lib.hid (by rw [arr_size, hcs]; have := HK.out; omega)
                have GG := Lib.hid hgg
                clear hsd hbg hgg hnc hcm hcs htk
                have nb := NB.out
                go_wp2_with (first | (refine wpList_load_part rfl 48 _ rfl gb (ob + k * 16) rfl (Q16 r) _ (CB.out wd BD.out) Tryd.underlying48 rfl (fr_info _ (arr_size _ _ _)) ?_) | (refine wpList_store_part rfl 48 _ _ rfl g (k * 16) (Q16 r) rfl rfl 48 cur GG.out (fr_info _ (arr_size _ _ _)) FIT.out (arr_cells _ _ _) ?_))
                go_roundw
                case rel => exact ⟨k + 1, HK.out, by go_num, by rw [NS.out]; go_num, PT.out, PB.out⟩
                case measure => have := HK.out; simp [intOf]; omega
            · have tkm : ¬ (k : Int) < (m : Int) := by omega
              have tkm2 : (m : Int) ≤ (k : Int) := by omega
              have SK := Lib.hid (md_skip (f := f) (h := h) (m := m) (k := k) (by unfold mdOk; simp [hkm]))
              clear hsd OK hkm
              go_wp2
              go_roundw
              case rel => exact ⟨k + 1, HK.out, by go_num, by rw [SK.out.1], by rw [SK.out.2]; exact OC.out, BC.out⟩
              case measure => have := HK.out; simp [intOf]; omega
        · obtain rfl : k = n := by omega
          clear hlt hk
          go_wp2
          go_ret3
          exact P.out _ _ HO.out HB.out
end Go.Proofs.YtligafgbknlofaaDoor
