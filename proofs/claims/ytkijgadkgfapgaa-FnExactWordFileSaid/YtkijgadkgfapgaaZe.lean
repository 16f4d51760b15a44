/-
  CONTRACTS: ReadWordFile by the specification.
-/
import Derived.Test.YtkijgadkgfapgaaZg
import Derived.Test.YtkijgadkgfapgaaZb
import Derived.Test.YtkijgadkgfapgaaGac
namespace Go.Proofs.Ytkijgadkgfapgaa
open Go.ChangeShapes Go.WideShapes Go.ChangeAt Go.RowKit
open Wd
/-- the bytes of the k-th code -/
def rwB (f : Nat → Int) (k : Nat) : Nat → Int := fun j => pdF f (16 * k + j)
def rwT (f : Nat → Int) (k : Nat) : List UInt8 := wcL (rwB f k) (rwB f k 0).toNat
def rwOk (f : Nat → Int) (m : Nat) : Bool := (List.range m).all fun k => wocOk (rwB f k)
def rwC (f : Nat → Int) (n : Nat) : Int := if upC f n = 0 then (if upK f = 3 ∧ upL f = 16 * upN f then (if rwOk f (upN f) = true then 0 else 5) else 5) else upC f n
def rwN (f : Nat → Int) (n : Nat) : Nat := if rwC f n = 0 then upN f else 0
theorem rwN_le (f : Nat → Int) (n : Nat) : rwN f n ≤ 1048576 := by
  unfold rwN
  split
  · rename_i h
    unfold rwC at h
    split at h
    · rename_i h0
      have := (up_good h0).1
      omega
    · rename_i h0
      exact absurd h h0
  · omega
def RwPost (f : Nat → Int) (n : Nat) (w : World) : Ending → World → Prop := fun e w' => ∃ v, e = .returned (.tuple #[v, .int .i64 (rwC f n)]) ∧ PR 1 w.heap.size w'.heap.size w' v (rwN f n) (FSt (rwT f)) ∧ Below w.heap.size w w'
theorem RwPost.bad {f : Nat → Int} {n : Nat} {w w' : World} {a : Option Addr} {c : Nat} {C : Int} (h : rwC f n = C) (h0 : C ≠ 0) (hb : Below w.heap.size w w') : RwPost f n w (.returned (.tuple #[.slice a 0 c, .int .i64 C])) w' := by
  refine ⟨.slice a 0 c, by rw [h], ?_, hb⟩
  unfold rwN
  rw [h, if_neg h0]
  exact ⟨a, c, rfl, .inl rfl⟩
theorem RwPost.good {f : Nat → Int} {n : Nat} {w w' : World} {v : Value} (h : rwC f n = 0) (hp : PR 1 w.heap.size w'.heap.size w' v (upN f) (FSt (rwT f))) (hb : Below w.heap.size w w') : RwPost f n w (.returned (.tuple #[v, .int .i64 0])) w' := by
  refine ⟨v, by rw [h], ?_, hb⟩
  unfold rwN
  rw [h, if_pos rfl]
  exact hp
theorem rwOk_bad {f : Nat → Int} {m k : Nat} (hk : k < m) (h : wocOk (rwB f k) = false) : rwOk f m = false := by
  unfold rwOk
  rw [List.all_eq_false]
  exact ⟨k, by simpa using hk, by simp [h]⟩
theorem rwOk_all {f : Nat → Int} {m : Nat} (h : ∀ k, k < m → wocOk (rwB f k) = true) : rwOk f m = true := by
  unfold rwOk
  rw [List.all_eq_true]
  intro k hk
  exact h k (by simpa using hk)
theorem WocPost.ok {m : Nat → Int} {w : World} {e : Ending} {w' : World} (hok : wocOk m = true) (h : WocPost m w e w') : e = .returned (.tuple #[.string (txt (wcL m (m 0).toNat)), .int .i64 0]) ∧ Below w.heap.size w w' := by
  unfold WocPost TextPost at h
  rw [if_pos hok, if_pos hok] at h
  exact h
theorem WocPost.no {m : Nat → Int} {w : World} {e : Ending} {w' : World} (hok : wocOk m = false) (h : WocPost m w e w') : e = .returned (.tuple #[.string (txt []), .int .i64 5]) ∧ Below w.heap.size w w' := by
  unfold WocPost TextPost at h
  rw [if_neg (by rw [hok]; decide), if_neg (by rw [hok]; decide)] at h
  exact h
theorem wc_info (A : Array Value) (h : A.size = 16) : (Try.prog.info? 117).map (·.size) = some A.size := by rw [h]; kernel_rfl
set_option maxRecDepth 20000 in
set_option maxHeartbeats 8000000 in
theorem sReadW_any (n : Nat) (hn : n ≤ 1048576) (f : Nat → Int) (hf : ByF (16 * n) f) (a : Option Addr) (cap : Nat) (w : World) (h : FrR w.heap.size w a n f) :
    Calls Try.prog 46 #[.slice a n cap] w (RwPost f n w) := by
  have SO := Lib.hid (sOpen_any n hn f hf a cap w h)
  by_cases hC : upC f n = 0
  · obtain ⟨hN, h7, hL, hn1⟩ := up_good hC
    have SO2 : Hid (Calls Try.prog 62 #[.slice a n cap] w fun e w' => ∃ a c, e = .returned (.tuple #[.int .i64 (upK f), .int .i64 (upN f : Int), .slice a (upL f) c, .int .i64 0]) ∧ upL f ≤ c ∧ c ≤ maxLen ∧ YrR w'.heap.size w' a (upL f) (pdF f) ∧ Below w.heap.size w w') := Lib.hid (SO.out.mono fun e w' h => h.open hC)
    have RC : Hid (rwC f n = if upK f = 3 ∧ upL f = 16 * upN f then (if rwOk f (upN f) = true then 0 else 5) else 5) := Lib.hid (by unfold rwC; rw [if_pos hC])
    have BP : Hid (ByF (upL f) (pdF f)) := Lib.hid fun j hj => by unfold pdF; exact hf _ (by omega)
    have hL9 : (upL f : Int) ≤ 8388 := by omega
    have hN9 : (upN f : Int) ≤ 256 := by omega
    by_cases hk : upK f = 3
    · have k1 : (upK f != 3) = false := by simpa using hk
      by_cases hl : upL f = 16 * upN f
      · have l1 : ((upL f : Int) != 16 * (upN f : Int)) = false := by simp; omega
        have RC2 : Hid (rwC f n = if rwOk f (upN f) = true then 0 else 5) := Lib.hid (by rw [RC.out, if_pos ⟨hk, hl⟩])
        have RB : Hid (∀ k, k < upN f → ∀ i, i < 16 → 0 ≤ rwB f k i ∧ rwB f k i ≤ 255) := Lib.hid fun k hk i hi => BP.out _ (by omega)
        have G : Hid (∀ v w', rwC f n = 0 → PR 1 w.heap.size w'.heap.size w' v (upN f) (FSt (rwT f)) → Below w.heap.size w w' → RwPost f n w (.returned (.tuple #[v, .int .i64 0])) w') := Lib.hid fun v w' => RwPost.good
        have BD : Hid (∀ k, k < upN f → wocOk (rwB f k) = false → rwC f n = 5) := Lib.hid fun k hk ho => by rw [RC2.out, rwOk_bad hk ho]; exact if_neg (by decide)
        have GD : Hid ((∀ k, k < upN f → wocOk (rwB f k) = true) → rwC f n = 0) := Lib.hid fun ho => by rw [RC2.out, rwOk_all ho, if_pos rfl]
        have RV : Hid (∀ k, txt (rwT f k) = txt (wcL (rwB f k) (rwB f k 0).toNat)) := Lib.hid fun k => rfl
        have RD : Hid (∀ k j, pdF f (16 * k + j) = rwB f k j) := Lib.hid fun k j => rfl
        have HLN := Lib.hid hl
        have ZZ : Hid (#[Value.int .u8 0, Value.int .u8 0, Value.int .u8 0, Value.int .u8 0, Value.int .u8 0, Value.int .u8 0, Value.int .u8 0, Value.int .u8 0, Value.int .u8 0, Value.int .u8 0, Value.int .u8 0, Value.int .u8 0, Value.int .u8 0, Value.int .u8 0, Value.int .u8 0, Value.int .u8 0] = Q16 zI) := Lib.hid rfl
        obtain ⟨L, eL⟩ : ∃ L, upL f = L := ⟨_, rfl⟩
        obtain ⟨N, eN⟩ : ∃ L, upN f = L := ⟨_, rfl⟩
        rw [eL] at SO2 l1 HLN hL9
        rw [eN] at SO2 l1 RB BD GD HLN hN9 G
        generalize upK f = K at SO2 k1
        generalize pdF f = D at SO2 RD
        generalize rwB f = RF at RB BD GD RV RD
        generalize rwT f = V at G RV
        clear SO hC hN h7 hL hn1 RC BP hk hl RC2 hf h hn eL eN
        go_enter Try.func46, Try.ntmps46
        go_wp2_with fail
        refine SO2.out.mono ?_
        rintro e w1 ⟨a1, c1, rfl, hc1, hc2, hy, b⟩
        have B1 := Lib.hid b
        have HY := Lib.hid hy
        have HC1 := Lib.hid hc1
        clear hc1 hc2 hy b SO2
        have B2 := Lib.hid (B1.out.alloc B1.out.size (.cells #[] 9))
        have O2 := Lib.hid (OwnSt.made V w1 w1.heap.size (Nat.le_refl _))
        have HY2 : Hid (∀ W, Below w1.heap.size w1 W → YrR w1.heap.size W a1 L D) := Lib.hid fun W hW => HY.out.below hW (Nat.le_refl _)
        have Z2 : Hid (Below w1.heap.size w1 (w1.alloc (.cells #[] 9))) := Lib.hid ((Below.refl _ _).alloc (Nat.le_refl _) _)
        have Z1 : Hid (w.heap.size ≤ w1.heap.size) := Lib.hid B1.out.size
        go_wp2_with fail
        generalize w1.alloc (.cells #[] 9) = w2 at O2 B2 Z2 ⊢
        go_loopw [8, 9] (fun o vi wr => ∃ k : Nat, k ≤ N ∧ vi = .int .i64 ((16 * k : Nat) : Int) ∧ Hid (OwnSt w1.heap.size o k V wr) ∧ Hid (Below w1.heap.size w1 wr) ∧ Hid (∀ i, i < k → wocOk (RF i) = true)) (fun _ vi _ => L + 16 - (intOf vi).toNat)
        case atStart => exact ⟨0, by omega, rfl, O2, Z2, Lib.hid fun i h => absurd h (by omega)⟩
        case round =>
          rename World => wq
          obtain ⟨k, hk, rfl, ho, hb, hs⟩ := hrel
          have BW : Hid (Below w.heap.size w wq) := Lib.hid (B1.out.trans (hb.out.mono Z1.out))
          have WZ : Hid (w1.heap.size ≤ wq.heap.size) := Lib.hid hb.out.size
          obtain ⟨i, hi⟩ : ∃ i, 16 * k = i := ⟨_, rfl⟩
          have HI := Lib.hid hi
          rw [hi]
          have iI : (i : Int) ≤ 8388 := by have := HLN.out; omega
          by_cases hlt : k < N
          · have ti : (i : Int) < (L : Int) := by have := HLN.out; omega
            obtain ⟨g, off, rfl, hg, hc⟩ : ∃ g off, a1 = some ⟨g, off, none⟩ ∧ g < w1.heap.size ∧ ∀ j, j < L → w1.cell? ⟨g, off + j, none⟩ = some (.int .u8 (D j)) := by
              rcases HY2.out w1 (Below.refl _ _) with h | h
              · have := HLN.out; omega
              · exact h
            have HK := Lib.hid hlt
            have HCM : Hid (∀ W, Below w1.heap.size w1 W → ∀ j, j < 16 → W.cell? ⟨g, off + (i + j), none⟩ = some (.int .u8 (RF k j))) := Lib.hid fun W hW j hj => by
              have := HLN.out
              rw [hW.cell (p := ⟨g, off + (i + j), none⟩) hg, hc (i + j) (by omega), ← hi, RD.out]
            have LL : Hid (i + 16 ≤ L) := Lib.hid (by have := HLN.out; omega)
            have WO := Lib.hid (fun W => swoc_any (RF k) (RB.out k hlt) W)
            have RVk := Lib.hid (RV.out k)
            have BDk := Lib.hid (BD.out k hlt)
            clear hlt hk hg hc hi
            obtain ⟨wa, hwa⟩ : ∃ x, wq.alloc (.cells #[Value.int .u8 0, Value.int .u8 0, Value.int .u8 0, Value.int .u8 0, Value.int .u8 0, Value.int .u8 0, Value.int .u8 0, Value.int .u8 0, Value.int .u8 0, Value.int .u8 0, Value.int .u8 0, Value.int .u8 0, Value.int .u8 0, Value.int .u8 0, Value.int .u8 0, Value.int .u8 0] 117) = x := ⟨_, rfl⟩
            have T1 : Hid (wa.heap[wq.heap.size]? = some (.cells #[Value.int .u8 0, Value.int .u8 0, Value.int .u8 0, Value.int .u8 0, Value.int .u8 0, Value.int .u8 0, Value.int .u8 0, Value.int .u8 0, Value.int .u8 0, Value.int .u8 0, Value.int .u8 0, Value.int .u8 0, Value.int .u8 0, Value.int .u8 0, Value.int .u8 0, Value.int .u8 0] 117 (0, 0))) := Lib.hid (by rw [← hwa]; exact World.alloc_heap_new wq _)
            have bb : Below wq.heap.size wq wa := by rw [← hwa]; exact (Below.refl _ _).alloc (Nat.le_refl _) _
            have S1 : Hid (wa.setRow wq.heap.size #[Value.int .u8 0, Value.int .u8 0, Value.int .u8 0, Value.int .u8 0, Value.int .u8 0, Value.int .u8 0, Value.int .u8 0, Value.int .u8 0, Value.int .u8 0, Value.int .u8 0, Value.int .u8 0, Value.int .u8 0, Value.int .u8 0, Value.int .u8 0, Value.int .u8 0, Value.int .u8 0] = wa) := Lib.hid (setRow_self _ _ _ _ _ T1.out)
            obtain ⟨m, hm⟩ : ∃ m, RF k = m := ⟨_, rfl⟩
            rw [hm] at HCM WO RVk BDk
            have T2 : Hid (wa.heap[wq.heap.size]? = some (.cells (Q16 (mixI zI m 0)) 117 (0, 0))) := Lib.hid (by rw [mixI_zero, ← ZZ.out]; exact T1.out)
            have BA := Lib.hid bb
            have HMK := Lib.hid hm
            clear bb hm
            have ZO : Hid ((#[Value.int .u8 0, Value.int .u8 0, Value.int .u8 0, Value.int .u8 0, Value.int .u8 0, Value.int .u8 0, Value.int .u8 0, Value.int .u8 0, Value.int .u8 0, Value.int .u8 0, Value.int .u8 0, Value.int .u8 0, Value.int .u8 0, Value.int .u8 0, Value.int .u8 0, Value.int .u8 0] : Array Value).all (·.oneCell') = true) := Lib.hid (by rw [ZZ.out]; exact arr_cells _ _ _)
            go_wp2_with (refine wpList_store_row rfl 117 _ _ rfl wq.heap.size _ rfl rfl 117 _ T1.out (wc_info _ rfl) rfl ZO.out ?_; rw [S1.out])
            clear hwa S1 T1
            go_loopw [11] (fun x wx => ∃ j : Nat, j ≤ 16 ∧ x = .int .i64 (j : Int) ∧ Hid (wx.heap[wq.heap.size]? = some (.cells (Q16 (mixI zI m j)) 117 (0, 0))) ∧ Hid (Below wq.heap.size wq wx)) (fun x _ => 16 - (intOf x).toNat)
            case atStart => exact ⟨0, by omega, rfl, T2, BA⟩
            case round =>
              obtain ⟨j, hj, rfl, K2, KB⟩ := hrel
              clear T2 BA
              by_cases hjl : j < 16
              · have hjl' : (j : Int) < 16 := by omega
                have HJ := Lib.hid hjl
                have tix : (i : Int) + (j : Int) < (L : Int) := by have := LL.out; omega
                have tin : ((i : Int) + (j : Int)).toNat = i + j := by omega
                have c0 : wr.cell? ⟨g, off + (i + j), none⟩ = some (.int .u8 (m j)) := HCM.out wr (hb.out.trans (KB.out.mono WZ.out)) j hjl
                have c2 : wr.cell? ⟨wq.heap.size, j, none⟩ = some (.int .u8 (mixI zI m j j)) := (Lib.cell_of_heap K2.out j).trans (arr_get _ _ _ _ hjl)
                have f2 : wr.frozen? ⟨wq.heap.size, j, none⟩ = false := Lib.frozen_of_heap K2.out j
                generalize mixI zI m j j = v at c2
                clear hjl hj
                go_wp2
                go_roundw
                case rel => exact ⟨j + 1, HJ.out, by go_num, Lib.hid (by rw [fset_at K2.out, arr_set _ _ _ _ _ HJ.out, mixI_step]), Lib.hid (KB.out.setCell (p := ⟨_, _, none⟩) (Nat.le_refl _) _)⟩
                case measure => have := HJ.out; simp [intOf]; omega
              · obtain rfl : j = 16 := by omega
                clear hjl hj
                have K3 : Hid (wr.heap[wq.heap.size]? = some (.cells (Q16 m) 117 (0, 0))) := Lib.hid (by have := K2.out; rwa [show Q16 (mixI zI m 16) = Q16 m from arr_mix .u8 16 zI m] at this)
                have BWr : Hid (Below w1.heap.size w1 wr) := Lib.hid (hb.out.trans (KB.out.mono WZ.out))
                have BW2 : Hid (Below w.heap.size w wr) := Lib.hid (B1.out.trans (BWr.out.mono Z1.out))
                have A16 : Hid ((Q16 m).size = 16) := Lib.hid (arr_size _ _ _)
                have WOr : Hid (Calls Try.prog 81 #[.agg (Q16 m)] wr (WocPost m wr)) := Lib.hid (WO.out wr)
                have OW : Hid (OwnSt w1.heap.size u8 k V wr) := Lib.hid (ownsRow_belowB ho.out KB.out)
                generalize Q16 m = A at K3 A16 WOr
                clear K2 WO
                cases hok : wocOk m with
                | true =>
                  have HOK := Lib.hid hok
                  have WX : Hid (Calls Try.prog 81 #[.agg A] wr fun e w' => e = .returned (.tuple #[.string (txt (wcL m (m 0).toNat)), .int .i64 0]) ∧ Below wr.heap.size wr w') := Lib.hid (WOr.out.mono fun e w' h => WocPost.ok hok h)
                  obtain ⟨tx, htx⟩ : ∃ tx, txt (wcL m (m 0).toNat) = tx := ⟨_, rfl⟩
                  rw [htx] at WX RVk
                  clear hok WOr htx
                  go_wp2_with (refine wpList_load_row rfl 117 _ rfl wq.heap.size rfl 117 _ _ _ K3.out Try.underlying117 rfl (wc_info _ A16.out) ?_)
                  refine WX.out.mono ?_
                  rintro e w3 ⟨rfl, b⟩
                  have B3 := Lib.hid (BWr.out.trans (b.mono BWr.out.size))
                  have OW3 : Hid (OwnSt w1.heap.size u8 k V w3) := Lib.hid (ownsRow_belowB OW.out b)
                  clear b
                  go_wp2_with (at_builtin; refine wpList_append_st rfl _ _ rfl w1.heap.size _ k V rfl (OW3.out.alloc _) w3.heap.size 1 tx rfl ((World.cell?_alloc_new _ _ _ _).trans rfl) RVk.out (by have := HI.out; omega) (by have := B3.out.size; rw [World.size_alloc]; omega) w1 (B3.out.alloc B3.out.size _) ?_; intro v4 w4 h1 h2 h3; have O4 := Lib.hid h1; have B4 := Lib.hid h2; clear h1 h2 h3)
                  go_roundw
                  case rel => exact ⟨k + 1, HK.out, by have := HI.out; rw [Nat.mul_succ, this]; push_cast; rfl, O4, B4, Lib.hid fun i2 h2 => by
                    rcases Nat.lt_or_ge i2 k with h | h
                    · exact hs.out i2 h
                    · obtain rfl : i2 = k := by omega
                      rw [HMK.out]; exact HOK.out⟩
                  case measure => have := HK.out; have := HI.out; have := HLN.out; simp [intOf]; omega
                | false =>
                  have Q := Lib.hid (BDk.out hok)
                  have WX : Hid (Calls Try.prog 81 #[.agg A] wr fun e w' => e = .returned (.tuple #[.string (txt []), .int .i64 5]) ∧ Below wr.heap.size wr w') := Lib.hid (WOr.out.mono fun e w' h => WocPost.no hok h)
                  clear hok WOr
                  go_wp2_with (refine wpList_load_row rfl 117 _ rfl wq.heap.size rfl 117 _ _ _ K3.out Try.underlying117 rfl (wc_info _ A16.out) ?_)
                  refine WX.out.mono ?_
                  rintro e w3 ⟨rfl, b⟩
                  have B3 := Lib.hid (BW2.out.trans (b.mono BW2.out.size))
                  clear b
                  go_wp2
                  exact bodyPost_ret (v := .tuple #[.slice (some ⟨w3.heap.size, 0, none⟩) 0 0, .int .i64 5]) (by simp [results, Try.results46, go_sem]) rfl (RwPost.bad Q.out (by decide) (B3.out.alloc B3.out.size _))
          · obtain rfl : k = N := by omega
            have ti : ¬ ((i : Int) < (L : Int)) := by have := HLN.out; omega
            have tge : (L : Int) ≤ (i : Int) := by omega
            have Q := Lib.hid (GD.out fun i h => hs.out i h)
            have PP := Lib.hid (OwnSt.pr (OwnSt.base Z1.out ho.out))
            clear hlt hk hi ho hb hs
            go_wp2_with fail
            exact bodyPost_ret (v := .tuple #[u8, .int .i64 0]) (by simp [results, Try.results46, go_sem]) rfl (G.out _ _ Q.out PP.out BW.out)
      · have l1 : ((upL f : Int) != 16 * (upN f : Int)) = true := by simp; omega
        have Q : Hid (rwC f n = 5) := Lib.hid (by rw [RC.out, if_neg (fun h => hl h.2)])
        generalize upL f = L at SO2 l1 hL9
        generalize upN f = N at SO2 l1 hN9
        generalize upK f = K at SO2 k1
        clear SO hC hN h7 hL hn1 RC BP hk hl hf h hn
        go_enter Try.func46, Try.ntmps46
        go_wp2_with fail
        refine SO2.out.mono ?_
        rintro e w1 ⟨a1, c1, rfl, hc1, hc2, hy, b⟩
        have B1 := Lib.hid b
        clear hc1 hc2 hy b SO2
        go_wp2
        exact bodyPost_ret (v := .tuple #[.slice (some ⟨w1.heap.size, 0, none⟩) 0 0, .int .i64 5]) (by simp [results, Try.results46, go_sem]) rfl (RwPost.bad Q.out (by decide) (B1.out.alloc B1.out.size _))
    · have k1 : (upK f != 3) = true := by simpa using hk
      have Q : Hid (rwC f n = 5) := Lib.hid (by rw [RC.out, if_neg (fun h => hk h.1)])
      generalize upL f = L at SO2 hL9
      generalize upN f = N at SO2 hN9
      generalize upK f = K at SO2 k1
      clear SO hC hN h7 hL hn1 RC BP hk hf h hn
      go_enter Try.func46, Try.ntmps46
      go_wp2_with fail
      refine SO2.out.mono ?_
      rintro e w1 ⟨a1, c1, rfl, hc1, hc2, hy, b⟩
      have B1 := Lib.hid b
      clear hc1 hc2 hy b SO2
      go_wp2
      exact bodyPost_ret (v := .tuple #[.slice (some ⟨w1.heap.size, 0, none⟩) 0 0, .int .i64 5]) (by simp [results, Try.results46, go_sem]) rfl (RwPost.bad Q.out (by decide) (B1.out.alloc B1.out.size _))
  · have SO2 : Hid (Calls Try.prog 62 #[.slice a n cap] w fun e w' => ∃ v, e = .returned (.tuple #[.int .i64 0, .int .i64 0, v, .int .i64 (upC f n)]) ∧ Below w.heap.size w w') := Lib.hid (SO.out.mono fun e w' h => h.shut hC)
    have Q : Hid (rwC f n = upC f n) := Lib.hid (by unfold rwC; rw [if_neg hC])
    have HC := Lib.hid hC
    have c1 : (upC f n != 0) = true := by simpa using hC
    generalize upC f n = C at SO2 Q HC c1
    clear SO hC hf h hn
    go_enter Try.func46, Try.ntmps46
    go_wp2_with fail
    refine SO2.out.mono ?_
    rintro e w1 ⟨v, rfl, b⟩
    have B1 := Lib.hid b
    clear b SO2
    go_wp2
    exact bodyPost_ret (v := .tuple #[.slice (some ⟨w1.heap.size, 0, none⟩) 0 0, .int .i64 C]) (by simp [results, Try.results46, go_sem]) rfl (RwPost.bad Q.out HC.out (B1.out.alloc B1.out.size _))
end Go.Proofs.Ytkijgadkgfapgaa
