/-
  CONTRACT: UnpackMask of the program.
-/
import Derived.Test.YtfnaddpohkbbnaaUb
namespace Go.Proofs.Ytfnaddpohkbbnaa
open Go.ChangeShapes Go.WideShapes Go.ChangeAt Go.RowKit
theorem _root_.Go.World.ownsRow.below_all {w w' : World} {base : Nat} {e : TypeId} {size : Nat} {v : Value} {n : Nat} {xs : List Value} {B : Nat} (h : w.ownsRow base e size v n xs) (hb : Below B w w') (hv : ∀ k, v.ownBlock = some k → k < B) : w'.ownsRow base e size v n xs := by
  obtain ⟨h1, h2⟩ := h
  refine ⟨h1, ?_⟩
  rcases h2 with h | ⟨g, cap, cur, rfl, hg, hc, r⟩
  · exact .inl h
  · exact .inr ⟨g, cap, cur, rfl, hg, (hb.block g (hv g rfl)).trans hc, r⟩
theorem own_shape {w : World} {base : Nat} {e : TypeId} {size : Nat} {v : Value} {n : Nat} {xs : List Value} (h : w.ownsRow base e size v n xs) : ∃ a cap, v = .slice a n cap := by
  rcases h.2 with ⟨rfl, h0⟩ | ⟨g, cap, cur, rfl, _⟩
  · exact ⟨none, 0, by rw [h0]⟩
  · exact ⟨_, cap, rfl⟩
theorem own_some {w : World} {base : Nat} {e : TypeId} {size : Nat} {v : Value} {n : Nat} {xs : List Value} (h : w.ownsRow base e size v n xs) (h0 : n ≠ 0) : ∃ g cap, v = .slice (some ⟨g, 0, none⟩) n cap := by
  rcases h.2 with ⟨_, h1⟩ | ⟨g, cap, cur, rfl, _⟩
  · exact absurd h1 h0
  · exact ⟨_, cap, rfl⟩
theorem mkF_congr {g h : Nat → Bool} : ∀ k, (∀ i, i < k → g i = h i) → mkF g k = mkF h k := by
  intro k
  induction k with
  | zero => intro _; rfl
  | succ k ih =>
    intro hh
    show (if g k then setF (mkF g k) (k % 16) (k / 16) else mkF g k) = (if h k then setF (mkF h k) (k % 16) (k / 16) else mkF h k)
    rw [hh k (by omega), ih fun i hi => hh i (by omega)]
set_option maxRecDepth 20000 in
set_option maxHeartbeats 8000000 in
theorem iunpack_any (D : List UInt8) (hD : D.length ≤ 1048576) (av : Option Addr) (cap : Nat) (w : World) (hR : DR w.heap.size w av D) : Calls Try.prog 26 #[.slice av D.length cap] w (UnPost D w) := by
  unfold UnPost
  obtain ⟨i0, hi, hz0, hz1, hz2⟩ := info_parts info_bool
  have S0 : (w.alloc (.cells (M16 zI) 24)).heap[w.heap.size]? = some (.cells (M16 zI) 24 (0, 0)) := World.alloc_heap_new w _
  have SB : Below w.heap.size w (w.alloc (.cells (M16 zI) 24)) := (Below.refl _ w).alloc (Nat.le_refl _) _
  have Z : M16 zI = #[Value.int .u16 0, Value.int .u16 0, Value.int .u16 0, Value.int .u16 0, Value.int .u16 0, Value.int .u16 0, Value.int .u16 0, Value.int .u16 0, Value.int .u16 0, Value.int .u16 0, Value.int .u16 0, Value.int .u16 0, Value.int .u16 0, Value.int .u16 0, Value.int .u16 0, Value.int .u16 0] := rfl
  have H0 := Lib.hid S0
  have HB := Lib.hid SB
  clear S0 SB
  rw [Z] at H0 HB
  clear Z
  have HR := Lib.hid hR
  have hD' : (D.length : Int) ≤ 1048576 := by omega
  have RZ : Hid (rowD D 0 = []) := Lib.hid rfl
  clear hR
  go_enter Try.func26, Try.ntmps26
  go_wp2
  generalize w.alloc (.cells #[Value.int .u16 0, Value.int .u16 0, Value.int .u16 0, Value.int .u16 0, Value.int .u16 0, Value.int .u16 0, Value.int .u16 0, Value.int .u16 0, Value.int .u16 0, Value.int .u16 0, Value.int .u16 0, Value.int .u16 0, Value.int .u16 0, Value.int .u16 0, Value.int .u16 0, Value.int .u16 0] 24) = w1 at H0 HB ⊢
  go_loopw [4, 5, 7, 11] (fun row on _ i wr => ∃ k n : Nat, k ≤ D.length ∧ (rowD D k).length = n ∧ n < 256 ∧ i = .int .i64 (k : Int) ∧ on = .bool (onD k) ∧ wr.ownsRow (w.heap.size + 1) 4 1 row n (boolV (rowD D k)) ∧ wr.heap[w.heap.size]? = some (.cells #[Value.int .u16 0, Value.int .u16 0, Value.int .u16 0, Value.int .u16 0, Value.int .u16 0, Value.int .u16 0, Value.int .u16 0, Value.int .u16 0, Value.int .u16 0, Value.int .u16 0, Value.int .u16 0, Value.int .u16 0, Value.int .u16 0, Value.int .u16 0, Value.int .u16 0, Value.int .u16 0] 24 (0, 0)) ∧ Below w.heap.size w wr) (fun _ _ _ i _ => D.length - (intOf i).toNat)
  case atStart => exact ⟨0, 0, by omega, rfl, by omega, rfl, rfl, by rw [RZ.out]; exact World.ownsRow_nil _ _ _ _, H0.out, HB.out⟩
  case round =>
    obtain ⟨k, n, hk, hn, hn2, rfl, rfl, hO, h0, hB⟩ := hrel
    have KO := Lib.hid hO
    have L0 := Lib.hid h0
    have LB := Lib.hid hB
    have LZ : Hid (w.heap.size < wr.heap.size) := Lib.hid (Array.getElem?_eq_some_iff.1 h0).1
    clear hO h0 hB H0 HB
    by_cases hlt : k < D.length
    · have tk : (k : Int) < (D.length : Int) := by omega
      have HK := Lib.hid hlt
      obtain ⟨g, off, rfl, hg, hcs⟩ : ∃ g off, av = some ⟨g, off, none⟩ ∧ g < w.heap.size ∧ ∀ j (hj : j < D.length), w.cell? ⟨g, off + j, none⟩ = some (.int .u8 (((D[j]'hj).toNat : Nat) : Int)) := by
        rcases HR.out with h | h
        · omega
        · exact h
      obtain ⟨d, hd⟩ : ∃ d, (D.getD k 0).toNat = d := ⟨_, rfl⟩
      have hdv : (D[k]'hlt).toNat = d := by rw [← hd]; simp [List.getD_eq_getElem?_getD, List.getElem?_eq_getElem hlt]
      have cD : wr.cell? ⟨g, off + k, none⟩ = some (.int .u8 (d : Int)) := (LB.out.cell (p := ⟨g, off + k, none⟩) hg).trans (by rw [hcs k hlt, hdv])
      have hd255 : d ≤ 255 := by have := (D[k]'hlt).toNat_lt; omega
      have hdi : (d : Int) ≤ 255 := by omega
      obtain ⟨m, hm⟩ : ∃ m, n + d = m := ⟨_, rfl⟩
      have HM : Hid (n + d = m ∧ rowD D k ++ List.replicate d (onD k) = rowD D (k + 1) ∧ (rowD D (k + 1)).length = m) := Lib.hid ⟨hm, by rw [rowD_succ, hd], by rw [rowD_len, hn, hd, hm]⟩
      have LEN : Hid (n + d ≤ 1000) := Lib.hid (by omega)
      have HM2 : Hid (m ≤ 600) := Lib.hid (by omega)
      have ON := Lib.hid (onD_succ k)
      clear hcs hd hdv hm hn hn2 hk hlt hg hd255
      have RB := Lib.hid (brepeat_any (onD k) wr.heap.size 1 d (by have := LEN.out; omega) (wr.alloc (.cells #[.bool (onD k)] 4)) (by simp) (Lib.cell_of_heap (World.alloc_heap_new wr _) 0))
      unfold RbPost at RB
      by_cases hm : 256 ≤ m
      · have RN := un_long (D := D) (by
          have h1 := rowD_mono D (show k + 1 ≤ D.length from HK.out)
          rw [HM.out.2.2] at h1
          omega)
        have tm : (256 : Int) ≤ (m : Int) := by omega
        clear hm
        go_wp2_with fail
        refine (RB.out).mono ?_
        rintro e w2 ⟨g2, rfl, hg2, hc2, b2⟩
        have Z1 : w2.heap.size ≥ wr.heap.size + 1 := by have := b2.size; simpa using this
        have KO2 : Hid (w2.ownsRow (w.heap.size + 1) 4 1 u4 n (boolV (rowD D k))) := Lib.hid ((KO.out.alloc (.cells #[.bool (onD k)] 4)).below_all b2 (fun k hk => by have := (KO.out.lt k hk).2; simp; omega))
        have N0 : Hid (w2.heap[w.heap.size]? = some (.cells #[Value.int .u16 0, Value.int .u16 0, Value.int .u16 0, Value.int .u16 0, Value.int .u16 0, Value.int .u16 0, Value.int .u16 0, Value.int .u16 0, Value.int .u16 0, Value.int .u16 0, Value.int .u16 0, Value.int .u16 0, Value.int .u16 0, Value.int .u16 0, Value.int .u16 0, Value.int .u16 0] 24 (0, 0))) := Lib.hid ((b2.block w.heap.size (by have := LZ.out; simp; omega)).trans ((Below.heap_alloc _ _ _ LZ.out).trans L0.out))
        have NB : Hid (Below w.heap.size w w2) := Lib.hid ((LB.out.alloc (by have := LZ.out; omega) _).trans (b2.mono (by have := LZ.out; simp; omega)))
        have NC : Hid (∀ j u, (List.replicate d (Value.bool (onD k)))[j]? = some u → w2.cell? ((⟨g2, 0, none⟩ : Addr).add j) = some u) := Lib.hid fun j u hj => by
          rw [addr_offB, Nat.zero_add, Lib.cell_of_heap hc2 j, List.getElem?_toArray]; exact hj
        have NZ : Hid (w.heap.size + 1 ≤ w2.heap.size) := Lib.hid (by have := LZ.out; omega)
        clear b2 hc2 hg2 RB
        go_wp2_with (first | (at_builtin; refine wpList_append_own _ rfl (.tmp 15) (.tmp 20) BS rfl (w.heap.size + 1) 4 i0 (.bool false) 1 1 Try.underlying68 hi hz0 hz1 hz2 rfl (by decide) u4 n (boolV (rowD D k)) rfl KO2.out ⟨g2, 0, none⟩ d d (List.replicate d (.bool (onD k))) rfl (by simp) NC.out (rep_oneB _ _) (by unfold maxLen; have := LEN.out; omega) (by have := LEN.out; omega) NZ.out ?_; intro v' w3 hown' hgrow _; rw [boolV_app, HM.out.1] at hown'; obtain ⟨a', cap', rfl⟩ := own_shape hown'; have N03 : Hid (w3.heap[w.heap.size]? = some (.cells #[Value.int .u16 0, Value.int .u16 0, Value.int .u16 0, Value.int .u16 0, Value.int .u16 0, Value.int .u16 0, Value.int .u16 0, Value.int .u16 0, Value.int .u16 0, Value.int .u16 0, Value.int .u16 0, Value.int .u16 0, Value.int .u16 0, Value.int .u16 0, Value.int .u16 0, Value.int .u16 0] 24 (0, 0))) := Lib.hid ((hgrow.block w.heap.size (by have := NZ.out; omega) (fun e => by have := (KO2.out.lt w.heap.size e.symm).1; omega)).trans N0.out); have NB3 : Hid (Below w.heap.size w w3) := Lib.hid (NB.out.grown hgrow (by have := NZ.out; omega) (fun k hk => by have := (KO2.out.lt k hk).1; omega)); have NO3 := Lib.hid hown'; clear hown' hgrow KO2 N0 NB NC NZ) | (refine wpList_store_row rfl 24 _ _ rfl w.heap.size (M16 zI) rfl rfl 24 _ N03.out (mask_info _ rfl) rfl (arr_cells _ _ _) ?_))
        refine bodyPost_ret (v := .tuple #[.agg (M16 zI), .int .i64 5]) ?_ rfl ⟨by rw [RN.1, RN.2], ?_⟩
        · exact results_cell_tmp_row Try.results26 _ _ w.heap.size _ _ _ _ rfl (setRow_heap _ _ _ _ _ _ N03.out) Try.underlying24 rfl (mask_info _ (arr_size _ _ _))
        · exact below_setRow NB3.out (Nat.le_refl _) _
      · have tm : (m : Int) < 256 := by omega
        have HM3 := Lib.hid (show m < 256 by omega)
        clear hm
        go_wp2_with fail
        refine (RB.out).mono ?_
        rintro e w2 ⟨g2, rfl, hg2, hc2, b2⟩
        have Z1 : w2.heap.size ≥ wr.heap.size + 1 := by have := b2.size; simpa using this
        have KO2 : Hid (w2.ownsRow (w.heap.size + 1) 4 1 u4 n (boolV (rowD D k))) := Lib.hid ((KO.out.alloc (.cells #[.bool (onD k)] 4)).below_all b2 (fun k hk => by have := (KO.out.lt k hk).2; simp; omega))
        have N0 : Hid (w2.heap[w.heap.size]? = some (.cells #[Value.int .u16 0, Value.int .u16 0, Value.int .u16 0, Value.int .u16 0, Value.int .u16 0, Value.int .u16 0, Value.int .u16 0, Value.int .u16 0, Value.int .u16 0, Value.int .u16 0, Value.int .u16 0, Value.int .u16 0, Value.int .u16 0, Value.int .u16 0, Value.int .u16 0, Value.int .u16 0] 24 (0, 0))) := Lib.hid ((b2.block w.heap.size (by have := LZ.out; simp; omega)).trans ((Below.heap_alloc _ _ _ LZ.out).trans L0.out))
        have NB : Hid (Below w.heap.size w w2) := Lib.hid ((LB.out.alloc (by have := LZ.out; omega) _).trans (b2.mono (by have := LZ.out; simp; omega)))
        have NC : Hid (∀ j u, (List.replicate d (Value.bool (onD k)))[j]? = some u → w2.cell? ((⟨g2, 0, none⟩ : Addr).add j) = some u) := Lib.hid fun j u hj => by
          rw [addr_offB, Nat.zero_add, Lib.cell_of_heap hc2 j, List.getElem?_toArray]; exact hj
        have NZ : Hid (w.heap.size + 1 ≤ w2.heap.size) := Lib.hid (by have := LZ.out; omega)
        clear b2 hc2 hg2 RB
        go_wp2_with (at_builtin; refine wpList_append_own _ rfl (.tmp 15) (.tmp 20) BS rfl (w.heap.size + 1) 4 i0 (.bool false) 1 1 Try.underlying68 hi hz0 hz1 hz2 rfl (by decide) u4 n (boolV (rowD D k)) rfl KO2.out ⟨g2, 0, none⟩ d d (List.replicate d (.bool (onD k))) rfl (by simp) NC.out (rep_oneB _ _) (by unfold maxLen; have := LEN.out; omega) (by have := LEN.out; omega) NZ.out ?_; intro v' w3 hown' hgrow _; rw [boolV_app, HM.out.1] at hown'; obtain ⟨a', cap', rfl⟩ := own_shape hown'; have N03 : Hid (w3.heap[w.heap.size]? = some (.cells #[Value.int .u16 0, Value.int .u16 0, Value.int .u16 0, Value.int .u16 0, Value.int .u16 0, Value.int .u16 0, Value.int .u16 0, Value.int .u16 0, Value.int .u16 0, Value.int .u16 0, Value.int .u16 0, Value.int .u16 0, Value.int .u16 0, Value.int .u16 0, Value.int .u16 0, Value.int .u16 0] 24 (0, 0))) := Lib.hid ((hgrow.block w.heap.size (by have := NZ.out; omega) (fun e => by have := (KO2.out.lt w.heap.size e.symm).1; omega)).trans N0.out); have NB3 : Hid (Below w.heap.size w w3) := Lib.hid (NB.out.grown hgrow (by have := NZ.out; omega) (fun k hk => by have := (KO2.out.lt k hk).1; omega)); have NO3 := Lib.hid hown'; clear hown' hgrow KO2 N0 NB NC NZ)
        go_roundw
        case rel => exact ⟨k + 1, m, HK.out, HM.out.2.2, HM3.out, by go_num, by rw [ON.out], by rw [← HM.out.2.1]; exact NO3.out, N03.out, NB3.out⟩
        case measure => have := HK.out; simp [intOf]; omega
    · obtain rfl : k = D.length := by omega
      clear hlt hk
      obtain ⟨ua, uc, rfl⟩ := own_shape KO.out
      obtain ⟨c, hc⟩ : ∃ c, 256 - n = c := ⟨_, rfl⟩
      have ci : (256 : Int) - (n : Int) = (c : Int) := by omega
      have HM : Hid (n + c = 256) := Lib.hid (by omega)
      have LEN : Hid (n + c ≤ 1000) := Lib.hid (by omega)
      have ni : (n : Int) < 256 := by omega
      have GC : Hid (∀ i, i < 256 → (boolV (rowD D D.length ++ List.replicate c (onD D.length)))[i]? = some (.bool (gF D i))) := Lib.hid fun i hi => by
        have hl : (rowD D D.length ++ List.replicate c (onD D.length)).length = 256 := by simp [hn]; omega
        have e : gF D i = (rowD D D.length ++ List.replicate c (onD D.length)).getD i false := by
          unfold gF
          rw [List.getD_eq_getElem?_getD, List.getD_eq_getElem?_getD]
          by_cases h : i < (rowD D D.length).length
          · rw [List.getElem?_append_left h, List.getElem?_append_left h]
          · rw [List.getElem?_append_right (by omega), List.getElem?_append_right (by omega), List.getElem?_replicate, List.getElem?_replicate, if_pos (by omega), if_pos (by omega)]
        rw [e]
        unfold boolV
        rw [List.getElem?_map, List.getD_eq_getElem?_getD, List.getElem?_eq_getElem (by omega)]
        rfl
      have RB := Lib.hid (brepeat_any (onD D.length) wr.heap.size 1 c (by have := LEN.out; omega) (wr.alloc (.cells #[.bool (onD D.length)] 4)) (by simp) (Lib.cell_of_heap (World.alloc_heap_new wr _) 0))
      unfold RbPost at RB
      clear hc hn hn2
      go_wp2_with fail
      refine (RB.out).mono ?_
      rintro e w2 ⟨g2, rfl, hg2, hc2, b2⟩
      have Z1 : w2.heap.size ≥ wr.heap.size + 1 := by have := b2.size; simpa using this
      have KO2 : Hid (w2.ownsRow (w.heap.size + 1) 4 1 (.slice ua n uc) n (boolV (rowD D D.length))) := Lib.hid ((KO.out.alloc (.cells #[.bool (onD D.length)] 4)).below_all b2 (fun k hk => by have := (KO.out.lt k hk).2; simp; omega))
      have N0 : Hid (w2.heap[w.heap.size]? = some (.cells #[Value.int .u16 0, Value.int .u16 0, Value.int .u16 0, Value.int .u16 0, Value.int .u16 0, Value.int .u16 0, Value.int .u16 0, Value.int .u16 0, Value.int .u16 0, Value.int .u16 0, Value.int .u16 0, Value.int .u16 0, Value.int .u16 0, Value.int .u16 0, Value.int .u16 0, Value.int .u16 0] 24 (0, 0))) := Lib.hid ((b2.block w.heap.size (by have := LZ.out; simp; omega)).trans ((Below.heap_alloc _ _ _ LZ.out).trans L0.out))
      have NB : Hid (Below w.heap.size w w2) := Lib.hid ((LB.out.alloc (by have := LZ.out; omega) _).trans (b2.mono (by have := LZ.out; simp; omega)))
      have NC : Hid (∀ j u, (List.replicate c (Value.bool (onD D.length)))[j]? = some u → w2.cell? ((⟨g2, 0, none⟩ : Addr).add j) = some u) := Lib.hid fun j u hj => by
        rw [addr_offB, Nat.zero_add, Lib.cell_of_heap hc2 j, List.getElem?_toArray]; exact hj
      have NZ : Hid (w.heap.size + 1 ≤ w2.heap.size) := Lib.hid (by have := LZ.out; omega)
      clear b2 hc2 hg2 RB
      go_wp2_with (at_builtin; refine wpList_append_own _ rfl (.tmp 29) (.tmp 35) BS rfl (w.heap.size + 1) 4 i0 (.bool false) 1 1 Try.underlying68 hi hz0 hz1 hz2 rfl (by decide) (.slice ua n uc) n (boolV (rowD D D.length)) rfl KO2.out ⟨g2, 0, none⟩ c c (List.replicate c (.bool (onD D.length))) rfl (by simp) NC.out (rep_oneB _ _) (by unfold maxLen; have := LEN.out; omega) (by have := LEN.out; omega) NZ.out ?_; intro v' w3 hown' hgrow _; rw [boolV_app, HM.out] at hown'; obtain ⟨g', cap', rfl⟩ := own_some hown' (by decide); have N03 : Hid (w3.heap[w.heap.size]? = some (.cells #[Value.int .u16 0, Value.int .u16 0, Value.int .u16 0, Value.int .u16 0, Value.int .u16 0, Value.int .u16 0, Value.int .u16 0, Value.int .u16 0, Value.int .u16 0, Value.int .u16 0, Value.int .u16 0, Value.int .u16 0, Value.int .u16 0, Value.int .u16 0, Value.int .u16 0, Value.int .u16 0] 24 (0, 0))) := Lib.hid ((hgrow.block w.heap.size (by have := NZ.out; omega) (fun e => by have := (KO2.out.lt w.heap.size e.symm).1; omega)).trans N0.out); have NB3 : Hid (Below w.heap.size w w3) := Lib.hid (NB.out.grown hgrow (by have := NZ.out; omega) (fun k hk => by have := (KO2.out.lt k hk).1; omega)); have NO3 := Lib.hid hown'; clear hown' hgrow KO2 N0 NB NC NZ)
      have hg3 : g' < w3.heap.size := (NO3.out.lt g' rfl).2
      have MO := Lib.hid (maskOfRow_any (gF D) g' cap' w3 hg3 (fun i hi => by rw [NO3.out.cellAt i (by omega)]; exact GC.out i hi))
      have MF : Hid (M16 (mkW (gF D) 256) = M16 (uF D)) := Lib.hid (mk_both (gF D))
      rw [MF.out] at MO
      have PK := Lib.hid (fun w => ipack_any (uF D) (mkF_MB _ _) w)
      unfold PkPost at PK
      have hS3 : w.heap.size < w3.heap.size := (Array.getElem?_eq_some_iff.1 N03.out).1
      clear GC NO3 MF hg3
      refine (MO.out).mono ?_
      rintro e w4 ⟨rfl, b4⟩
      have P0 := Lib.hid ((b4.block w.heap.size hS3).trans N03.out)
      have PB := Lib.hid (NB3.out.trans (b4.mono (by omega)))
      have hS4 : w.heap.size < w4.heap.size := Nat.lt_of_lt_of_le hS3 b4.size
      clear b4 N03 NB3 MO
      obtain ⟨W5, hW5⟩ : ∃ W5, (w4.alloc (.cells #[Value.int .u16 0, Value.int .u16 0, Value.int .u16 0, Value.int .u16 0, Value.int .u16 0, Value.int .u16 0, Value.int .u16 0, Value.int .u16 0, Value.int .u16 0, Value.int .u16 0, Value.int .u16 0, Value.int .u16 0, Value.int .u16 0, Value.int .u16 0, Value.int .u16 0, Value.int .u16 0] 24)).setRow w4.heap.size (M16 (uF D)) = W5 := ⟨_, rfl⟩
      have GN : Hid ((w4.alloc (.cells #[Value.int .u16 0, Value.int .u16 0, Value.int .u16 0, Value.int .u16 0, Value.int .u16 0, Value.int .u16 0, Value.int .u16 0, Value.int .u16 0, Value.int .u16 0, Value.int .u16 0, Value.int .u16 0, Value.int .u16 0, Value.int .u16 0, Value.int .u16 0, Value.int .u16 0, Value.int .u16 0] 24)).heap[w4.heap.size]? = some (.cells #[Value.int .u16 0, Value.int .u16 0, Value.int .u16 0, Value.int .u16 0, Value.int .u16 0, Value.int .u16 0, Value.int .u16 0, Value.int .u16 0, Value.int .u16 0, Value.int .u16 0, Value.int .u16 0, Value.int .u16 0, Value.int .u16 0, Value.int .u16 0, Value.int .u16 0, Value.int .u16 0] 24 (0, 0))) := Lib.hid (World.alloc_heap_new w4 _)
      have GM : Hid (W5.heap[w4.heap.size]? = some (.cells (M16 (uF D)) 24 (0, 0))) := Lib.hid (by rw [← hW5]; exact setRow_heap _ _ _ _ _ _ GN.out)
      have G0 : Hid (W5.heap[w.heap.size]? = some (.cells #[Value.int .u16 0, Value.int .u16 0, Value.int .u16 0, Value.int .u16 0, Value.int .u16 0, Value.int .u16 0, Value.int .u16 0, Value.int .u16 0, Value.int .u16 0, Value.int .u16 0, Value.int .u16 0, Value.int .u16 0, Value.int .u16 0, Value.int .u16 0, Value.int .u16 0, Value.int .u16 0] 24 (0, 0))) := Lib.hid (by rw [← hW5, setRow_other _ _ _ _ (by omega)]; exact (Below.heap_alloc _ _ _ (by omega)).trans P0.out)
      have GB : Hid (Below w.heap.size w W5) := Lib.hid (by rw [← hW5]; exact below_setRow (PB.out.alloc (by omega) _) (by omega) _)
      have GS : Hid (w4.heap.size < W5.heap.size) := Lib.hid (by rw [← hW5]; simp)
      clear P0 PB
      go_wp2_with (first | (refine wpList_store_row rfl 24 _ _ rfl w4.heap.size (M16 (uF D)) rfl rfl 24 _ GN.out (mask_info _ rfl) rfl (arr_cells _ _ _) ?_; rw [hW5]) | (refine wpList_load_row rfl 24 _ rfl w4.heap.size rfl 24 _ _ _ GM.out Try.underlying24 rfl (mask_info _ (arr_size _ _ _)) ?_))
      clear hW5 GN
      refine (PK.out _).mono ?_
      rintro e w6 ⟨v, rfl, hO, b6⟩
      have J0 := Lib.hid ((b6.block w.heap.size (by have := GS.out; omega)).trans G0.out)
      have JM := Lib.hid ((b6.block w4.heap.size GS.out).trans GM.out)
      have JB := Lib.hid (GB.out.trans (b6.mono (by have := GS.out; omega)))
      have BE := Lib.hid (bequal_any (pkL_le (uF D)) D av cap w.heap.size w6 hO (HR.out.below JB.out (Nat.le_refl _)))
      have RY := Lib.hid (fun h : pkL (uF D) = natD D => un_yes (D := D) h)
      have RNN := Lib.hid (fun h : pkL (uF D) ≠ natD D => un_no (D := D) h)
      clear b6 G0 GM GB hO PK
      generalize pkL (uF D) = p at BE RY RNN
      generalize uF D = f at JM RY
      by_cases h : p = natD D
      · rw [decide_eq_true h] at BE
        have RZ' := RY.out h
        clear RY RNN h
        go_wp2_with fail
        refine (BE.out).mono ?_
        rintro e w7 ⟨rfl, rfl⟩
        go_wp2_with (first | (refine wpList_load_row rfl 24 _ rfl w4.heap.size rfl 24 _ _ _ JM.out Try.underlying24 rfl (mask_info _ (arr_size _ _ _)) ?_) | (refine wpList_store_row rfl 24 _ _ rfl w.heap.size (M16 f) rfl rfl 24 _ J0.out (mask_info _ rfl) rfl (arr_cells _ _ _) ?_))
        refine bodyPost_ret (v := .tuple #[.agg (M16 f), .int .i64 0]) ?_ rfl ⟨by rw [RZ'.1, RZ'.2], ?_⟩
        · exact results_cell_tmp_row Try.results26 _ _ w.heap.size _ _ _ _ rfl (setRow_heap _ _ _ _ _ _ J0.out) Try.underlying24 rfl (mask_info _ (arr_size _ _ _))
        · exact below_setRow JB.out (Nat.le_refl _) _
      · rw [decide_eq_false h] at BE
        have RN := RNN.out h
        clear RY RNN h
        go_wp2_with fail
        refine (BE.out).mono ?_
        rintro e w7 ⟨rfl, rfl⟩
        go_wp2_with (refine wpList_store_row rfl 24 _ _ rfl w.heap.size (M16 zI) rfl rfl 24 _ J0.out (mask_info _ rfl) rfl (arr_cells _ _ _) ?_)
        refine bodyPost_ret (v := .tuple #[.agg (M16 zI), .int .i64 5]) ?_ rfl ⟨by rw [RN.1, RN.2], ?_⟩
        · exact results_cell_tmp_row Try.results26 _ _ w.heap.size _ _ _ _ rfl (setRow_heap _ _ _ _ _ _ J0.out) Try.underlying24 rfl (mask_info _ (arr_size _ _ _))
        · exact below_setRow JB.out (Nat.le_refl _) _
end Go.Proofs.Ytfnaddpohkbbnaa
