/-
  CONTRACT: the program's list of a picture's cells, up to its sort.
-/
import Derived.Test.YthfmkejdpflpcaaJi
namespace Go.Proofs.Ythfmkejdpflpcaa
open Go.ChangeShapes Go.WideShapes Go.ChangeAt Go.RowKit Go.Shelf
attribute [local go_sem] Oper.semAt_some
theorem grownBy_setRow (w : World) (g : Nat) (A : Array Value) : w.grownBy (w.setRow g A) (some g) := ⟨rfl, rfl, rfl, (below_setRow (B := 0) (Below.refl _ w) (Nat.zero_le _) A).size, fun k _ hk => setRow_other w g k A (fun e => hk (by rw [e]))⟩
theorem own_not {W : World} {n₀ : Nat} {e T : TypeId} {size : Nat} {v : Value} {k bm : Nat} {xs : List Value} {A : Array Value} {fr : Nat × Nat} (hrow : W.ownsRow n₀ e size v k xs) (hP : W.heap[bm]? = some (.cells A T fr)) (hTe : T ≠ e) : v.ownBlock = none ∨ v.ownBlock ≠ some bm := by
  rcases hrow.2 with ⟨rfl, _⟩ | ⟨g, cap, cur, rfl, _, hgb, _⟩
  · exact .inl rfl
  · refine .inr fun h => ?_
    obtain rfl : g = bm := by simpa [Value.ownBlock] using h
    rw [hP] at hgb
    cases hgb
    exact hTe rfl
/-- what slices.SortFunc does at a slice of points that the call owns -/
def SortsP : Prop := ∀ (B : Nat) (v : Value) (L : List (Int × Int)) (W : World), B ≤ W.heap.size → L.length ≤ 16384 → W.ownsRow B 45 2 v L.length (ptsV L) →
  Calls Try.prog 112 #[v, .func (.func 100) #[] #[]] W fun e w' => e = .returned (.tuple #[]) ∧ ∃ L', L'.Perm L ∧ L'.Pairwise (fun a b => ¬ ltP b a) ∧ w'.ownsRow B 45 2 v L'.length (ptsV L') ∧ W.grownBy w' v.ownBlock
def CellsPP (f : Nat → Int) (n : Nat) (w : World) (e : Ending) (w' : World) : Prop := ∃ v L, e = .returned v ∧ L.Perm (blL f n) ∧ L.Pairwise (fun a b => ¬ ltP b a) ∧ w'.ownsRow w.heap.size 45 2 v L.length (ptsV L) ∧ Below w.heap.size w w'
set_option maxRecDepth 100000 in
set_option maxHeartbeats 8000000 in
theorem icellsP_in (F : Fence) (hF : F = Fence.wide) (N : Nat) (hN : 3 ≤ N) (a : Option Addr) (n cap : Nat) (f : Nat → Int) (w : World) (hv : validP f n = true) (h : BlR w.heap.size w a n f) (hf : BlF n f) (SF : SortsP) :
    CallsIn F N Try.prog 66 #[.slice a n cap] w (CellsPP f n w) := by
  unfold CellsPP
  have h0 : F.fn 66 := by rw [hF]; trivial
  have h2 : F.fn 139 := by rw [hF]; trivial
  have hro : F.round = none := by rw [hF]; rfl
  have hn1 : 1 ≤ N := by omega
  have H1' : F.fn 110 := by rw [hF]; trivial
  have H2' : F.fn 111 := by rw [hF]; trivial
  obtain ⟨i0, hi, hz0, hz1, hz2⟩ := info_parts info_pt
  have HR := Lib.hid h
  have HBF := Lib.hid hf
  have HV := Lib.hid hv
  have hn64 := validP_le hv
  have HN := Lib.hid hn64
  have nI : (n : Int) ≤ 64 := by omega
  have HF := Lib.hid hF
  have MC : Hid (∀ g W m, CallsIn F m Try.prog 110 #[.agg (M16 g)] W fun e w' => e = .returned (.func (.func 139) #[] #[.pointer (some ⟨W.heap.size, 0, none⟩)]) ∧ w' = W.alloc (.cells (M16 g) 71)) := Lib.hid fun g W m => by rw [hF]; exact callsIn_wide.2 (mcells_any g W)
  have OM : Hid (∀ (p q : Int) (g : Nat → Int), I32 p → I32 q → ∀ (x y : Nat), x < 16 → y < 16 → ∀ W m, CallsIn F m Try.prog 111 #[.agg (bl p q g), .int .i64 (x : Int), .int .i64 (y : Int)] W fun e w' => e = .returned (.tuple #[.int .i64 (16 * p + x), .int .i64 (16 * q + y)]) ∧ Below W.heap.size W w') := Lib.hid fun p q g hp hq x y hx hy W m => by rw [hF]; exact callsIn_wide.2 (outM_any p q hp hq g x y hx hy W)
  have S1 : Boxed (w.alloc (.cells #[.slice none 0 0] 22)) w.heap.size 22 (.slice none 0 0) := World.alloc_heap_new w _
  have SB : Below w.heap.size w (w.alloc (.cells #[.slice none 0 0] 22)) := (Below.refl _ w).alloc (Nat.le_refl _) _
  have SZ : (w.alloc (.cells #[.slice none 0 0] 22)).heap.size = w.heap.size + 1 := by simp
  have X1 := Lib.hid S1
  have XB := Lib.hid SB
  have XZ := Lib.hid SZ
  clear h hf hv hF S1 SB SZ
  refine callsIn_of_wp_marks Try.func66 rfl h0 ?_ hro
  simp only [Try.ntmps66, List.size_toArray, List.length_cons, List.length_nil, Nat.reduceAdd, Nat.reduceSub, Array.replicate_succ, Array.replicate_zero, List.push_toArray, List.append_toArray, List.nil_append, List.cons_append]
  gi_wp2
  generalize w.alloc (.cells #[.slice none 0 0] 22) = w1 at X1 XB XZ ⊢
  refine wpIn_loop (fun aa W => ∃ (k : Nat) (v : Value) (ds : List Deferred) (u4 u5 u6 u7 u8 u9 u13 u14 u15 u16 u17 u18 u19 u20 u21 u22 u23 u24 u25 u26 u27 u28 u29 u30 u31 u32 u33 u34 u35 u36 u37 u38 u39 : Value), aa = { tmps := #[.slice a n cap, undef, .slice none 0 0, .pointer (some ⟨w.heap.size, 0, none⟩), u4, u5, u6, u7, u8, u9, .slice a n cap, .int .i64 (n : Int), .int .i64 (k : Int), u13, u14, u15, u16, u17, u18, u19, u20, u21, u22, u23, u24, u25, u26, u27, u28, u29, u30, u31, u32, u33, u34, u35, u36, u37, u38, u39], defers := ds } ∧ k ≤ n ∧ Hid (Boxed W w.heap.size 22 v) ∧ Hid (W.ownsRow w.heap.size 45 2 v (blL f k).length (ptsV (blL f k))) ∧ Hid (Below w.heap.size w W) ∧ Hid (w.heap.size < W.heap.size) ∧ Hid (MarksLt w.heap.size W.heap.size ds W)) (fun aa _ => n - (intOf (aa.tmps.getD 12 undef)).toNat) ?start ?round
  case start =>
    exact ⟨0, .slice none 0 0, [], _, _, _, _, _, _, _, _, _, _, _, _, _, _, _, _, _, _, _, _, _, _, _, _, _, _, _, _, _, _, _, _, _, rfl, Nat.zero_le _, X1, Lib.hid (World.ownsRow_nil _ _ _ _), XB, Lib.hid (by have := XZ.out; omega), Lib.hid ⟨[], rfl, List.nodup_nil, fun D h => absurd h List.not_mem_nil⟩⟩
  case round =>
    rintro aa wr ⟨k, v, ds, u4, u5, u6, u7, u8, u9, u13, u14, u15, u16, u17, u18, u19, u20, u21, u22, u23, u24, u25, u26, u27, u28, u29, u30, u31, u32, u33, u34, u35, u36, u37, u38, u39, rfl, hk, R1, O1, B1, Z1, K1⟩
    clear X1 XB XZ
    by_cases hlt : k < n
    · have tk : (k : Int) < (n : Int) := by omega
      obtain ⟨g, off, rfl, hg, hc⟩ : ∃ g off, a = some ⟨g, off, none⟩ ∧ g < w.heap.size ∧ ∀ j, j < 18 * n → w.cell? ⟨g, off + j, none⟩ = some (bcell f j) := by
        rcases HR.out with h | h
        · omega
        · exact h
      have HCB : Hid (∀ j u, (blk f k)[j]? = some u → wr.cell? ⟨g, off + k * 18 + j, none⟩ = some u) := Lib.hid fun j u e => by
        have hj : j < 18 := by
          have := (Array.getElem?_eq_some_iff.1 e).1
          rwa [blk_size] at this
        rw [B1.out.cell (p := ⟨g, off + k * 18 + j, none⟩) hg, Nat.add_assoc, hc (k * 18 + j) (by omega), ← blk_get f k j hj]
        exact e
      obtain ⟨hp, hq⟩ := blf_co HBF.out hlt
      have HMB := Lib.hid (blf_mk HBF.out hlt)
      have HK := Lib.hid hlt
      have A18 : Hid ((blk f k).size = 18) := Lib.hid (blk_size f k)
      have AO : Hid ((blk f k).all (·.oneCell') = true) := Lib.hid (bl_one _ _ _)
      have AM : Hid (∀ j u, (M16 (mkF f k))[j]? = some u → (blk f k)[2 + j]? = some u) := Lib.hid fun j u e => bl_mask _ _ (mkF f k) j u e
      have M16S : Hid ((M16 (mkF f k)).size = 16) := Lib.hid (arr_size _ _ _)
      have ASZ : Hid ((blk f k).size = (#[Value.int .i32 0, Value.int .i32 0, Value.int .u16 0, Value.int .u16 0, Value.int .u16 0, Value.int .u16 0, Value.int .u16 0, Value.int .u16 0, Value.int .u16 0, Value.int .u16 0, Value.int .u16 0, Value.int .u16 0, Value.int .u16 0, Value.int .u16 0, Value.int .u16 0, Value.int .u16 0, Value.int .u16 0, Value.int .u16 0] : Array Value).size) := Lib.hid (A18.out.trans rfl)
      have OMK : Hid (∀ (x y : Nat), x < 16 → y < 16 → ∀ W m, CallsIn F m Try.prog 111 #[.agg (blk f k), .int .i64 (x : Int), .int .i64 (y : Int)] W fun e w' => e = .returned (.tuple #[.int .i64 (16 * f (k * 18) + x), .int .i64 (16 * f (k * 18 + 1) + y)]) ∧ Below W.heap.size W w') := Lib.hid fun x y hx hy W m => by rw [blk_eq]; exact OM.out _ _ _ hp hq x y hx hy W m
      have LB := blL_len f k
      have EN : Hid (blL f (k + 1) = blL f k ++ (cellL (mkF f k)).map (ptC f k)) := Lib.hid (by
        show blL f k ++ colL f k 16 = _
        rw [colL_map f k 16 (Nat.le_refl _)])
      have LBK : Hid ((blL f k).length ≤ 16384) := Lib.hid (by omega)
      obtain ⟨A, hA⟩ : ∃ A, blk f k = A := ⟨_, rfl⟩
      rw [hA] at HCB A18 AO AM ASZ OMK
      clear hc hg hA hp hq hlt hk LB OM
      obtain ⟨w2, hw2⟩ : ∃ x, wr.alloc (.cells #[Value.int .i32 0, Value.int .i32 0, Value.int .u16 0, Value.int .u16 0, Value.int .u16 0, Value.int .u16 0, Value.int .u16 0, Value.int .u16 0, Value.int .u16 0, Value.int .u16 0, Value.int .u16 0, Value.int .u16 0, Value.int .u16 0, Value.int .u16 0, Value.int .u16 0, Value.int .u16 0, Value.int .u16 0, Value.int .u16 0] 73) = x := ⟨_, rfl⟩
      have T2 : Hid (w2.heap[wr.heap.size]? = some (.cells #[Value.int .i32 0, Value.int .i32 0, Value.int .u16 0, Value.int .u16 0, Value.int .u16 0, Value.int .u16 0, Value.int .u16 0, Value.int .u16 0, Value.int .u16 0, Value.int .u16 0, Value.int .u16 0, Value.int .u16 0, Value.int .u16 0, Value.int .u16 0, Value.int .u16 0, Value.int .u16 0, Value.int .u16 0, Value.int .u16 0] 73 (0, 0))) := Lib.hid (by rw [← hw2]; exact World.alloc_heap_new wr _)
      obtain ⟨w3, hw3⟩ : ∃ x, w2.setRow wr.heap.size A = x := ⟨_, rfl⟩
      have S3 : Hid (w3.heap.size = wr.heap.size + 1) := Lib.hid (by rw [← hw3, ← hw2]; simp)
      have b3 : Below wr.heap.size wr w3 := by rw [← hw3, ← hw2]; exact below_setRow ((Below.refl _ _).alloc (Nat.le_refl _) _) (Nat.le_refl _) _
      have R3 : Hid (w3.heap[wr.heap.size]? = some (.cells A 73 (0, 0))) := Lib.hid (by rw [← hw3]; exact setRow_heap _ _ _ _ _ _ T2.out)
      have B3 := Lib.hid (B1.out.trans (b3.mono B1.out.size))
      have V3 : Hid (Boxed w3 w.heap.size 22 v) := Lib.hid ((b3.block _ Z1.out).trans R1.out)
      have O3 : Hid (w3.ownsRow w.heap.size 45 2 v (blL f k).length (ptsV (blL f k))) := Lib.hid (by
        have o2 := own_alloc O1.out (.cells #[Value.int .i32 0, Value.int .i32 0, Value.int .u16 0, Value.int .u16 0, Value.int .u16 0, Value.int .u16 0, Value.int .u16 0, Value.int .u16 0, Value.int .u16 0, Value.int .u16 0, Value.int .u16 0, Value.int .u16 0, Value.int .u16 0, Value.int .u16 0, Value.int .u16 0, Value.int .u16 0, Value.int .u16 0, Value.int .u16 0] 73)
        rw [hw2] at o2
        rw [← hw3]
        exact o2.kept (grownBy_setRow w2 wr.heap.size A) (own_not o2 T2.out (by decide)))
      have K3 : Hid (MarksLt w.heap.size wr.heap.size ds w3) := Lib.hid (K1.out.keeps fun D o _ hD ho _ => (b3.block D hD).trans ho)
      have HCM : Hid (∀ j u, (M16 (mkF f k))[j]? = some u → w3.cell? ⟨wr.heap.size, 2 + j, none⟩ = some u) := Lib.hid fun j u e => (Lib.cell_of_heap R3.out _).trans (AM.out j u e)
      clear b3 R1 O1 B1 K1
      gi_wp2_with (first | (refine wpListIn_load_part rfl 73 _ rfl g (off + k * 18) rfl A _ HCB.out Try.underlying73 rfl (ib_info _ A18.out) ?_) | (refine wpListIn_store_row rfl 73 _ _ rfl wr.heap.size A rfl rfl 73 _ T2.out (ib_info _ A18.out) ASZ.out.symm AO.out ?_; rw [hw3]) | (refine wpListIn_load_part rfl 71 _ rfl wr.heap.size 2 rfl (M16 (mkF f k)) _ HCM.out Try.underlying71 rfl (mask_info _ M16S.out) ?_))
      refine (MC.out _ _ _).mono ?_
      rintro e w4 ⟨rfl, rfl⟩
      gi_wp2
      have G3 : Hid ((w3.alloc (.cells (M16 (mkF f k)) 71)).heap[wr.heap.size]? = some (.cells A 73 (0, 0))) := Lib.hid ((Below.heap_alloc _ _ _ (by have := S3.out; omega)).trans R3.out)
      have G0 : Hid ((w3.alloc (.cells (M16 (mkF f k)) 71)).heap[w3.heap.size]? = some (.cells (M16 (mkF f k)) 71 (0, 0))) := Lib.hid (World.alloc_heap_new w3 _)
      have V4 : Hid (Boxed (w3.alloc (.cells (M16 (mkF f k)) 71)) w.heap.size 22 v) := Lib.hid (V3.out.alloc _)
      have O4 : Hid ((w3.alloc (.cells (M16 (mkF f k)) 71)).ownsRow w.heap.size 45 2 v (blL f k).length (ptsV (blL f k))) := Lib.hid (own_alloc O3.out _)
      have B4 : Hid (Below w.heap.size w (w3.alloc (.cells (M16 (mkF f k)) 71))) := Lib.hid (B3.out.alloc B3.out.size _)
      have K4 : Hid (MarksLt w.heap.size wr.heap.size ds (w3.alloc (.cells (M16 (mkF f k)) 71))) := Lib.hid (K3.out.keeps fun D o _ hD ho _ => (Below.heap_alloc _ _ _ (by have := S3.out; omega)).trans ho)
      have S4 : Hid ((w3.alloc (.cells (M16 (mkF f k)) 71)).heap.size = w3.heap.size + 1) := Lib.hid (by simp)
      generalize w3.alloc (.cells (M16 (mkF f k)) 71) = w4 at G3 G0 V4 O4 B4 K4 S4 ⊢
      have ZB : Hid (wr.heap.size < w4.heap.size) := Lib.hid (by have := S4.out; have := S3.out; omega)
      have ZM : Hid (w3.heap.size = wr.heap.size + 1) := S3
      obtain ⟨bm, hbm⟩ : ∃ z, w3.heap.size = z := ⟨_, rfl⟩
      rw [hbm] at G0 S4 ZM ⊢
      obtain ⟨b5, hb5⟩ : ∃ z, wr.heap.size = z := ⟨_, rfl⟩
      rw [hb5] at G3 K4 ZB ZM Z1 ⊢
      clear V3 O3 B3 K3 R3 S3 HCM T2 hw3 hw2 HCB hbm hb5 MC
      refine wpIn_rangeFunc_ownG hro hn1 (gf := 139) (lb := #[.pointer (some ⟨bm, 0, none⟩)]) rfl h2 (enters_of Try.func139 (by kernel_rfl) rfl)
        (mcells_stopsH F HF.out (N - 1) (by omega) bm (mkF f k) HMB.out w4 G0.out) KpM.trans (KpM.put (by have := S4.out; omega)) (Below.refl _ _) (fun _ => rfl)
        (fun pre W => (∃ v, Boxed W w.heap.size 22 v ∧ W.ownsRow w.heap.size 45 2 v ((blL f k).length + pre.length) (ptsV (blL f k) ++ ptsV (pre.map fun c : ClF (mkF f k) => ptC f k c.1)) ∧ True) ∧ W.heap[b5]? = some (.cells A 73 (0, 0)) ∧ W.heap[bm]? = some (.cells (M16 (mkF f k)) 71 (0, 0)) ∧ Below w.heap.size w W ∧ MarksLt w.heap.size b5 ds W)
        (fun _ _ _ => False)
        (OwnFrom.and (Own.from (holdsRow_own w.heap.size w.heap.size 22 45 2 (fun pre : List (ClF (mkF f k)) => (blL f k).length + pre.length) (fun pre : List (ClF (mkF f k)) => ptsV (blL f k) ++ ptsV (pre.map fun c : ClF (mkF f k) => ptC f k c.1)) (fun pre v => True)) _) (OwnFrom.and (Own.from (heap_own b5 73 (fun _ => A)) _) (OwnFrom.and (Own.from (heap_own bm 71 (fun _ => M16 (mkF f k))) _) (OwnFrom.and (ownFrom_below (Nat.le_refl _) (by have := ZB.out; have := Z1.out; omega)) (marksLt_from (by have := ZB.out; omega) ds)))))
        (fun c => Own.from (own_pure (fun _ => False)) _)
        ⟨⟨_, V4.out, by simpa [ptsV] using O4.out, trivial⟩, G3.out, G0.out, B4.out, K4.out⟩
        (fun c => { tmps := #[.slice (some ⟨g, off, none⟩) n cap, undef, .slice none 0 0, .pointer (some ⟨w.heap.size, 0, none⟩), u4, .pointer (some ⟨b5, 0, none⟩), .int .i64 (c.1.1.1 : Int), .int .i64 (c.1.1.2 : Int), u8, u9, .slice (some ⟨g, off, none⟩) n cap, .int .i64 (n : Int), .int .i64 (k : Int), .bool true, .pointer (some ⟨g, off + k * 18, none⟩), .agg A, .pointer (some ⟨b5, 2, none⟩), .agg (M16 (mkF f k)), .func (.func 139) #[] #[.pointer (some ⟨bm, 0, none⟩)], .int .i64 (c.1.1.1 : Int), .int .i64 (c.1.1.2 : Int), u21, u22, u23, u24, u25, u26, u27, u28, u29, u30, u31, u32, u33, u34, u35, u36, u37, u38, u39], defers := [] }) ?assign ?body ?done ?stop
      case assign =>
        intro ll x W K hK
        gi_wp2
        exact hK
      case body =>
        rintro ll pre ⟨⟨⟨x, y⟩, hx, hy⟩, hcf⟩ W ⟨⟨v, hv, hrow, -⟩, hP0, hP, hB, hM⟩ hlen
        have HB := Lib.hid hB
        have HM := Lib.hid hM
        have HP := Lib.hid hP
        have HP0 := Lib.hid hP0
        have OMx : Hid (∀ W m, CallsIn (F.inRound ll) m Try.prog 111 #[.agg A, .int .i64 (x : Int), .int .i64 (y : Int)] W fun e w' => e = .returned (.tuple #[.int .i64 (16 * f (k * 18) + x), .int .i64 (16 * f (k * 18 + 1) + y)]) ∧ Below W.heap.size W w') := Lib.hid fun W m => CallsIn.inRound ll (OMK.out x y hx hy W m)
        have F2 : (F.inRound ll).fn 111 := H2'
        have hd : 1 ≤ N - 1 - 1 := by omega
        have NB := has_col HV.out HK.out hx hy hcf
        have HLE : Hid ((blL f k).length + pre.length ≤ 1000000) := Lib.hid (by have := LBK.out; omega)
        have SN : Hid (ptsV (blL f k) ++ ptsV ((pre ++ [(⟨⟨(x, y), hx, hy⟩, hcf⟩ : ClF (mkF f k))]).map fun c : ClF (mkF f k) => ptC f k c.1) = (ptsV (blL f k) ++ ptsV (pre.map fun c : ClF (mkF f k) => ptC f k c.1)) ++ two (16 * f (k * 18) + (x : Int)) (16 * f (k * 18 + 1) + (y : Int))) := Lib.hid (by
          rw [List.map_append, List.append_assoc]
          unfold ptsV
          rw [List.flatMap_append]
          simp [ptC])
        have SL : Hid ((blL f k).length + (pre ++ [(⟨⟨(x, y), hx, hy⟩, hcf⟩ : ClF (mkF f k))]).length = ((blL f k).length + pre.length) + 1) := Lib.hid (by simp; omega)
        obtain ⟨kn, hkn⟩ : ∃ z, (blL f k).length + pre.length = z := ⟨_, rfl⟩
        obtain ⟨xs, hxs⟩ : ∃ z, ptsV (blL f k) ++ ptsV (pre.map fun c : ClF (mkF f k) => ptC f k c.1) = z := ⟨_, rfl⟩
        rw [hkn] at hrow SL HLE
        rw [hxs] at hrow SN
        obtain ⟨P, eP⟩ : ∃ z, f (k * 18) = z := ⟨_, rfl⟩
        obtain ⟨Q, eQ⟩ : ∃ z, f (k * 18 + 1) = z := ⟨_, rfl⟩
        rw [eP] at OMx NB SN
        rw [eQ] at OMx NB SN
        obtain ⟨⟨n1, n2⟩, n3, n4⟩ := NB
        obtain ⟨px, epx⟩ : ∃ z, 16 * P + (x : Int) = z := ⟨_, rfl⟩
        obtain ⟨qy, eqy⟩ : ∃ z, 16 * Q + (y : Int) = z := ⟨_, rfl⟩
        rw [epx] at OMx SN n1 n2
        rw [eqy] at OMx SN n3 n4
        have e3 : IntKind.i32.wrap px = px := by simp [IntKind.wrap, IntKind.bits, IntKind.signed]; omega
        have e4 : IntKind.i32.wrap qy = qy := by simp [IntKind.wrap, IntKind.bits, IntKind.signed]; omega
        have LE5 : Hid (w.heap.size < b5 ∧ b5 < bm) := Lib.hid (by have := Z1.out; have := ZM.out; omega)
        have OW0 := Lib.hid hrow
        have HV0 := Lib.hid hv
        clear hB hM hP hP0 hlen hkn hxs eP eQ epx eqy hrow hv
        gi_wp2_with (refine wpListIn_load_row rfl 73 _ rfl b5 rfl 73 _ _ _ HP0.out Try.underlying73 rfl (ib_info _ A18.out) ?_)
        refine (OMx.out _ _).mono ?_
        rintro e W2 ⟨rfl, b2⟩
        have L2 : ∀ k o, W.heap[k]? = some o → W2.heap[k]? = some o := fun k o h => (b2.block k (Array.getElem?_eq_some_iff.1 h).1).trans h
        have P2 := Lib.hid (L2 _ _ HP0.out)
        have hv : Boxed W2 w.heap.size 22 v := L2 _ _ HV0.out
        have M2 := Lib.hid (L2 _ _ HP.out)
        have KO : Hid (KeepsOthers W W2) := Lib.hid ⟨b2.size, fun k o h _ => L2 k o h⟩
        have hrow : W2.ownsRow w.heap.size 45 2 v kn xs := OW0.out.kept (row := none) ⟨b2.os, b2.tape, b2.output, b2.size, fun k hk _ => b2.block k hk⟩ (by cases v.ownBlock <;> simp)
        have B2 := Lib.hid (HB.out.trans (b2.mono HB.out.size))
        have SZ2 := Lib.hid b2.size
        have MK := Lib.hid ((L2 _ _ HP.out).trans HP.out.symm)
        have hc := hv.cell
        have hfz := hv.frozen
        clear b2 L2 HP0
        gi_wp2_with (gi_at_builtin; refine wpListIn_append_own _ rfl (.tmp 28) (.tmp 34) 22 rfl w.heap.size 45 i0 (.agg #[.int .i32 0, .int .i32 0]) 2 8 Try.underlying22 hi hz0 hz1 hz2 rfl (by decide) v kn xs rfl (hrow.alloc _) ⟨W2.heap.size, 0, none⟩ 1 1 (two px qy) rfl rfl (two_at _ _ _ _) (two_one _ _) (by unfold maxLen; have := HLE.out; omega) (by have := HLE.out; omega) (by have := B2.out.size; simp; omega) ?_; intro v' w9 hown' hgrow _; obtain ⟨g', cap', rfl⟩ := ownsRow_succ hown'; have hkp := kpm_append hv hrow M2.out (by decide) (by have := LE5.out; omega) hgrow (.slice (some ⟨g', 0, none⟩) (kn + 1) cap'); have hkq := kpm_append hv hrow P2.out (by decide) (by have := LE5.out; omega) hgrow (.slice (some ⟨g', 0, none⟩) (kn + 1) cap'); obtain ⟨hv2, hv3, hr3, hk3, hb3⟩ := hv.appended (by decide) hrow B2.out.size (Nat.le_refl _) hown' hgrow; have hc3 := hv2.cell; have hf3 := hv2.frozen)
        have KZ := KO.out.trans hk3
        exact ⟨KZ.from _, ⟨KZ.size, hkp.2.trans MK.out⟩, ⟨_, hv3, by rw [SN.out, SL.out]; exact ⟨hr3, trivial⟩⟩, hkq.2.trans P2.out, hkp.2.trans M2.out, B2.out.trans hb3, HM.out.keeps fun D o _ _ ho hcc => KZ.same D o ho hcc⟩
      case done =>
        rintro D ys W hD hys ⟨⟨v, hv, hrow, -⟩, hP0, hP, hB, hM⟩ hK
        have EL : (cellL (mkF f k)).map (ptC f k) = ys.map fun c : ClF (mkF f k) => ptC f k c.1 := by rw [← hys, List.map_map]; rfl
        have OX : Hid (W.ownsRow w.heap.size 45 2 v (blL f (k + 1)).length (ptsV (blL f (k + 1)))) := Lib.hid (by
          rw [EN.out, EL, List.length_append, List.length_map]
          show W.ownsRow _ _ _ _ _ ((blL f k ++ _).flatMap _)
          rw [List.flatMap_append]
          exact hrow)
        have HD : Hid (w.heap.size ≤ D) := Lib.hid (by have := ZB.out; have := Z1.out; omega)
        have MX : Hid (MarksLt w.heap.size W.heap.size (markD D :: ds) W) := Lib.hid (hM.push (by have := Z1.out; omega) (by have := ZB.out; omega) hK)
        have VX := Lib.hid hv
        have BX := Lib.hid hB
        have ZX : Hid (w.heap.size < W.heap.size) := Lib.hid (by have := (Array.getElem?_eq_some_iff.1 hK).1; have := HD.out; omega)
        clear hv hrow hP0 hP hB hM hK hys EL hD
        gi_wp2
        refine ⟨⟨k + 1, v, markD D :: ds, _, _, _, _, _, _, _, _, _, _, _, _, _, _, _, _, _, _, _, _, _, _, _, _, _, _, _, _, _, _, _, _, _, rfl, HK.out, VX, OX, BX, ZX, MX⟩, ?_⟩
        have := HK.out
        simp [intOf]
        omega
      case stop =>
        rintro D c pre W _ _ h _
        exact h.elim
    · have tk : ¬ (k : Int) < (n : Int) := by omega
      have hc := R1.out.cell
      have EK : k = n := by omega
      subst EK
      clear hlt hk
      have LL : (blL f k).length ≤ 16384 := by have := blL_len f k; omega
      have SS : Hid (∀ m, CallsIn F m Try.prog 112 #[v, .func (.func 100) #[] #[]] wr fun e w' => e = .returned (.tuple #[]) ∧ ∃ L', L'.Perm (blL f k) ∧ L'.Pairwise (fun a b => ¬ ltP b a) ∧ w'.ownsRow w.heap.size 45 2 v L'.length (ptsV L') ∧ wr.grownBy w' v.ownBlock) := Lib.hid fun m => by rw [HF.out]; exact callsIn_wide.2 (SF w.heap.size v (blL f k) wr B1.out.size LL O1.out)
      have H3' : F.fn 112 := by rw [HF.out]; trivial
      clear LL SF MC OM
      gi_wp2
      refine (SS.out _).mono ?_
      rintro e w5 ⟨rfl, L', hL1, hL2, hL3, hgr⟩
      have V5 : Boxed w5 w.heap.size 22 v := R1.out.kept hgr (R1.out.not_row (by decide) O1.out)
      have B5 : Below w.heap.size w w5 := B1.out.grown hgr B1.out.size (fun k hk => (World.ownsRow.lt O1.out k hk).1)
      have K5 : MarksLt w.heap.size wr.heap.size ds w5 := K1.out.keeps fun D o _ _ ho hno => (hgr.block D (Array.getElem?_eq_some_iff.1 ho).1 (fun e => by
        rcases O1.out.2 with ⟨rfl, _⟩ | ⟨g, cp, cur, rfl, _, hgb, _⟩
        · simp [Value.ownBlock] at e
        · obtain rfl : D = g := by simpa [Value.ownBlock] using e
          rw [ho] at hgb
          cases hgb
          cases hno)).trans ho
      have hc5 := V5.cell
      clear SS hgr V5
      gi_wp2
      obtain ⟨Ds, rfl, hnd, hD⟩ := K5
      refine leaves_marks Ds _ hnd hD (fun w' hw' => ?_)
      exact ⟨_, results_tmp rfl _ _ _, v, L', rfl, hL1, hL2, hw'.own hL3, hw'.bel (Nat.le_refl _) B5⟩
end Go.Proofs.Ythfmkejdpflpcaa
