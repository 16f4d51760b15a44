/-
  CONTRACT: ReadMask of the specification.
-/
import Derived.Test.YtfnaddpohkbbnaaRk
namespace Go.Proofs.Ytfnaddpohkbbnaa
open Go.ChangeShapes Go.WideShapes Go.ChangeAt Go.RowKit
set_option maxRecDepth 20000 in
set_option maxHeartbeats 4000000 in
theorem sreadMask_any (T : ByteArray) (w : World) : Calls Try.prog 15 #[.string T] w (RmPost T w) := by
  unfold RmPost
  have S1 : ((w.alloc (.cells (M16 zI) 24)).alloc (.cells (M16 zI) 24)).heap[w.heap.size + 1]? = some (.cells (M16 zI) 24 (0, 0)) := by
    have := World.alloc_heap_new (w.alloc (.cells (M16 zI) 24)) (.cells (M16 zI) 24)
    rw [World.size_alloc] at this
    exact this
  have S0 : ((w.alloc (.cells (M16 zI) 24)).alloc (.cells (M16 zI) 24)).heap[w.heap.size]? = some (.cells (M16 zI) 24 (0, 0)) := (Below.heap_alloc _ _ _ (by simp)).trans (World.alloc_heap_new w _)
  have SB : Below w.heap.size w ((w.alloc (.cells (M16 zI) 24)).alloc (.cells (M16 zI) 24)) := ((Below.refl _ w).alloc (Nat.le_refl _) _).alloc (by simp) _
  have Z : M16 zI = #[Value.int .u16 0, Value.int .u16 0, Value.int .u16 0, Value.int .u16 0, Value.int .u16 0, Value.int .u16 0, Value.int .u16 0, Value.int .u16 0, Value.int .u16 0, Value.int .u16 0, Value.int .u16 0, Value.int .u16 0, Value.int .u16 0, Value.int .u16 0, Value.int .u16 0, Value.int .u16 0] := rfl
  have H1 := Lib.hid S1
  have H0 := Lib.hid S0
  have HB := Lib.hid SB
  clear S1 S0 SB
  rw [Z] at H1 H0 HB
  obtain ⟨W1, hW1⟩ : ∃ W1, ((w.alloc (.cells #[Value.int .u16 0, Value.int .u16 0, Value.int .u16 0, Value.int .u16 0, Value.int .u16 0, Value.int .u16 0, Value.int .u16 0, Value.int .u16 0, Value.int .u16 0, Value.int .u16 0, Value.int .u16 0, Value.int .u16 0, Value.int .u16 0, Value.int .u16 0, Value.int .u16 0, Value.int .u16 0] 24)).alloc (.cells #[Value.int .u16 0, Value.int .u16 0, Value.int .u16 0, Value.int .u16 0, Value.int .u16 0, Value.int .u16 0, Value.int .u16 0, Value.int .u16 0, Value.int .u16 0, Value.int .u16 0, Value.int .u16 0, Value.int .u16 0, Value.int .u16 0, Value.int .u16 0, Value.int .u16 0, Value.int .u16 0] 24)).setRow (w.heap.size + 1) (M16 zI) = W1 := ⟨_, rfl⟩
  have K1 : Hid (W1.heap[w.heap.size + 1]? = some (.cells (M16 zI) 24 (0, 0))) := Lib.hid (by rw [← hW1]; exact setRow_heap _ _ _ _ _ _ H1.out)
  have K0 : Hid (W1.heap[w.heap.size]? = some (.cells #[Value.int .u16 0, Value.int .u16 0, Value.int .u16 0, Value.int .u16 0, Value.int .u16 0, Value.int .u16 0, Value.int .u16 0, Value.int .u16 0, Value.int .u16 0, Value.int .u16 0, Value.int .u16 0, Value.int .u16 0, Value.int .u16 0, Value.int .u16 0, Value.int .u16 0, Value.int .u16 0] 24 (0, 0))) := Lib.hid (by rw [← hW1, setRow_other _ _ _ _ (by omega)]; exact H0.out)
  have KB : Hid (Below w.heap.size w W1) := Lib.hid (by rw [← hW1]; exact below_setRow HB.out (by omega) _)
  clear Z H0 HB
  by_cases hT : T.size = 272
  · have tT : ((T.size : Int) != 272) = false := by simp; omega
    have RA := Lib.hid (fun x y (hx : x < 16) (hy : y < 16) => rd_at T hT (x := x) (y := y) hx hy)
    have TS := Lib.hid (fun w => smaskText_any (rdF T) (mkF_MB _ _) w)
    have RY := Lib.hid (fun h : txB (rdF T) = T => rm_yes (T := T) ⟨hT, h⟩)
    have RN := Lib.hid (fun h : txB (rdF T) ≠ T => rm_no (T := T) (fun h' => h h'.2))
    unfold TmPost at TS
    clear hT
    go_enter Try.func15, Try.ntmps15
    go_wp2_with (refine wpList_store_row rfl 24 _ _ rfl (w.heap.size + 1) (M16 zI) rfl rfl 24 _ H1.out (mask_info _ rfl) rfl (arr_cells _ _ _) ?_; rw [hW1])
    clear hW1 H1
    go_loopw [5] (fun i wr => ∃ k : Nat, k ≤ 256 ∧ i = .int .i64 (k : Int) ∧ wr.heap[w.heap.size + 1]? = some (.cells (M16 (mkF (rdB T) k)) 24 (0, 0)) ∧ wr.heap[w.heap.size]? = some (.cells #[Value.int .u16 0, Value.int .u16 0, Value.int .u16 0, Value.int .u16 0, Value.int .u16 0, Value.int .u16 0, Value.int .u16 0, Value.int .u16 0, Value.int .u16 0, Value.int .u16 0, Value.int .u16 0, Value.int .u16 0, Value.int .u16 0, Value.int .u16 0, Value.int .u16 0, Value.int .u16 0] 24 (0, 0)) ∧ Below w.heap.size w wr) (fun i _ => 256 - (intOf i).toNat)
    case atStart => exact ⟨0, by omega, rfl, K1.out, K0.out, KB.out⟩
    case round =>
      obtain ⟨k, hk, rfl, h1, h0, hB⟩ := hrel
      have L1 := Lib.hid h1
      have L0 := Lib.hid h0
      have LB := Lib.hid hB
      clear h1 h0 hB K0 K1 KB
      by_cases hlt : k < 256
      · have tk : (k : Int) < 256 := by omega
        obtain ⟨x, y, hx, hy, hxy⟩ : ∃ x y, x < 16 ∧ y < 16 ∧ k = 16 * y + x := ⟨k % 16, k / 16, by omega, by omega, by omega⟩
        have q1 : (k : Int) / 16 = (y : Int) := by omega
        have q2 : (k : Int) % 16 = (x : Int) := by omega
        have HK := Lib.hid hlt
        obtain ⟨c, hix, hcB, -⟩ := RA.out x y hx hy
        rw [← hxy] at hcB
        have hy' : (y : Int) < 16 := by omega
        have hx' : (x : Int) < 16 := by omega
        have hcy : wr.cell? ⟨w.heap.size + 1, y, none⟩ = some (.int .u16 (mkF (rdB T) k y)) := (Lib.cell_of_heap L1.out y).trans (arr_get _ _ _ _ hy)
        have hfy : wr.frozen? ⟨w.heap.size + 1, y, none⟩ = false := Lib.frozen_of_heap L1.out y
        have MS := shl1 hx
        have NY : Hid (rdB T k = true → mkF (rdB T) (k + 1) = setF (mkF (rdB T) k) x y) := Lib.hid (fun h => by rw [hxy] at h ⊢; exact mkF_yes hx h)
        have NN : Hid (rdB T k = false → mkF (rdB T) (k + 1) = mkF (rdB T) k) := Lib.hid (fun h => mkF_no h)
        have HY := Lib.hid hy
        have HX := Lib.hid hx
        clear hlt hk hxy hx hy
        generalize rdB T k = b at hcB NY NN
        cases b
        · have NX := Lib.hid (NN.out rfl)
          clear NY NN
          go_wp2
          go_roundw
          case rel => exact ⟨k + 1, HK.out, by go_num, by rw [NX.out]; exact L1.out, L0.out, LB.out⟩
          case measure => have := HK.out; simp [intOf]; omega
        · have NX := Lib.hid (NY.out rfl)
          clear NY NN
          go_wp2
          go_roundw
          case rel => exact ⟨k + 1, HK.out, by go_num, by rw [NX.out]; exact (mset_at L1.out y _).trans (by rw [arr_set _ _ _ _ _ HY.out]; rfl), (mset_far (by omega) _).trans L0.out, LB.out.setCell (p := ⟨w.heap.size + 1, y, none⟩) (by simp) _⟩
          case measure => have := HK.out; simp [intOf]; omega
      · obtain rfl : k = 256 := by omega
        clear hlt hk
        have L1' : Hid (wr.heap[w.heap.size + 1]? = some (.cells (M16 (rdF T)) 24 (0, 0))) := L1
        have LZ : Hid (w.heap.size + 1 < wr.heap.size) := Lib.hid (Array.getElem?_eq_some_iff.1 L1.out).1
        clear L1 RA
        generalize rdF T = g at L1' TS RY RN
        go_wp2_with (refine wpList_load_row rfl 24 _ rfl (w.heap.size + 1) rfl 24 _ _ _ L1'.out Try.underlying24 rfl (mask_info _ (arr_size _ _ _)) ?_)
        refine (TS.out _).mono ?_
        rintro e w2 ⟨rfl, b2⟩
        have G1 := Lib.hid ((b2.block _ LZ.out).trans L1'.out)
        have G0 := Lib.hid ((b2.block w.heap.size (by have := LZ.out; omega)).trans L0.out)
        have GB := Lib.hid (LB.out.trans (b2.mono (by have := LZ.out; omega)))
        clear b2 L1' L0 LB
        by_cases h : txB g = T
        · rw [h]
          have RZ := Lib.hid (RY.out h)
          clear h RY RN TS
          go_wp2_with (first | (refine wpList_load_row rfl 24 _ rfl (w.heap.size + 1) rfl 24 _ _ _ G1.out Try.underlying24 rfl (mask_info _ (arr_size _ _ _)) ?_) | (refine wpList_store_row rfl 24 _ _ rfl w.heap.size (M16 g) rfl rfl 24 _ G0.out (mask_info _ rfl) rfl (arr_cells _ _ _) ?_))
          refine bodyPost_ret (v := .tuple #[.agg (M16 g), .int .i64 0]) ?_ rfl ⟨by rw [RZ.out.1, RZ.out.2], ?_⟩
          · exact results_cell_tmp_row Try.results15 _ _ w.heap.size _ _ _ _ rfl (setRow_heap _ _ _ _ _ _ G0.out) Try.underlying24 rfl (mask_info _ (arr_size _ _ _))
          · exact below_setRow GB.out (by omega) _
        · have RZ := Lib.hid (RN.out h)
          have hne := texts_ne h
          have hne2 : (!((txB g).toList == T.toList)) = true := by rw [hne]; rfl
          clear RY RN TS
          generalize txB g = U at h hne hne2
          go_wp2_with (refine wpList_store_row rfl 24 _ _ rfl w.heap.size (M16 zI) rfl rfl 24 _ G0.out (mask_info _ rfl) rfl (arr_cells _ _ _) ?_)
          refine bodyPost_ret (v := .tuple #[.agg (M16 zI), .int .i64 5]) ?_ rfl ⟨by rw [RZ.out.1, RZ.out.2], ?_⟩
          · exact results_cell_tmp_row Try.results15 _ _ w.heap.size _ _ _ _ rfl (setRow_heap _ _ _ _ _ _ G0.out) Try.underlying24 rfl (mask_info _ rfl)
          · exact below_setRow GB.out (by omega) _
  · have tT : ((T.size : Int) != 272) = true := by simp; omega
    have RN := Lib.hid (rm_no (T := T) (fun h => hT h.1))
    clear hT
    go_enter Try.func15, Try.ntmps15
    go_wp2_with (first | (refine wpList_store_row rfl 24 _ _ rfl (w.heap.size + 1) (M16 zI) rfl rfl 24 _ H1.out (mask_info _ rfl) rfl (arr_cells _ _ _) ?_; rw [hW1]) | (refine wpList_load_row rfl 24 _ rfl (w.heap.size + 1) rfl 24 _ _ _ K1.out Try.underlying24 rfl (mask_info _ (arr_size _ _ _)) ?_) | (refine wpList_store_row rfl 24 _ _ rfl w.heap.size (M16 zI) rfl rfl 24 _ K0.out (mask_info _ rfl) rfl (arr_cells _ _ _) ?_))
    refine bodyPost_ret (v := .tuple #[.agg (M16 zI), .int .i64 5]) ?_ rfl ⟨by rw [RN.out.1, RN.out.2], ?_⟩
    · exact results_cell_tmp_row Try.results15 _ _ w.heap.size _ _ _ _ rfl (setRow_heap _ _ _ _ _ _ K0.out) Try.underlying24 rfl (mask_info _ rfl)
    · exact below_setRow KB.out (by omega) _
end Go.Proofs.Ytfnaddpohkbbnaa
