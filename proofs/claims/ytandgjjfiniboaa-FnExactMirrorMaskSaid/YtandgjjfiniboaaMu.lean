/-
  CONTRACTS: l07Moved of the specification at the three moves.
-/
import Derived.Test.YtandgjjfiniboaaMm
namespace Go.Proofs.Ytandgjjfiniboaa
open Go.ChangeShapes Go.WideShapes Go.ChangeAt Go.RowKit Go.Shelf
def turnV (x y : Nat) : Int × Int := (15 - (y : Int), (x : Int))
def mirV (x y : Nat) : Int × Int := (15 - (x : Int), (y : Int))
def shV (dx dy : Int) (x y : Nat) : Int × Int := ((x : Int) + dx, (y : Int) + dy)
set_option maxRecDepth 100000 in
set_option maxHeartbeats 8000000 in
theorem l07Moved_turn (g : Nat) (f : Nat → Int) (hf : MB f) (w : World) (hg : w.heap[g]? = some (.cells (M16 f) 26 (0, 0))) :
    Calls Try.prog 60 #[.pointer (some ⟨g, 0, none⟩), .agg #[Value.int .i64 (0), Value.int .i64 (-1), Value.int .i64 (15), Value.int .i64 (1), Value.int .i64 (0), Value.int .i64 (0)]] w fun e w' => e = .returned (.agg (M16 (mvF false turnV (cellL f)))) ∧ Below w.heap.size w w' := by
  have hgl : g < w.heap.size := (Array.getElem?_eq_some_iff.1 hg).1
  have Z : M16 zI = #[Value.int .u16 0, Value.int .u16 0, Value.int .u16 0, Value.int .u16 0, Value.int .u16 0, Value.int .u16 0, Value.int .u16 0, Value.int .u16 0, Value.int .u16 0, Value.int .u16 0, Value.int .u16 0, Value.int .u16 0, Value.int .u16 0, Value.int .u16 0, Value.int .u16 0, Value.int .u16 0] := rfl
  have S0 : (((w.alloc (.cells #[Value.int .i64 (0), Value.int .i64 (-1), Value.int .i64 (15), Value.int .i64 (1), Value.int .i64 (0), Value.int .i64 (0)] 64)).alloc (.cells (M16 zI) 26)).alloc (.cells (M16 zI) 26)).heap[w.heap.size]? = some (.cells #[Value.int .i64 (0), Value.int .i64 (-1), Value.int .i64 (15), Value.int .i64 (1), Value.int .i64 (0), Value.int .i64 (0)] 64 (0, 0)) :=
    (Below.heap_alloc _ _ _ (by first | (simp; done) | (simp; omega))).trans ((Below.heap_alloc _ _ _ (by simp)).trans (World.alloc_heap_new w _))
  have S1 : (((w.alloc (.cells #[Value.int .i64 (0), Value.int .i64 (-1), Value.int .i64 (15), Value.int .i64 (1), Value.int .i64 (0), Value.int .i64 (0)] 64)).alloc (.cells (M16 zI) 26)).alloc (.cells (M16 zI) 26)).heap[w.heap.size + 1]? = some (.cells (M16 zI) 26 (0, 0)) := by
    refine (Below.heap_alloc _ _ _ (by simp)).trans ?_
    have := World.alloc_heap_new (w.alloc (.cells #[Value.int .i64 (0), Value.int .i64 (-1), Value.int .i64 (15), Value.int .i64 (1), Value.int .i64 (0), Value.int .i64 (0)] 64)) (.cells (M16 zI) 26)
    rw [World.size_alloc] at this
    exact this
  have S2 : (((w.alloc (.cells #[Value.int .i64 (0), Value.int .i64 (-1), Value.int .i64 (15), Value.int .i64 (1), Value.int .i64 (0), Value.int .i64 (0)] 64)).alloc (.cells (M16 zI) 26)).alloc (.cells (M16 zI) 26)).heap[w.heap.size + 1 + 1]? = some (.cells (M16 zI) 26 (0, 0)) := by
    have := World.alloc_heap_new ((w.alloc (.cells #[Value.int .i64 (0), Value.int .i64 (-1), Value.int .i64 (15), Value.int .i64 (1), Value.int .i64 (0), Value.int .i64 (0)] 64)).alloc (.cells (M16 zI) 26)) (.cells (M16 zI) 26)
    rw [World.size_alloc, World.size_alloc] at this
    exact this
  have SB : Below w.heap.size w (((w.alloc (.cells #[Value.int .i64 (0), Value.int .i64 (-1), Value.int .i64 (15), Value.int .i64 (1), Value.int .i64 (0), Value.int .i64 (0)] 64)).alloc (.cells (M16 zI) 26)).alloc (.cells (M16 zI) 26)) := (((Below.refl _ w).alloc (Nat.le_refl _) _).alloc (by simp) _).alloc (by first | (simp; done) | (simp; omega)) _
  have H0 := Lib.hid S0
  have H1 := Lib.hid S1
  have H2 := Lib.hid S2
  have HB := Lib.hid SB
  have HG := Lib.hid hg
  have HF := Lib.hid hf
  have HGL := Lib.hid hgl
  clear S0 S1 S2 SB hf hg
  rw [Z] at H0 H1 H2 HB
  go_enter Try.func60, Try.ntmps60
  clear Z
  go_wp2
  generalize ((w.alloc (.cells #[Value.int .i64 (0), Value.int .i64 (-1), Value.int .i64 (15), Value.int .i64 (1), Value.int .i64 (0), Value.int .i64 (0)] 64)).alloc (.cells #[Value.int .u16 0, Value.int .u16 0, Value.int .u16 0, Value.int .u16 0, Value.int .u16 0, Value.int .u16 0, Value.int .u16 0, Value.int .u16 0, Value.int .u16 0, Value.int .u16 0, Value.int .u16 0, Value.int .u16 0, Value.int .u16 0, Value.int .u16 0, Value.int .u16 0, Value.int .u16 0] 26)).alloc (.cells #[Value.int .u16 0, Value.int .u16 0, Value.int .u16 0, Value.int .u16 0, Value.int .u16 0, Value.int .u16 0, Value.int .u16 0, Value.int .u16 0, Value.int .u16 0, Value.int .u16 0, Value.int .u16 0, Value.int .u16 0, Value.int .u16 0, Value.int .u16 0, Value.int .u16 0, Value.int .u16 0] 26) = w1 at H0 H1 H2 HB ⊢
  have CZ : Hid (mvF false turnV (cellK f 0) = zI) := Lib.hid rfl
  go_loopw [6] (fun i wr => ∃ y : Nat, y ≤ 16 ∧ i = .int .i64 (y : Int) ∧ wr.heap[w.heap.size + 1 + 1]? = some (.cells (M16 (mvF false turnV (cellK f (16 * y)))) 26 (0, 0)) ∧ wr.heap[w.heap.size + 1]? = some (.cells #[Value.int .u16 0, Value.int .u16 0, Value.int .u16 0, Value.int .u16 0, Value.int .u16 0, Value.int .u16 0, Value.int .u16 0, Value.int .u16 0, Value.int .u16 0, Value.int .u16 0, Value.int .u16 0, Value.int .u16 0, Value.int .u16 0, Value.int .u16 0, Value.int .u16 0, Value.int .u16 0] 26 (0, 0)) ∧ wr.heap[w.heap.size]? = some (.cells #[Value.int .i64 (0), Value.int .i64 (-1), Value.int .i64 (15), Value.int .i64 (1), Value.int .i64 (0), Value.int .i64 (0)] 64 (0, 0)) ∧ Below w.heap.size w wr) (fun i _ => 16 - (intOf i).toNat)
  case atStart => exact ⟨0, by omega, rfl, by rw [CZ.out]; exact H2.out, H1.out, H0.out, HB.out⟩
  case round =>
    obtain ⟨y, hy, rfl, h2, h1, h0, hB⟩ := hrel
    have K2 := Lib.hid h2
    have K1 := Lib.hid h1
    have K0 := Lib.hid h0
    have KB := Lib.hid hB
    clear h2 h1 h0 hB H0 H1 H2 HB
    by_cases hlt : y < 16
    · have ty : (y : Int) < 16 := by omega
      have HY := Lib.hid hlt
      clear hlt hy
      go_wp2
      go_loopw [7] (fun i w2 => ∃ x : Nat, x ≤ 16 ∧ i = .int .i64 (x : Int) ∧ w2.heap[w.heap.size + 1 + 1]? = some (.cells (M16 (mvF false turnV (cellK f (16 * y + x)))) 26 (0, 0)) ∧ w2.heap[w.heap.size + 1]? = some (.cells #[Value.int .u16 0, Value.int .u16 0, Value.int .u16 0, Value.int .u16 0, Value.int .u16 0, Value.int .u16 0, Value.int .u16 0, Value.int .u16 0, Value.int .u16 0, Value.int .u16 0, Value.int .u16 0, Value.int .u16 0, Value.int .u16 0, Value.int .u16 0, Value.int .u16 0, Value.int .u16 0] 26 (0, 0)) ∧ w2.heap[w.heap.size]? = some (.cells #[Value.int .i64 (0), Value.int .i64 (-1), Value.int .i64 (15), Value.int .i64 (1), Value.int .i64 (0), Value.int .i64 (0)] 64 (0, 0)) ∧ Below w.heap.size w w2) (fun i _ => 16 - (intOf i).toNat)
      case atStart => exact ⟨0, by omega, rfl, K2.out, K1.out, K0.out, KB.out⟩
      case round =>
        obtain ⟨x, hx, rfl, h2, h1, h0, hB⟩ := hrel
        have L2 := Lib.hid h2
        have L1 := Lib.hid h1
        have L0 := Lib.hid h0
        have LB := Lib.hid hB
        clear h2 h1 h0 hB K2 K1 K0 KB
        by_cases hlx : x < 16
        · have tx : (x : Int) < 16 := by omega
          have HX := Lib.hid hlx
          have m0 : wr.cell? ⟨w.heap.size, 0, none⟩ = some (.int .i64 (0)) := Lib.cell_of_heap L0.out 0
          have m1 : wr.cell? ⟨w.heap.size, 1, none⟩ = some (.int .i64 (-1)) := Lib.cell_of_heap L0.out 1
          have m2 : wr.cell? ⟨w.heap.size, 2, none⟩ = some (.int .i64 (15)) := Lib.cell_of_heap L0.out 2
          have m3 : wr.cell? ⟨w.heap.size, 3, none⟩ = some (.int .i64 (1)) := Lib.cell_of_heap L0.out 3
          have m4 : wr.cell? ⟨w.heap.size, 4, none⟩ = some (.int .i64 (0)) := Lib.cell_of_heap L0.out 4
          have m5 : wr.cell? ⟨w.heap.size, 5, none⟩ = some (.int .i64 (0)) := Lib.cell_of_heap L0.out 5
          have MH := Lib.hid (l07Has_any g f HF.out x y hlx HY.out wr (by
            have := (LB.out.block g HGL.out).trans HG.out
            exact (Lib.cell_of_heap this y).trans (arr_get _ _ _ _ HY.out)))
          obtain ⟨u, hu⟩ : ∃ u : Int, 15 - (y : Int) = u := ⟨_, rfl⟩
          have huv : turnV x y = (u, (x : Int)) := by rw [← hu]; rfl
          have MI := l07In_any u (x : Int)
          cases hc : hasF f x y
          · have NX := Lib.hid (cellK_no hlx HY.out hc)
            rw [hc] at MH
            clear hc hlx hx huv MI hu u
            go_wp2_with ((with_reducible refine MH.out.mono ?_); rintro e w' ⟨rfl, rfl⟩)
            go_roundw
            case rel => exact ⟨x + 1, HX.out, by go_num, by rw [← Nat.add_assoc, NX.out]; exact L2.out, L1.out, L0.out, LB.out⟩
            case measure => have := HX.out; simp [intOf]; omega
          · have NX0 : mvF false turnV (cellK f (16 * y + x + 1)) = mvS false turnV (mvF false turnV (cellK f (16 * y + x))) ⟨(x, y), hlx, HY.out⟩ := by rw [cellK_yes hlx HY.out hc, mvF_snoc]
            have N1 : inB u (x : Int) = false → mvF false turnV (cellK f (16 * y + x + 1)) = mvF false turnV (cellK f (16 * y + x)) := fun h => by rw [NX0]; unfold mvS; rw [huv, if_neg (by rw [h]; simp)]
            have N2 : inB u (x : Int) = true → mvF false turnV (cellK f (16 * y + x + 1)) = setF (mvF false turnV (cellK f (16 * y + x))) u.toNat ((x : Int)).toNat := fun h => by rw [NX0]; unfold mvS; rw [huv, if_pos h, if_neg (by simp)]
            have MG := mvF_MB false turnV (cellK f (16 * y + x))
            have HN1 := Lib.hid N1
            have HN2 := Lib.hid N2
            have HMI := Lib.hid MI
            have HU := Lib.hid hu
            have HMG := Lib.hid MG
            clear NX0 N1 N2 MI hu huv MG
            rw [hc] at MH
            clear hc hlx hx
            go_wp2_with ((with_reducible refine MH.out.mono ?_); rintro e w' ⟨rfl, rfl⟩)
            have eu : -(y : Int) + 15 = u := by have := HU.out; omega
            rw [eu]
            clear eu
            clear HU
            cases hin : inB u (x : Int)
            · have NX := Lib.hid (HN1.out hin)
              rw [hin] at HMI
              clear hin HN1 HN2
              refine (HMI.out _).mono ?_
              rintro e w' ⟨rfl, rfl⟩
              clear MH HMI
              go_wp2
              go_roundw
              case rel => exact ⟨x + 1, HX.out, by go_num, by rw [← Nat.add_assoc, NX.out]; exact L2.out, L1.out, L0.out, LB.out⟩
              case measure => have := HX.out; simp [intOf]; omega
            · obtain ⟨a, b, rfl, hbv, ha, hb⟩ := inB_nat hin
              obtain rfl : x = b := by omega
              clear hbv
              have NX := Lib.hid (HN2.out hin)
              rw [Int.toNat_natCast, Int.toNat_natCast] at NX
              rw [hin] at HMI
              clear hin HN1 HN2
              refine (HMI.out _).mono ?_
              rintro e w' ⟨rfl, rfl⟩
              clear MH HMI
              have HBB := Lib.hid hb
              have W1 := pow16 ha
              have ha' : (a : Int) ≤ 16 := by omega
              have hb' : (x : Int) < 16 := by omega
              clear ha hb
              generalize mvF false turnV (cellK f (16 * y + x)) = g' at L2 NX HMG
              have cb : wr.cell? ⟨w.heap.size + 1 + 1, x, none⟩ = some (.int .u16 (g' x)) := (Lib.cell_of_heap L2.out x).trans (arr_get _ _ _ _ HBB.out)
              have fb : wr.frozen? ⟨w.heap.size + 1 + 1, x, none⟩ = false := Lib.frozen_of_heap L2.out x
              clear m0 m1 m2 m3 m4 m5
              go_wp2
              go_roundw
              case rel => exact ⟨x + 1, HX.out, by go_num, by rw [← Nat.add_assoc, NX.out, mset_at L2.out, arr_set _ _ _ _ _ HBB.out]; rfl, by rw [mset_far (by omega)]; exact L1.out, by rw [mset_far (by omega)]; exact L0.out, LB.out.setCell (p := ⟨w.heap.size + 1 + 1, _, none⟩) (by simp; omega) _⟩
              case measure => have := HX.out; simp [intOf]; omega
        · obtain rfl : x = 16 := by omega
          clear hlx hx
          go_wp2
          go_roundw
          case rel => exact ⟨y + 1, HY.out, by go_num, by rw [show 16 * (y + 1) = 16 * y + 16 by omega]; exact L2.out, L1.out, L0.out, LB.out⟩
          case measure => have := HY.out; simp [intOf]; omega
    · obtain rfl : y = 16 := by omega
      clear hlt hy
      go_wp2_with (first | (refine wpList_load_row rfl 26 _ rfl (w.heap.size + 1 + 1) rfl 26 _ _ _ K2.out Try.underlying26 rfl (mask_info _ (arr_size _ _ _)) ?_) | (refine wpList_store_row rfl 26 _ _ rfl (w.heap.size + 1) (M16 (mvF false turnV (cellL f))) rfl rfl 26 _ K1.out (mask_info _ rfl) (by rw [arr_size]; rfl) (arr_cells _ _ _) ?_))
      refine bodyPost_ret (v := .agg (M16 (mvF false turnV (cellL f)))) ?_ rfl ⟨rfl, ?_⟩
      · exact results_cell_row Try.results60 _ _ (w.heap.size + 1) _ _ _ _ rfl (setRow_heap _ _ _ _ _ _ K1.out) Try.underlying26 rfl (mask_info _ (arr_size _ _ _))
      · exact below_setRow KB.out (by omega) _
set_option maxRecDepth 100000 in
set_option maxHeartbeats 8000000 in
theorem l07Moved_mir (g : Nat) (f : Nat → Int) (hf : MB f) (w : World) (hg : w.heap[g]? = some (.cells (M16 f) 26 (0, 0))) :
    Calls Try.prog 60 #[.pointer (some ⟨g, 0, none⟩), .agg #[Value.int .i64 (-1), Value.int .i64 (0), Value.int .i64 (15), Value.int .i64 (0), Value.int .i64 (1), Value.int .i64 (0)]] w fun e w' => e = .returned (.agg (M16 (mvF false mirV (cellL f)))) ∧ Below w.heap.size w w' := by
  have hgl : g < w.heap.size := (Array.getElem?_eq_some_iff.1 hg).1
  have Z : M16 zI = #[Value.int .u16 0, Value.int .u16 0, Value.int .u16 0, Value.int .u16 0, Value.int .u16 0, Value.int .u16 0, Value.int .u16 0, Value.int .u16 0, Value.int .u16 0, Value.int .u16 0, Value.int .u16 0, Value.int .u16 0, Value.int .u16 0, Value.int .u16 0, Value.int .u16 0, Value.int .u16 0] := rfl
  have S0 : (((w.alloc (.cells #[Value.int .i64 (-1), Value.int .i64 (0), Value.int .i64 (15), Value.int .i64 (0), Value.int .i64 (1), Value.int .i64 (0)] 64)).alloc (.cells (M16 zI) 26)).alloc (.cells (M16 zI) 26)).heap[w.heap.size]? = some (.cells #[Value.int .i64 (-1), Value.int .i64 (0), Value.int .i64 (15), Value.int .i64 (0), Value.int .i64 (1), Value.int .i64 (0)] 64 (0, 0)) :=
    (Below.heap_alloc _ _ _ (by first | (simp; done) | (simp; omega))).trans ((Below.heap_alloc _ _ _ (by simp)).trans (World.alloc_heap_new w _))
  have S1 : (((w.alloc (.cells #[Value.int .i64 (-1), Value.int .i64 (0), Value.int .i64 (15), Value.int .i64 (0), Value.int .i64 (1), Value.int .i64 (0)] 64)).alloc (.cells (M16 zI) 26)).alloc (.cells (M16 zI) 26)).heap[w.heap.size + 1]? = some (.cells (M16 zI) 26 (0, 0)) := by
    refine (Below.heap_alloc _ _ _ (by simp)).trans ?_
    have := World.alloc_heap_new (w.alloc (.cells #[Value.int .i64 (-1), Value.int .i64 (0), Value.int .i64 (15), Value.int .i64 (0), Value.int .i64 (1), Value.int .i64 (0)] 64)) (.cells (M16 zI) 26)
    rw [World.size_alloc] at this
    exact this
  have S2 : (((w.alloc (.cells #[Value.int .i64 (-1), Value.int .i64 (0), Value.int .i64 (15), Value.int .i64 (0), Value.int .i64 (1), Value.int .i64 (0)] 64)).alloc (.cells (M16 zI) 26)).alloc (.cells (M16 zI) 26)).heap[w.heap.size + 1 + 1]? = some (.cells (M16 zI) 26 (0, 0)) := by
    have := World.alloc_heap_new ((w.alloc (.cells #[Value.int .i64 (-1), Value.int .i64 (0), Value.int .i64 (15), Value.int .i64 (0), Value.int .i64 (1), Value.int .i64 (0)] 64)).alloc (.cells (M16 zI) 26)) (.cells (M16 zI) 26)
    rw [World.size_alloc, World.size_alloc] at this
    exact this
  have SB : Below w.heap.size w (((w.alloc (.cells #[Value.int .i64 (-1), Value.int .i64 (0), Value.int .i64 (15), Value.int .i64 (0), Value.int .i64 (1), Value.int .i64 (0)] 64)).alloc (.cells (M16 zI) 26)).alloc (.cells (M16 zI) 26)) := (((Below.refl _ w).alloc (Nat.le_refl _) _).alloc (by simp) _).alloc (by first | (simp; done) | (simp; omega)) _
  have H0 := Lib.hid S0
  have H1 := Lib.hid S1
  have H2 := Lib.hid S2
  have HB := Lib.hid SB
  have HG := Lib.hid hg
  have HF := Lib.hid hf
  have HGL := Lib.hid hgl
  clear S0 S1 S2 SB hf hg
  rw [Z] at H0 H1 H2 HB
  go_enter Try.func60, Try.ntmps60
  clear Z
  go_wp2
  generalize ((w.alloc (.cells #[Value.int .i64 (-1), Value.int .i64 (0), Value.int .i64 (15), Value.int .i64 (0), Value.int .i64 (1), Value.int .i64 (0)] 64)).alloc (.cells #[Value.int .u16 0, Value.int .u16 0, Value.int .u16 0, Value.int .u16 0, Value.int .u16 0, Value.int .u16 0, Value.int .u16 0, Value.int .u16 0, Value.int .u16 0, Value.int .u16 0, Value.int .u16 0, Value.int .u16 0, Value.int .u16 0, Value.int .u16 0, Value.int .u16 0, Value.int .u16 0] 26)).alloc (.cells #[Value.int .u16 0, Value.int .u16 0, Value.int .u16 0, Value.int .u16 0, Value.int .u16 0, Value.int .u16 0, Value.int .u16 0, Value.int .u16 0, Value.int .u16 0, Value.int .u16 0, Value.int .u16 0, Value.int .u16 0, Value.int .u16 0, Value.int .u16 0, Value.int .u16 0, Value.int .u16 0] 26) = w1 at H0 H1 H2 HB ⊢
  have CZ : Hid (mvF false mirV (cellK f 0) = zI) := Lib.hid rfl
  go_loopw [6] (fun i wr => ∃ y : Nat, y ≤ 16 ∧ i = .int .i64 (y : Int) ∧ wr.heap[w.heap.size + 1 + 1]? = some (.cells (M16 (mvF false mirV (cellK f (16 * y)))) 26 (0, 0)) ∧ wr.heap[w.heap.size + 1]? = some (.cells #[Value.int .u16 0, Value.int .u16 0, Value.int .u16 0, Value.int .u16 0, Value.int .u16 0, Value.int .u16 0, Value.int .u16 0, Value.int .u16 0, Value.int .u16 0, Value.int .u16 0, Value.int .u16 0, Value.int .u16 0, Value.int .u16 0, Value.int .u16 0, Value.int .u16 0, Value.int .u16 0] 26 (0, 0)) ∧ wr.heap[w.heap.size]? = some (.cells #[Value.int .i64 (-1), Value.int .i64 (0), Value.int .i64 (15), Value.int .i64 (0), Value.int .i64 (1), Value.int .i64 (0)] 64 (0, 0)) ∧ Below w.heap.size w wr) (fun i _ => 16 - (intOf i).toNat)
  case atStart => exact ⟨0, by omega, rfl, by rw [CZ.out]; exact H2.out, H1.out, H0.out, HB.out⟩
  case round =>
    obtain ⟨y, hy, rfl, h2, h1, h0, hB⟩ := hrel
    have K2 := Lib.hid h2
    have K1 := Lib.hid h1
    have K0 := Lib.hid h0
    have KB := Lib.hid hB
    clear h2 h1 h0 hB H0 H1 H2 HB
    by_cases hlt : y < 16
    · have ty : (y : Int) < 16 := by omega
      have HY := Lib.hid hlt
      clear hlt hy
      go_wp2
      go_loopw [7] (fun i w2 => ∃ x : Nat, x ≤ 16 ∧ i = .int .i64 (x : Int) ∧ w2.heap[w.heap.size + 1 + 1]? = some (.cells (M16 (mvF false mirV (cellK f (16 * y + x)))) 26 (0, 0)) ∧ w2.heap[w.heap.size + 1]? = some (.cells #[Value.int .u16 0, Value.int .u16 0, Value.int .u16 0, Value.int .u16 0, Value.int .u16 0, Value.int .u16 0, Value.int .u16 0, Value.int .u16 0, Value.int .u16 0, Value.int .u16 0, Value.int .u16 0, Value.int .u16 0, Value.int .u16 0, Value.int .u16 0, Value.int .u16 0, Value.int .u16 0] 26 (0, 0)) ∧ w2.heap[w.heap.size]? = some (.cells #[Value.int .i64 (-1), Value.int .i64 (0), Value.int .i64 (15), Value.int .i64 (0), Value.int .i64 (1), Value.int .i64 (0)] 64 (0, 0)) ∧ Below w.heap.size w w2) (fun i _ => 16 - (intOf i).toNat)
      case atStart => exact ⟨0, by omega, rfl, K2.out, K1.out, K0.out, KB.out⟩
      case round =>
        obtain ⟨x, hx, rfl, h2, h1, h0, hB⟩ := hrel
        have L2 := Lib.hid h2
        have L1 := Lib.hid h1
        have L0 := Lib.hid h0
        have LB := Lib.hid hB
        clear h2 h1 h0 hB K2 K1 K0 KB
        by_cases hlx : x < 16
        · have tx : (x : Int) < 16 := by omega
          have HX := Lib.hid hlx
          have m0 : wr.cell? ⟨w.heap.size, 0, none⟩ = some (.int .i64 (-1)) := Lib.cell_of_heap L0.out 0
          have m1 : wr.cell? ⟨w.heap.size, 1, none⟩ = some (.int .i64 (0)) := Lib.cell_of_heap L0.out 1
          have m2 : wr.cell? ⟨w.heap.size, 2, none⟩ = some (.int .i64 (15)) := Lib.cell_of_heap L0.out 2
          have m3 : wr.cell? ⟨w.heap.size, 3, none⟩ = some (.int .i64 (0)) := Lib.cell_of_heap L0.out 3
          have m4 : wr.cell? ⟨w.heap.size, 4, none⟩ = some (.int .i64 (1)) := Lib.cell_of_heap L0.out 4
          have m5 : wr.cell? ⟨w.heap.size, 5, none⟩ = some (.int .i64 (0)) := Lib.cell_of_heap L0.out 5
          have MH := Lib.hid (l07Has_any g f HF.out x y hlx HY.out wr (by
            have := (LB.out.block g HGL.out).trans HG.out
            exact (Lib.cell_of_heap this y).trans (arr_get _ _ _ _ HY.out)))
          obtain ⟨u, hu⟩ : ∃ u : Int, 15 - (x : Int) = u := ⟨_, rfl⟩
          have huv : mirV x y = (u, (y : Int)) := by rw [← hu]; rfl
          have MI := l07In_any u (y : Int)
          cases hc : hasF f x y
          · have NX := Lib.hid (cellK_no hlx HY.out hc)
            rw [hc] at MH
            clear hc hlx hx huv MI hu u
            go_wp2_with ((with_reducible refine MH.out.mono ?_); rintro e w' ⟨rfl, rfl⟩)
            go_roundw
            case rel => exact ⟨x + 1, HX.out, by go_num, by rw [← Nat.add_assoc, NX.out]; exact L2.out, L1.out, L0.out, LB.out⟩
            case measure => have := HX.out; simp [intOf]; omega
          · have NX0 : mvF false mirV (cellK f (16 * y + x + 1)) = mvS false mirV (mvF false mirV (cellK f (16 * y + x))) ⟨(x, y), hlx, HY.out⟩ := by rw [cellK_yes hlx HY.out hc, mvF_snoc]
            have N1 : inB u (y : Int) = false → mvF false mirV (cellK f (16 * y + x + 1)) = mvF false mirV (cellK f (16 * y + x)) := fun h => by rw [NX0]; unfold mvS; rw [huv, if_neg (by rw [h]; simp)]
            have N2 : inB u (y : Int) = true → mvF false mirV (cellK f (16 * y + x + 1)) = setF (mvF false mirV (cellK f (16 * y + x))) u.toNat ((y : Int)).toNat := fun h => by rw [NX0]; unfold mvS; rw [huv, if_pos h, if_neg (by simp)]
            have MG := mvF_MB false mirV (cellK f (16 * y + x))
            have HN1 := Lib.hid N1
            have HN2 := Lib.hid N2
            have HMI := Lib.hid MI
            have HU := Lib.hid hu
            have HMG := Lib.hid MG
            clear NX0 N1 N2 MI hu huv MG
            rw [hc] at MH
            clear hc hlx hx
            go_wp2_with ((with_reducible refine MH.out.mono ?_); rintro e w' ⟨rfl, rfl⟩)
            have eu : -(x : Int) + 15 = u := by have := HU.out; omega
            rw [eu]
            clear eu
            clear HU
            cases hin : inB u (y : Int)
            · have NX := Lib.hid (HN1.out hin)
              rw [hin] at HMI
              clear hin HN1 HN2
              refine (HMI.out _).mono ?_
              rintro e w' ⟨rfl, rfl⟩
              clear MH HMI
              go_wp2
              go_roundw
              case rel => exact ⟨x + 1, HX.out, by go_num, by rw [← Nat.add_assoc, NX.out]; exact L2.out, L1.out, L0.out, LB.out⟩
              case measure => have := HX.out; simp [intOf]; omega
            · obtain ⟨a, b, rfl, hbv, ha, hb⟩ := inB_nat hin
              obtain rfl : y = b := by omega
              clear hbv
              have NX := Lib.hid (HN2.out hin)
              rw [Int.toNat_natCast, Int.toNat_natCast] at NX
              rw [hin] at HMI
              clear hin HN1 HN2
              refine (HMI.out _).mono ?_
              rintro e w' ⟨rfl, rfl⟩
              clear MH HMI
              have HBB := Lib.hid hb
              have W1 := pow16 ha
              have ha' : (a : Int) ≤ 16 := by omega
              have hb' : (y : Int) < 16 := by omega
              clear ha hb
              generalize mvF false mirV (cellK f (16 * y + x)) = g' at L2 NX HMG
              have cb : wr.cell? ⟨w.heap.size + 1 + 1, y, none⟩ = some (.int .u16 (g' y)) := (Lib.cell_of_heap L2.out y).trans (arr_get _ _ _ _ HBB.out)
              have fb : wr.frozen? ⟨w.heap.size + 1 + 1, y, none⟩ = false := Lib.frozen_of_heap L2.out y
              clear m0 m1 m2 m3 m4 m5
              go_wp2
              go_roundw
              case rel => exact ⟨x + 1, HX.out, by go_num, by rw [← Nat.add_assoc, NX.out, mset_at L2.out, arr_set _ _ _ _ _ HBB.out]; rfl, by rw [mset_far (by omega)]; exact L1.out, by rw [mset_far (by omega)]; exact L0.out, LB.out.setCell (p := ⟨w.heap.size + 1 + 1, _, none⟩) (by simp; omega) _⟩
              case measure => have := HX.out; simp [intOf]; omega
        · obtain rfl : x = 16 := by omega
          clear hlx hx
          go_wp2
          go_roundw
          case rel => exact ⟨y + 1, HY.out, by go_num, by rw [show 16 * (y + 1) = 16 * y + 16 by omega]; exact L2.out, L1.out, L0.out, LB.out⟩
          case measure => have := HY.out; simp [intOf]; omega
    · obtain rfl : y = 16 := by omega
      clear hlt hy
      go_wp2_with (first | (refine wpList_load_row rfl 26 _ rfl (w.heap.size + 1 + 1) rfl 26 _ _ _ K2.out Try.underlying26 rfl (mask_info _ (arr_size _ _ _)) ?_) | (refine wpList_store_row rfl 26 _ _ rfl (w.heap.size + 1) (M16 (mvF false mirV (cellL f))) rfl rfl 26 _ K1.out (mask_info _ rfl) (by rw [arr_size]; rfl) (arr_cells _ _ _) ?_))
      refine bodyPost_ret (v := .agg (M16 (mvF false mirV (cellL f)))) ?_ rfl ⟨rfl, ?_⟩
      · exact results_cell_row Try.results60 _ _ (w.heap.size + 1) _ _ _ _ rfl (setRow_heap _ _ _ _ _ _ K1.out) Try.underlying26 rfl (mask_info _ (arr_size _ _ _))
      · exact below_setRow KB.out (by omega) _
set_option maxRecDepth 100000 in
set_option maxHeartbeats 8000000 in
theorem l07Moved_sh (dx dy : Int) (hdx : -16 ≤ dx ∧ dx ≤ 16) (hdy : -16 ≤ dy ∧ dy ≤ 16) (g : Nat) (f : Nat → Int) (hf : MB f) (w : World) (hg : w.heap[g]? = some (.cells (M16 f) 26 (0, 0))) :
    Calls Try.prog 60 #[.pointer (some ⟨g, 0, none⟩), .agg #[Value.int .i64 (1), Value.int .i64 (0), Value.int .i64 (dx), Value.int .i64 (0), Value.int .i64 (1), Value.int .i64 (dy)]] w fun e w' => e = .returned (.agg (M16 (mvF false (shV dx dy) (cellL f)))) ∧ Below w.heap.size w w' := by
  obtain ⟨dx0, dx1⟩ := hdx
  obtain ⟨dy0, dy1⟩ := hdy
  have hgl : g < w.heap.size := (Array.getElem?_eq_some_iff.1 hg).1
  have Z : M16 zI = #[Value.int .u16 0, Value.int .u16 0, Value.int .u16 0, Value.int .u16 0, Value.int .u16 0, Value.int .u16 0, Value.int .u16 0, Value.int .u16 0, Value.int .u16 0, Value.int .u16 0, Value.int .u16 0, Value.int .u16 0, Value.int .u16 0, Value.int .u16 0, Value.int .u16 0, Value.int .u16 0] := rfl
  have S0 : (((w.alloc (.cells #[Value.int .i64 (1), Value.int .i64 (0), Value.int .i64 (dx), Value.int .i64 (0), Value.int .i64 (1), Value.int .i64 (dy)] 64)).alloc (.cells (M16 zI) 26)).alloc (.cells (M16 zI) 26)).heap[w.heap.size]? = some (.cells #[Value.int .i64 (1), Value.int .i64 (0), Value.int .i64 (dx), Value.int .i64 (0), Value.int .i64 (1), Value.int .i64 (dy)] 64 (0, 0)) :=
    (Below.heap_alloc _ _ _ (by first | (simp; done) | (simp; omega))).trans ((Below.heap_alloc _ _ _ (by simp)).trans (World.alloc_heap_new w _))
  have S1 : (((w.alloc (.cells #[Value.int .i64 (1), Value.int .i64 (0), Value.int .i64 (dx), Value.int .i64 (0), Value.int .i64 (1), Value.int .i64 (dy)] 64)).alloc (.cells (M16 zI) 26)).alloc (.cells (M16 zI) 26)).heap[w.heap.size + 1]? = some (.cells (M16 zI) 26 (0, 0)) := by
    refine (Below.heap_alloc _ _ _ (by simp)).trans ?_
    have := World.alloc_heap_new (w.alloc (.cells #[Value.int .i64 (1), Value.int .i64 (0), Value.int .i64 (dx), Value.int .i64 (0), Value.int .i64 (1), Value.int .i64 (dy)] 64)) (.cells (M16 zI) 26)
    rw [World.size_alloc] at this
    exact this
  have S2 : (((w.alloc (.cells #[Value.int .i64 (1), Value.int .i64 (0), Value.int .i64 (dx), Value.int .i64 (0), Value.int .i64 (1), Value.int .i64 (dy)] 64)).alloc (.cells (M16 zI) 26)).alloc (.cells (M16 zI) 26)).heap[w.heap.size + 1 + 1]? = some (.cells (M16 zI) 26 (0, 0)) := by
    have := World.alloc_heap_new ((w.alloc (.cells #[Value.int .i64 (1), Value.int .i64 (0), Value.int .i64 (dx), Value.int .i64 (0), Value.int .i64 (1), Value.int .i64 (dy)] 64)).alloc (.cells (M16 zI) 26)) (.cells (M16 zI) 26)
    rw [World.size_alloc, World.size_alloc] at this
    exact this
  have SB : Below w.heap.size w (((w.alloc (.cells #[Value.int .i64 (1), Value.int .i64 (0), Value.int .i64 (dx), Value.int .i64 (0), Value.int .i64 (1), Value.int .i64 (dy)] 64)).alloc (.cells (M16 zI) 26)).alloc (.cells (M16 zI) 26)) := (((Below.refl _ w).alloc (Nat.le_refl _) _).alloc (by simp) _).alloc (by first | (simp; done) | (simp; omega)) _
  have H0 := Lib.hid S0
  have H1 := Lib.hid S1
  have H2 := Lib.hid S2
  have HB := Lib.hid SB
  have HG := Lib.hid hg
  have HF := Lib.hid hf
  have HGL := Lib.hid hgl
  clear S0 S1 S2 SB hf hg
  rw [Z] at H0 H1 H2 HB
  go_enter Try.func60, Try.ntmps60
  clear Z
  go_wp2
  generalize ((w.alloc (.cells #[Value.int .i64 (1), Value.int .i64 (0), Value.int .i64 (dx), Value.int .i64 (0), Value.int .i64 (1), Value.int .i64 (dy)] 64)).alloc (.cells #[Value.int .u16 0, Value.int .u16 0, Value.int .u16 0, Value.int .u16 0, Value.int .u16 0, Value.int .u16 0, Value.int .u16 0, Value.int .u16 0, Value.int .u16 0, Value.int .u16 0, Value.int .u16 0, Value.int .u16 0, Value.int .u16 0, Value.int .u16 0, Value.int .u16 0, Value.int .u16 0] 26)).alloc (.cells #[Value.int .u16 0, Value.int .u16 0, Value.int .u16 0, Value.int .u16 0, Value.int .u16 0, Value.int .u16 0, Value.int .u16 0, Value.int .u16 0, Value.int .u16 0, Value.int .u16 0, Value.int .u16 0, Value.int .u16 0, Value.int .u16 0, Value.int .u16 0, Value.int .u16 0, Value.int .u16 0] 26) = w1 at H0 H1 H2 HB ⊢
  have CZ : Hid (mvF false (shV dx dy) (cellK f 0) = zI) := Lib.hid rfl
  go_loopw [6] (fun i wr => ∃ y : Nat, y ≤ 16 ∧ i = .int .i64 (y : Int) ∧ wr.heap[w.heap.size + 1 + 1]? = some (.cells (M16 (mvF false (shV dx dy) (cellK f (16 * y)))) 26 (0, 0)) ∧ wr.heap[w.heap.size + 1]? = some (.cells #[Value.int .u16 0, Value.int .u16 0, Value.int .u16 0, Value.int .u16 0, Value.int .u16 0, Value.int .u16 0, Value.int .u16 0, Value.int .u16 0, Value.int .u16 0, Value.int .u16 0, Value.int .u16 0, Value.int .u16 0, Value.int .u16 0, Value.int .u16 0, Value.int .u16 0, Value.int .u16 0] 26 (0, 0)) ∧ wr.heap[w.heap.size]? = some (.cells #[Value.int .i64 (1), Value.int .i64 (0), Value.int .i64 (dx), Value.int .i64 (0), Value.int .i64 (1), Value.int .i64 (dy)] 64 (0, 0)) ∧ Below w.heap.size w wr) (fun i _ => 16 - (intOf i).toNat)
  case atStart => exact ⟨0, by omega, rfl, by rw [CZ.out]; exact H2.out, H1.out, H0.out, HB.out⟩
  case round =>
    obtain ⟨y, hy, rfl, h2, h1, h0, hB⟩ := hrel
    have K2 := Lib.hid h2
    have K1 := Lib.hid h1
    have K0 := Lib.hid h0
    have KB := Lib.hid hB
    clear h2 h1 h0 hB H0 H1 H2 HB
    by_cases hlt : y < 16
    · have ty : (y : Int) < 16 := by omega
      have HY := Lib.hid hlt
      clear hlt hy
      go_wp2
      go_loopw [7] (fun i w2 => ∃ x : Nat, x ≤ 16 ∧ i = .int .i64 (x : Int) ∧ w2.heap[w.heap.size + 1 + 1]? = some (.cells (M16 (mvF false (shV dx dy) (cellK f (16 * y + x)))) 26 (0, 0)) ∧ w2.heap[w.heap.size + 1]? = some (.cells #[Value.int .u16 0, Value.int .u16 0, Value.int .u16 0, Value.int .u16 0, Value.int .u16 0, Value.int .u16 0, Value.int .u16 0, Value.int .u16 0, Value.int .u16 0, Value.int .u16 0, Value.int .u16 0, Value.int .u16 0, Value.int .u16 0, Value.int .u16 0, Value.int .u16 0, Value.int .u16 0] 26 (0, 0)) ∧ w2.heap[w.heap.size]? = some (.cells #[Value.int .i64 (1), Value.int .i64 (0), Value.int .i64 (dx), Value.int .i64 (0), Value.int .i64 (1), Value.int .i64 (dy)] 64 (0, 0)) ∧ Below w.heap.size w w2) (fun i _ => 16 - (intOf i).toNat)
      case atStart => exact ⟨0, by omega, rfl, K2.out, K1.out, K0.out, KB.out⟩
      case round =>
        obtain ⟨x, hx, rfl, h2, h1, h0, hB⟩ := hrel
        have L2 := Lib.hid h2
        have L1 := Lib.hid h1
        have L0 := Lib.hid h0
        have LB := Lib.hid hB
        clear h2 h1 h0 hB K2 K1 K0 KB
        by_cases hlx : x < 16
        · have tx : (x : Int) < 16 := by omega
          have HX := Lib.hid hlx
          have m0 : wr.cell? ⟨w.heap.size, 0, none⟩ = some (.int .i64 (1)) := Lib.cell_of_heap L0.out 0
          have m1 : wr.cell? ⟨w.heap.size, 1, none⟩ = some (.int .i64 (0)) := Lib.cell_of_heap L0.out 1
          have m2 : wr.cell? ⟨w.heap.size, 2, none⟩ = some (.int .i64 (dx)) := Lib.cell_of_heap L0.out 2
          have m3 : wr.cell? ⟨w.heap.size, 3, none⟩ = some (.int .i64 (0)) := Lib.cell_of_heap L0.out 3
          have m4 : wr.cell? ⟨w.heap.size, 4, none⟩ = some (.int .i64 (1)) := Lib.cell_of_heap L0.out 4
          have m5 : wr.cell? ⟨w.heap.size, 5, none⟩ = some (.int .i64 (dy)) := Lib.cell_of_heap L0.out 5
          have MH := Lib.hid (l07Has_any g f HF.out x y hlx HY.out wr (by
            have := (LB.out.block g HGL.out).trans HG.out
            exact (Lib.cell_of_heap this y).trans (arr_get _ _ _ _ HY.out)))
          obtain ⟨u, hu⟩ : ∃ u : Int, (x : Int) + dx = u := ⟨_, rfl⟩
          obtain ⟨v, hv⟩ : ∃ v : Int, (y : Int) + dy = v := ⟨_, rfl⟩
          have huv : (shV dx dy) x y = (u, v) := by rw [← hu, ← hv]; rfl
          have MI := l07In_any u v
          cases hc : hasF f x y
          · have NX := Lib.hid (cellK_no hlx HY.out hc)
            rw [hc] at MH
            clear hc hlx hx huv MI hu hv u v
            go_wp2_with ((with_reducible refine MH.out.mono ?_); rintro e w' ⟨rfl, rfl⟩)
            go_roundw
            case rel => exact ⟨x + 1, HX.out, by go_num, by rw [← Nat.add_assoc, NX.out]; exact L2.out, L1.out, L0.out, LB.out⟩
            case measure => have := HX.out; simp [intOf]; omega
          · have NX0 : mvF false (shV dx dy) (cellK f (16 * y + x + 1)) = mvS false (shV dx dy) (mvF false (shV dx dy) (cellK f (16 * y + x))) ⟨(x, y), hlx, HY.out⟩ := by rw [cellK_yes hlx HY.out hc, mvF_snoc]
            have N1 : inB u v = false → mvF false (shV dx dy) (cellK f (16 * y + x + 1)) = mvF false (shV dx dy) (cellK f (16 * y + x)) := fun h => by rw [NX0]; unfold mvS; rw [huv, if_neg (by rw [h]; simp)]
            have N2 : inB u v = true → mvF false (shV dx dy) (cellK f (16 * y + x + 1)) = setF (mvF false (shV dx dy) (cellK f (16 * y + x))) u.toNat (v).toNat := fun h => by rw [NX0]; unfold mvS; rw [huv, if_pos h, if_neg (by simp)]
            have MG := mvF_MB false (shV dx dy) (cellK f (16 * y + x))
            have HN1 := Lib.hid N1
            have HN2 := Lib.hid N2
            have HMI := Lib.hid MI
            have HU := Lib.hid hu
            have HV := Lib.hid hv
            have HMG := Lib.hid MG
            clear NX0 N1 N2 MI hu hv huv MG
            rw [hc] at MH
            clear hc hlx hx
            go_wp2_with ((with_reducible refine MH.out.mono ?_); rintro e w' ⟨rfl, rfl⟩)
            rw [HU.out, HV.out]
            clear HU HV
            cases hin : inB u v
            · have NX := Lib.hid (HN1.out hin)
              rw [hin] at HMI
              clear hin HN1 HN2
              refine (HMI.out _).mono ?_
              rintro e w' ⟨rfl, rfl⟩
              clear MH HMI
              go_wp2
              go_roundw
              case rel => exact ⟨x + 1, HX.out, by go_num, by rw [← Nat.add_assoc, NX.out]; exact L2.out, L1.out, L0.out, LB.out⟩
              case measure => have := HX.out; simp [intOf]; omega
            · obtain ⟨a, b, rfl, rfl, ha, hb⟩ := inB_nat hin
              have NX := Lib.hid (HN2.out hin)
              rw [Int.toNat_natCast, Int.toNat_natCast] at NX
              rw [hin] at HMI
              clear hin HN1 HN2
              refine (HMI.out _).mono ?_
              rintro e w' ⟨rfl, rfl⟩
              clear MH HMI
              have HBB := Lib.hid hb
              have W1 := pow16 ha
              have ha' : (a : Int) ≤ 16 := by omega
              have hb' : (b : Int) < 16 := by omega
              clear ha hb
              generalize mvF false (shV dx dy) (cellK f (16 * y + x)) = g' at L2 NX HMG
              have cb : wr.cell? ⟨w.heap.size + 1 + 1, b, none⟩ = some (.int .u16 (g' b)) := (Lib.cell_of_heap L2.out b).trans (arr_get _ _ _ _ HBB.out)
              have fb : wr.frozen? ⟨w.heap.size + 1 + 1, b, none⟩ = false := Lib.frozen_of_heap L2.out b
              clear m0 m1 m2 m3 m4 m5
              go_wp2
              go_roundw
              case rel => exact ⟨x + 1, HX.out, by go_num, by rw [← Nat.add_assoc, NX.out, mset_at L2.out, arr_set _ _ _ _ _ HBB.out]; rfl, by rw [mset_far (by omega)]; exact L1.out, by rw [mset_far (by omega)]; exact L0.out, LB.out.setCell (p := ⟨w.heap.size + 1 + 1, _, none⟩) (by simp; omega) _⟩
              case measure => have := HX.out; simp [intOf]; omega
        · obtain rfl : x = 16 := by omega
          clear hlx hx
          go_wp2
          go_roundw
          case rel => exact ⟨y + 1, HY.out, by go_num, by rw [show 16 * (y + 1) = 16 * y + 16 by omega]; exact L2.out, L1.out, L0.out, LB.out⟩
          case measure => have := HY.out; simp [intOf]; omega
    · obtain rfl : y = 16 := by omega
      clear hlt hy
      go_wp2_with (first | (refine wpList_load_row rfl 26 _ rfl (w.heap.size + 1 + 1) rfl 26 _ _ _ K2.out Try.underlying26 rfl (mask_info _ (arr_size _ _ _)) ?_) | (refine wpList_store_row rfl 26 _ _ rfl (w.heap.size + 1) (M16 (mvF false (shV dx dy) (cellL f))) rfl rfl 26 _ K1.out (mask_info _ rfl) (by rw [arr_size]; rfl) (arr_cells _ _ _) ?_))
      refine bodyPost_ret (v := .agg (M16 (mvF false (shV dx dy) (cellL f)))) ?_ rfl ⟨rfl, ?_⟩
      · exact results_cell_row Try.results60 _ _ (w.heap.size + 1) _ _ _ _ rfl (setRow_heap _ _ _ _ _ _ K1.out) Try.underlying26 rfl (mask_info _ (arr_size _ _ _))
      · exact below_setRow KB.out (by omega) _
end Go.Proofs.Ytandgjjfiniboaa
