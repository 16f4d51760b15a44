/-
  CONTRACT: MaskOf of the program.
-/
import Derived.Test.YtandgjjfiniboaaMo
namespace Go.Proofs.Ytandgjjfiniboaa
open Go.ChangeShapes Go.WideShapes Go.ChangeAt Go.RowKit
set_option maxRecDepth 20000 in
set_option maxHeartbeats 4000000 in
theorem imaskOf_any (n : Nat) (f : Nat → Int) (hf : P32 n f) (hn : n ≤ 1048576) (av : Option Addr) (cap : Nat) (w : World) (hR : PtR w.heap.size w av n f) : Calls Try.prog 18 #[.slice av n cap] w (MoPost f n w) := by
  unfold MoPost
  by_cases hT : 1024 < n
  · have tT : (1024 : Int) < (n : Int) := by omega
    have RN := ma_long (f := f) hT
    have S0 : (w.alloc (.cells (M16 zI) 26)).heap[w.heap.size]? = some (.cells (M16 zI) 26 (0, 0)) := World.alloc_heap_new w _
    have SB : Below w.heap.size w (w.alloc (.cells (M16 zI) 26)) := (Below.refl _ w).alloc (Nat.le_refl _) _
    have Z : M16 zI = #[Value.int .u16 0, Value.int .u16 0, Value.int .u16 0, Value.int .u16 0, Value.int .u16 0, Value.int .u16 0, Value.int .u16 0, Value.int .u16 0, Value.int .u16 0, Value.int .u16 0, Value.int .u16 0, Value.int .u16 0, Value.int .u16 0, Value.int .u16 0, Value.int .u16 0, Value.int .u16 0] := rfl
    have H0 := Lib.hid S0
    have HB := Lib.hid SB
    clear S0 SB hT hR
    rw [Z] at H0 HB
    clear Z
    go_enter Try.func18, Try.ntmps18
    go_wp2_with (refine wpList_store_row rfl 26 _ _ rfl w.heap.size (M16 zI) rfl rfl 26 _ H0.out (mask_info _ rfl) rfl (arr_cells _ _ _) ?_)
    refine bodyPost_ret (v := .tuple #[.agg (M16 zI), .int .i64 3]) ?_ rfl ⟨by rw [RN.1, RN.2], ?_⟩
    · exact results_cell_tmp_row Try.results18 _ _ w.heap.size _ _ _ _ rfl (setRow_heap _ _ _ _ _ _ H0.out) Try.underlying26 rfl (mask_info _ (arr_size _ _ _))
    · exact below_setRow HB.out (Nat.le_refl _) _
  · have tT : (n : Int) ≤ 1024 := by omega
    have HN := Lib.hid (show n ≤ 1024 by omega)
    have HR := Lib.hid hR
    have HF := Lib.hid hf
    have CZ : Hid (M16 (moW f 0) = #[Value.int .u16 0, Value.int .u16 0, Value.int .u16 0, Value.int .u16 0, Value.int .u16 0, Value.int .u16 0, Value.int .u16 0, Value.int .u16 0, Value.int .u16 0, Value.int .u16 0, Value.int .u16 0, Value.int .u16 0, Value.int .u16 0, Value.int .u16 0, Value.int .u16 0, Value.int .u16 0]) := Lib.hid rfl
    have MW := Lib.hid (fun k x y (hx : x < 16) (hy : y < 16) w => mwith_any (moW f k) (moW_MB f k) x y hx hy true w)
    clear hT hn hR hf
    have S1 : ((w.alloc (.cells (M16 zI) 26)).alloc (.cells (M16 zI) 26)).heap[w.heap.size + 1]? = some (.cells (M16 zI) 26 (0, 0)) := by
      have := World.alloc_heap_new (w.alloc (.cells (M16 zI) 26)) (.cells (M16 zI) 26)
      rw [World.size_alloc] at this
      exact this
    have S0 : ((w.alloc (.cells (M16 zI) 26)).alloc (.cells (M16 zI) 26)).heap[w.heap.size]? = some (.cells (M16 zI) 26 (0, 0)) := (Below.heap_alloc _ _ _ (by simp)).trans (World.alloc_heap_new w _)
    have SB : Below w.heap.size w ((w.alloc (.cells (M16 zI) 26)).alloc (.cells (M16 zI) 26)) := ((Below.refl _ w).alloc (Nat.le_refl _) _).alloc (by simp) _
    have Z : M16 zI = #[Value.int .u16 0, Value.int .u16 0, Value.int .u16 0, Value.int .u16 0, Value.int .u16 0, Value.int .u16 0, Value.int .u16 0, Value.int .u16 0, Value.int .u16 0, Value.int .u16 0, Value.int .u16 0, Value.int .u16 0, Value.int .u16 0, Value.int .u16 0, Value.int .u16 0, Value.int .u16 0] := rfl
    have H1 := Lib.hid S1
    have H0 := Lib.hid S0
    have HB := Lib.hid SB
    clear S1 S0 SB
    rw [Z] at H1 H0 HB
    clear Z
    go_enter Try.func18, Try.ntmps18
    go_wp2
    generalize ((w.alloc (.cells #[Value.int .u16 0, Value.int .u16 0, Value.int .u16 0, Value.int .u16 0, Value.int .u16 0, Value.int .u16 0, Value.int .u16 0, Value.int .u16 0, Value.int .u16 0, Value.int .u16 0, Value.int .u16 0, Value.int .u16 0, Value.int .u16 0, Value.int .u16 0, Value.int .u16 0, Value.int .u16 0] 26)).alloc (.cells #[Value.int .u16 0, Value.int .u16 0, Value.int .u16 0, Value.int .u16 0, Value.int .u16 0, Value.int .u16 0, Value.int .u16 0, Value.int .u16 0, Value.int .u16 0, Value.int .u16 0, Value.int .u16 0, Value.int .u16 0, Value.int .u16 0, Value.int .u16 0, Value.int .u16 0, Value.int .u16 0] 26)) = w1 at H1 H0 HB ⊢
    go_loopw [6, 7, 8, 15] (fun _ _ _ i wr => ∃ k : Nat, k ≤ n ∧ i = .int .i64 (k : Int) ∧ (∀ j, j < k → inC f j = true) ∧ wr.heap[w.heap.size + 1]? = some (.cells (M16 (moW f k)) 26 (0, 0)) ∧ wr.heap[w.heap.size]? = some (.cells #[Value.int .u16 0, Value.int .u16 0, Value.int .u16 0, Value.int .u16 0, Value.int .u16 0, Value.int .u16 0, Value.int .u16 0, Value.int .u16 0, Value.int .u16 0, Value.int .u16 0, Value.int .u16 0, Value.int .u16 0, Value.int .u16 0, Value.int .u16 0, Value.int .u16 0, Value.int .u16 0] 26 (0, 0)) ∧ Below w.heap.size w wr) (fun _ _ _ i _ => n - (intOf i).toNat)
    case atStart => exact ⟨0, by omega, rfl, (fun j h => absurd h (Nat.not_lt_zero _)), by rw [CZ.out]; exact H1.out, H0.out, HB.out⟩
    case round =>
      obtain ⟨k, hk, rfl, hall, h1, h0, hB⟩ := hrel
      have L1 := Lib.hid h1
      have L0 := Lib.hid h0
      have LB := Lib.hid hB
      have HA := Lib.hid hall
      clear h1 h0 hB hall H0 H1 HB
      by_cases hlt : k < n
      · have tk : (k : Int) < (n : Int) := by omega
        have HK := Lib.hid hlt
        obtain ⟨g, off, rfl, hg, hcs⟩ : ∃ g off, av = some ⟨g, off, none⟩ ∧ g < w.heap.size ∧ ∀ j, j < 2 * n → w.cell? ⟨g, off + j, none⟩ = some (.int .i32 (f j)) := by
          rcases HR.out with h | h
          · omega
          · exact h
        have g0 : wr.cell? ⟨g, off + k * 2, none⟩ = some (.int .i32 (f (k * 2))) := (LB.out.cell (p := ⟨g, off + k * 2, none⟩) hg).trans (hcs _ (by omega))
        have g1 : wr.cell? ⟨g, off + k * 2 + 1, none⟩ = some (.int .i32 (f (k * 2 + 1))) := (LB.out.cell (p := ⟨g, off + k * 2 + 1, none⟩) hg).trans (hcs (k * 2 + 1) (by omega))
        have r0 := HF.out (k * 2) (by omega)
        have r1 := HF.out (k * 2 + 1) (by omega)
        have BAD := Lib.hid (fun h : inB (f (k * 2)) (f (k * 2 + 1)) = false => ma_bad (f := f) HN.out hlt h)
        have NX : Hid (moW f (k + 1) = withF (moW f k) (f (k * 2)).toNat (f (k * 2 + 1)).toNat true) := Lib.hid rfl
        have NA : Hid (inB (f (k * 2)) (f (k * 2 + 1)) = true → ∀ j, j < k + 1 → inC f j = true) := Lib.hid fun h j hj => by
          rcases Nat.lt_or_ge j k with h' | h'
          · exact HA.out j h'
          · rw [show j = k by omega]; exact h
        have LZ : Hid (w.heap.size + 1 < wr.heap.size) := Lib.hid (Array.getElem?_eq_some_iff.1 L1.out).1
        have M1 := Lib.hid (fun x y hx hy w => MW.out k x y hx hy w)
        clear hcs hlt hk hg HA
        generalize f (k * 2) = p at g0 r0 BAD NX NA
        generalize f (k * 2 + 1) = q at g1 r1 BAD NX NA
        generalize moW f k = h at M1 NX L1
        obtain ⟨p0, p1⟩ := r0
        obtain ⟨q0, q1⟩ := r1
        have IN := Lib.hid (isIn_any p q)
        have w0 : IntKind.i64.wrap p = p := by rw [IntKind.wrap_i64]; omega
        have w1' : IntKind.i64.wrap q = q := by rw [IntKind.wrap_i64]; omega
        go_wp2
        have A1 : Hid ((wr.alloc (.cells #[.int .i32 p, .int .i32 q] 48)).heap[w.heap.size + 1]? = some (.cells (M16 h) 26 (0, 0))) := Lib.hid ((Below.heap_alloc _ _ _ LZ.out).trans L1.out)
        have A0 : Hid ((wr.alloc (.cells #[.int .i32 p, .int .i32 q] 48)).heap[w.heap.size]? = some (.cells #[Value.int .u16 0, Value.int .u16 0, Value.int .u16 0, Value.int .u16 0, Value.int .u16 0, Value.int .u16 0, Value.int .u16 0, Value.int .u16 0, Value.int .u16 0, Value.int .u16 0, Value.int .u16 0, Value.int .u16 0, Value.int .u16 0, Value.int .u16 0, Value.int .u16 0, Value.int .u16 0] 26 (0, 0))) := Lib.hid ((Below.heap_alloc _ _ _ (by have := LZ.out; omega)).trans L0.out)
        have AB : Hid (Below w.heap.size w (wr.alloc (.cells #[.int .i32 p, .int .i32 q] 48))) := Lib.hid (LB.out.alloc (by have := LZ.out; omega) _)
        have a0 : (wr.alloc (.cells #[.int .i32 p, .int .i32 q] 48)).cell? ⟨wr.heap.size, 0, none⟩ = some (.int .i32 p) := Lib.cell_of_heap (World.alloc_heap_new wr _) 0
        have a1 : (wr.alloc (.cells #[.int .i32 p, .int .i32 q] 48)).cell? ⟨wr.heap.size, 1, none⟩ = some (.int .i32 q) := Lib.cell_of_heap (World.alloc_heap_new wr _) 1
        generalize (wr.alloc (.cells #[.int .i32 p, .int .i32 q] 48)) = wA at A1 A0 AB a0 a1 ⊢
        generalize wr.heap.size = z6 at a0 a1 ⊢
        clear g0 g1 L1 L0 LB LZ
        go_quiet (fail)
        have B1 : Hid ((wA.drewN nq).heap[w.heap.size + 1]? = some (.cells (M16 h) 26 (0, 0))) := A1
        have B0 : Hid ((wA.drewN nq).heap[w.heap.size]? = some (.cells #[Value.int .u16 0, Value.int .u16 0, Value.int .u16 0, Value.int .u16 0, Value.int .u16 0, Value.int .u16 0, Value.int .u16 0, Value.int .u16 0, Value.int .u16 0, Value.int .u16 0, Value.int .u16 0, Value.int .u16 0, Value.int .u16 0, Value.int .u16 0, Value.int .u16 0, Value.int .u16 0] 26 (0, 0))) := A0
        have BB : Hid (Below w.heap.size w (wA.drewN nq)) := Lib.hid (mdrewN AB.out _)
        clear A1 A0 AB a0 a1
        generalize wA.drewN nq = w5 at B1 B0 BB ⊢
        cases hb : inB p q
        · rw [hb] at IN
          have RN := BAD.out hb
          clear BAD NX NA hb M1
          go_wp2_with (first | ((with_reducible refine (IN.out _).mono ?_); rintro e w' ⟨rfl, rfl⟩) | (refine wpList_store_row rfl 26 _ _ rfl w.heap.size (M16 zI) rfl rfl 26 _ B0.out (mask_info _ rfl) rfl (arr_cells _ _ _) ?_))
          refine bodyPost_ret (v := .tuple #[.agg (M16 zI), .int .i64 2]) ?_ rfl ⟨by rw [RN.1, RN.2], ?_⟩
          · exact results_cell_tmp_row Try.results18 _ _ w.heap.size _ _ _ _ rfl (setRow_heap _ _ _ _ _ _ B0.out) Try.underlying26 rfl (mask_info _ (arr_size _ _ _))
          · exact below_setRow BB.out (Nat.le_refl _) _
        · rw [hb] at IN
          have NB := Lib.hid (NA.out hb)
          obtain ⟨x, y, rfl, rfl, hx, hy⟩ := inB_nat hb
          simp only [Int.toNat_natCast] at NX
          have M2 := Lib.hid (M1.out x y hx hy)
          have LZ : Hid (w.heap.size + 1 < w5.heap.size) := Lib.hid (Array.getElem?_eq_some_iff.1 B1.out).1
          clear BAD NA hb M1 hx hy
          go_wp2_with (first | ((with_reducible refine (IN.out _).mono ?_); rintro e w' ⟨rfl, rfl⟩) | (refine wpList_load_row rfl 26 _ rfl (w.heap.size + 1) rfl 26 _ _ _ B1.out Try.underlying26 rfl (mask_info _ (arr_size _ _ _)) ?_))
          refine (M2.out _).mono ?_
          rintro e w7 ⟨rfl, b7⟩
          have G1 := Lib.hid ((b7.block _ LZ.out).trans B1.out)
          have G0 := Lib.hid ((b7.block w.heap.size (by have := LZ.out; omega)).trans B0.out)
          have GB := Lib.hid (BB.out.trans (b7.mono (by have := LZ.out; omega)))
          have I1 : Hid ((w7.setRow (w.heap.size + 1) (M16 (withF h x y true))).heap[w.heap.size + 1]? = some (.cells (M16 (withF h x y true)) 26 (0, 0))) := Lib.hid (setRow_heap _ _ _ _ _ _ G1.out)
          have I0 : Hid ((w7.setRow (w.heap.size + 1) (M16 (withF h x y true))).heap[w.heap.size]? = some (.cells #[Value.int .u16 0, Value.int .u16 0, Value.int .u16 0, Value.int .u16 0, Value.int .u16 0, Value.int .u16 0, Value.int .u16 0, Value.int .u16 0, Value.int .u16 0, Value.int .u16 0, Value.int .u16 0, Value.int .u16 0, Value.int .u16 0, Value.int .u16 0, Value.int .u16 0, Value.int .u16 0] 26 (0, 0))) := Lib.hid ((setRow_other _ _ _ _ (by omega)).trans G0.out)
          have IB : Hid (Below w.heap.size w (w7.setRow (w.heap.size + 1) (M16 (withF h x y true)))) := Lib.hid (below_setRow GB.out (by omega) _)
          clear b7 B1 B0 BB
          go_wp2_with (refine wpList_store_row rfl 26 _ _ rfl (w.heap.size + 1) (M16 (withF h x y true)) rfl rfl 26 _ G1.out (mask_info _ rfl) rfl (arr_cells _ _ _) ?_)
          go_roundw
          case rel => exact ⟨k + 1, HK.out, by go_num, NB.out, by rw [NX.out]; exact I1.out, I0.out, IB.out⟩
          case measure => have := HK.out; simp [intOf]; omega
      · obtain rfl : k = n := by omega
        have RN := ma_yes (f := f) (n := k) ⟨HN.out, HA.out⟩
        have ME : Hid (M16 (moW f k) = M16 (moF f k)) := Lib.hid (mo_both f k HA.out)
        rw [ME.out] at L1
        clear hlt hk HA
        go_wp2_with (first | (refine wpList_load_row rfl 26 _ rfl (w.heap.size + 1) rfl 26 _ _ _ L1.out Try.underlying26 rfl (mask_info _ (arr_size _ _ _)) ?_) | (refine wpList_store_row rfl 26 _ _ rfl w.heap.size (M16 (moF f k)) rfl rfl 26 _ L0.out (mask_info _ rfl) rfl (arr_cells _ _ _) ?_))
        refine bodyPost_ret (v := .tuple #[.agg (M16 (moF f k)), .int .i64 0]) ?_ rfl ⟨by rw [RN.1, RN.2], ?_⟩
        · exact results_cell_tmp_row Try.results18 _ _ w.heap.size _ _ _ _ rfl (setRow_heap _ _ _ _ _ _ L0.out) Try.underlying26 rfl (mask_info _ (arr_size _ _ _))
        · exact below_setRow LB.out (Nat.le_refl _) _
end Go.Proofs.Ytandgjjfiniboaa
