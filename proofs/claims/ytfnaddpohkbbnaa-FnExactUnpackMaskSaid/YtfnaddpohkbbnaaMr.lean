/-
  CONTRACT: the program's maskOfRow.
-/
import Derived.Test.YtfnaddpohkbbnaaRk
namespace Go.Proofs.Ytfnaddpohkbbnaa
open Go.ChangeShapes Go.WideShapes Go.ChangeAt Go.RowKit
set_option maxRecDepth 20000 in
set_option maxHeartbeats 4000000 in
theorem maskOfRow_any (q : Nat → Bool) (g cap : Nat) (w : World) (hg : g < w.heap.size) (hc : ∀ i, i < 256 → w.cell? ⟨g, i, none⟩ = some (.bool (q i))) :
    Calls Try.prog 58 #[.slice (some ⟨g, 0, none⟩) 256 cap] w fun e w' => e = .returned (.agg (M16 (mkW q 256))) ∧ Below w.heap.size w w' := by
  have S1 : ((w.alloc (.cells (M16 zI) 24)).alloc (.cells (M16 zI) 24)).heap[w.heap.size + 1]? = some (.cells (M16 zI) 24 (0, 0)) := by
    have := World.alloc_heap_new (w.alloc (.cells (M16 zI) 24)) (.cells (M16 zI) 24)
    rw [World.size_alloc] at this
    exact this
  have S0 : ((w.alloc (.cells (M16 zI) 24)).alloc (.cells (M16 zI) 24)).heap[w.heap.size]? = some (.cells (M16 zI) 24 (0, 0)) := (Below.heap_alloc _ _ _ (by simp)).trans (World.alloc_heap_new w _)
  have SB : Below w.heap.size w ((w.alloc (.cells (M16 zI) 24)).alloc (.cells (M16 zI) 24)) := ((Below.refl _ w).alloc (Nat.le_refl _) _).alloc (by simp) _
  have Z : M16 zI = #[Value.int .u16 0, Value.int .u16 0, Value.int .u16 0, Value.int .u16 0, Value.int .u16 0, Value.int .u16 0, Value.int .u16 0, Value.int .u16 0, Value.int .u16 0, Value.int .u16 0, Value.int .u16 0, Value.int .u16 0, Value.int .u16 0, Value.int .u16 0, Value.int .u16 0, Value.int .u16 0] := rfl
  have H1 := Lib.hid S1
  have H0 := Lib.hid S0
  have HB := Lib.hid SB
  have HG := Lib.hid hg
  have HC := Lib.hid hc
  have MW := Lib.hid (fun k x y (hx : x < 16) (hy : y < 16) on w => mwith_any (mkW q k) (mkW_MB q k) x y hx hy on w)
  have CZ : Hid (M16 (mkW q 0) = #[Value.int .u16 0, Value.int .u16 0, Value.int .u16 0, Value.int .u16 0, Value.int .u16 0, Value.int .u16 0, Value.int .u16 0, Value.int .u16 0, Value.int .u16 0, Value.int .u16 0, Value.int .u16 0, Value.int .u16 0, Value.int .u16 0, Value.int .u16 0, Value.int .u16 0, Value.int .u16 0]) := Lib.hid rfl
  clear S1 S0 SB hg hc
  rw [Z] at H1 H0 HB
  clear Z
  go_enter Try.func58, Try.ntmps58
  go_wp2
  generalize ((w.alloc (.cells #[Value.int .u16 0, Value.int .u16 0, Value.int .u16 0, Value.int .u16 0, Value.int .u16 0, Value.int .u16 0, Value.int .u16 0, Value.int .u16 0, Value.int .u16 0, Value.int .u16 0, Value.int .u16 0, Value.int .u16 0, Value.int .u16 0, Value.int .u16 0, Value.int .u16 0, Value.int .u16 0] 24)).alloc (.cells #[Value.int .u16 0, Value.int .u16 0, Value.int .u16 0, Value.int .u16 0, Value.int .u16 0, Value.int .u16 0, Value.int .u16 0, Value.int .u16 0, Value.int .u16 0, Value.int .u16 0, Value.int .u16 0, Value.int .u16 0, Value.int .u16 0, Value.int .u16 0, Value.int .u16 0, Value.int .u16 0] 24)) = w1 at H1 H0 HB ⊢
  go_loopw [4, 5, 8] (fun _ _ i wr => ∃ k : Nat, k ≤ 256 ∧ i = .int .i64 (k : Int) ∧ wr.heap[w.heap.size + 1]? = some (.cells (M16 (mkW q k)) 24 (0, 0)) ∧ wr.heap[w.heap.size]? = some (.cells #[Value.int .u16 0, Value.int .u16 0, Value.int .u16 0, Value.int .u16 0, Value.int .u16 0, Value.int .u16 0, Value.int .u16 0, Value.int .u16 0, Value.int .u16 0, Value.int .u16 0, Value.int .u16 0, Value.int .u16 0, Value.int .u16 0, Value.int .u16 0, Value.int .u16 0, Value.int .u16 0] 24 (0, 0)) ∧ Below w.heap.size w wr) (fun _ _ i _ => 256 - (intOf i).toNat)
  case atStart => exact ⟨0, by omega, rfl, by rw [CZ.out]; exact H1.out, H0.out, HB.out⟩
  case round =>
    obtain ⟨k, hk, rfl, h1, h0, hB⟩ := hrel
    have L1 := Lib.hid h1
    have L0 := Lib.hid h0
    have LB := Lib.hid hB
    clear h1 h0 hB H1 H0 HB
    by_cases hlt : k < 256
    · have tk : (k : Int) < 256 := by omega
      obtain ⟨x, y, hx, hy, hxy⟩ : ∃ x y, x < 16 ∧ y < 16 ∧ k = 16 * y + x := ⟨k % 16, k / 16, by omega, by omega, by omega⟩
      have q1 : (k : Int) / 16 = (y : Int) := by omega
      have q2 : (k : Int) % 16 = (x : Int) := by omega
      have HK := Lib.hid hlt
      have cx : wr.cell? ⟨g, k, none⟩ = some (.bool (q k)) := (LB.out.cell (p := ⟨g, k, none⟩) HG.out).trans (HC.out k hlt)
      have M1 := Lib.hid (fun on w => MW.out k x y hx hy on w)
      have NX : Hid (∀ b, b = q k → mkW q (k + 1) = withF (mkW q k) x y b) := Lib.hid (by rintro b rfl; show withF (mkW q k) (k % 16) (k / 16) (q k) = _; rw [show k % 16 = x by omega, show k / 16 = y by omega])
      have LZ : Hid (w.heap.size + 1 < wr.heap.size) := Lib.hid (Array.getElem?_eq_some_iff.1 L1.out).1
      clear hlt hk hxy hx hy
      obtain ⟨b, hb⟩ : ∃ b, q k = b := ⟨_, rfl⟩
      have NY := Lib.hid (NX.out b hb.symm)
      rw [hb] at cx
      clear hb NX
      obtain ⟨f, hf⟩ : ∃ f, mkW q k = f := ⟨_, rfl⟩
      rw [hf] at M1 L1 NY
      clear hf
      go_wp2_with (refine wpList_load_row rfl 24 _ rfl (w.heap.size + 1) rfl 24 _ _ _ L1.out Try.underlying24 rfl (mask_info _ (arr_size _ _ _)) ?_)
      refine (M1.out _ _).mono ?_
      rintro e w2 ⟨rfl, b2⟩
      have G1 := Lib.hid ((b2.block _ LZ.out).trans L1.out)
      have G0 := Lib.hid ((b2.block w.heap.size (by have := LZ.out; omega)).trans L0.out)
      have GB := Lib.hid (LB.out.trans (b2.mono (by have := LZ.out; omega)))
      have I1 : Hid ((w2.setRow (w.heap.size + 1) (M16 (withF f x y b))).heap[w.heap.size + 1]? = some (.cells (M16 (withF f x y b)) 24 (0, 0))) := Lib.hid (setRow_heap _ _ _ _ _ _ G1.out)
      have I0 : Hid ((w2.setRow (w.heap.size + 1) (M16 (withF f x y b))).heap[w.heap.size]? = some (.cells #[Value.int .u16 0, Value.int .u16 0, Value.int .u16 0, Value.int .u16 0, Value.int .u16 0, Value.int .u16 0, Value.int .u16 0, Value.int .u16 0, Value.int .u16 0, Value.int .u16 0, Value.int .u16 0, Value.int .u16 0, Value.int .u16 0, Value.int .u16 0, Value.int .u16 0, Value.int .u16 0] 24 (0, 0))) := Lib.hid ((setRow_other _ _ _ _ (by omega)).trans G0.out)
      have IB : Hid (Below w.heap.size w (w2.setRow (w.heap.size + 1) (M16 (withF f x y b)))) := Lib.hid (below_setRow GB.out (by omega) _)
      clear b2
      go_wp2_with (refine wpList_store_row rfl 24 _ _ rfl (w.heap.size + 1) (M16 (withF f x y b)) rfl rfl 24 _ G1.out (mask_info _ rfl) rfl (arr_cells _ _ _) ?_)
      go_roundw
      case rel => exact ⟨k + 1, HK.out, by go_num, by rw [NY.out]; exact I1.out, I0.out, IB.out⟩
      case measure => have := HK.out; simp [intOf]; omega
    · obtain rfl : k = 256 := by omega
      clear hlt hk
      obtain ⟨f, hf⟩ : ∃ f, mkW q 256 = f := ⟨_, rfl⟩
      rw [hf] at L1
      have HFF := Lib.hid hf
      clear hf
      go_wp2_with (first | (refine wpList_load_row rfl 24 _ rfl (w.heap.size + 1) rfl 24 _ _ _ L1.out Try.underlying24 rfl (mask_info _ (arr_size _ _ _)) ?_) | (refine wpList_store_row rfl 24 _ _ rfl w.heap.size (M16 f) rfl rfl 24 _ L0.out (mask_info _ rfl) rfl (arr_cells _ _ _) ?_))
      refine bodyPost_ret (v := .agg (M16 f)) ?_ rfl ⟨by rw [HFF.out], ?_⟩
      · exact results_cell_row Try.results58 _ _ w.heap.size _ _ _ _ rfl (setRow_heap _ _ _ _ _ _ L0.out) Try.underlying24 rfl (mask_info _ (arr_size _ _ _))
      · exact below_setRow LB.out (by omega) _
end Go.Proofs.Ytfnaddpohkbbnaa
