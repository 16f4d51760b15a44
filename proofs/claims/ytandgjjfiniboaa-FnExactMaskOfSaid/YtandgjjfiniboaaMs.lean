/-
  CONTRACTS: SetCell on both sides.
-/
import Derived.Test.YtandgjjfiniboaaMi
namespace Go.Proofs.Ytandgjjfiniboaa
open Go.ChangeShapes Go.WideShapes Go.ChangeAt Go.RowKit
theorem results_cell_tmp_row {P : Program} {fn : Func} {p u : Tmp} {ty : TypeId} (h : fn.results = #[.cell p ty, .tmp u]) (tmps : Array Value) (w : World) (g : Nat) (t : TypeId) (cs : Array Value) (fr : Nat × Nat) (d : TypeDesc)
    (hp : tmps.getD p undef = .pointer (some ⟨g, 0, none⟩)) (hg : w.heap[g]? = some (.cells cs t fr))
    (hu : P.underlying ty = some d) (hd : (match d with | .struct _ | .array _ _ => true | _ => false) = true) (hi : (P.info? ty).map (·.size) = some cs.size) :
    (results fn tmps).run P w = .ok (.tuple #[.agg cs, tmps.getD u undef]) w := by
  rw [results_cell_tmp h, hp]
  simp [asAddr, run_loadVar_row w g t ty cs fr d hg hu hd hi]
/-- what SetCell answers -/
def scF (f : Nat → Int) (x y : Int) (on : Bool) : Nat → Int := if inB x y then withF f x.toNat y.toNat on else zI
def SetCellC (f : Nat → Int) (x y : Int) (on : Bool) : Int := if inB x y then 0 else 2
def SetCellPost (f : Nat → Int) (x y : Int) (on : Bool) (w : World) (e : Ending) (w' : World) : Prop := e = .returned (.tuple #[.agg (M16 (scF f x y on)), .int .i64 (SetCellC f x y on)]) ∧ Below w.heap.size w w'
set_option maxRecDepth 20000 in
set_option maxHeartbeats 2000000 in
theorem iSetCell_any (f : Nat → Int) (hf : MB f) (x y : Int) (on : Bool) (w : World) : Calls Try.prog 29 #[.agg (M16 f), .int .i64 x, .int .i64 y, .bool on] w (SetCellPost f x y on w) := by
  unfold SetCellPost scF SetCellC
  have L := Lib.hid (isIn_any x y)
  have S1 : ((w.alloc (.cells (M16 f) 26)).alloc (.cells (M16 zI) 26)).heap[w.heap.size + 1]? = some (.cells (M16 zI) 26 (0, 0)) := by
    have := World.alloc_heap_new (w.alloc (.cells (M16 f) 26)) (.cells (M16 zI) 26)
    rw [World.size_alloc] at this
    exact this
  have S0 : ((w.alloc (.cells (M16 f) 26)).alloc (.cells (M16 zI) 26)).heap[w.heap.size]? = some (.cells (M16 f) 26 (0, 0)) := (Below.heap_alloc _ _ _ (by simp)).trans (World.alloc_heap_new w _)
  have SB : Below w.heap.size w ((w.alloc (.cells (M16 f) 26)).alloc (.cells (M16 zI) 26)) := ((Below.refl _ w).alloc (Nat.le_refl _) _).alloc (by simp) _
  have SZ : w.heap.size + 1 < ((w.alloc (.cells (M16 f) 26)).alloc (.cells (M16 zI) 26)).heap.size := by simp
  have Z : M16 zI = #[Value.int .u16 0, Value.int .u16 0, Value.int .u16 0, Value.int .u16 0, Value.int .u16 0, Value.int .u16 0, Value.int .u16 0, Value.int .u16 0, Value.int .u16 0, Value.int .u16 0, Value.int .u16 0, Value.int .u16 0, Value.int .u16 0, Value.int .u16 0, Value.int .u16 0, Value.int .u16 0] := rfl
  have H1 := Lib.hid S1
  have H0 := Lib.hid S0
  have HB := Lib.hid SB
  have HZ := Lib.hid SZ
  clear S1 S0 SB SZ
  rw [Z] at H1 H0 HB HZ
  cases hb : inB x y
  · rw [hb] at L
    simp only [Bool.false_eq_true, if_false]
    clear Z
    go_enter Try.func29, Try.ntmps29
    go_wp2_with (first | ((with_reducible refine (L.out _).mono ?_); rintro e w' ⟨rfl, rfl⟩) | (refine wpList_store_row rfl 26 _ _ rfl (w.heap.size + 1) (M16 zI) rfl rfl 26 _ H1.out (mask_info _ rfl) rfl (arr_cells _ _ _) ?_))
    refine bodyPost_ret (v := .tuple #[.agg (M16 zI), .int .i64 2]) ?_ rfl ⟨rfl, ?_⟩
    · exact results_cell_tmp_row Try.results29 _ _ (w.heap.size + 1) _ _ _ _ rfl (setRow_heap _ _ _ _ _ _ H1.out) Try.underlying26 rfl (mask_info _ rfl)
    · exact below_setRow HB.out (by omega) _
  · obtain ⟨a, b, rfl, rfl, ha, hb'⟩ := inB_nat hb
    rw [hb] at L
    have H := Lib.hid (fun w => mwith_any f hf a b ha hb' on w)
    simp only [if_true, Int.toNat_natCast]
    clear hf ha hb' Z
    go_enter Try.func29, Try.ntmps29
    go_wp2_with (first | ((with_reducible refine (L.out _).mono ?_); rintro e w' ⟨rfl, rfl⟩) | (refine wpList_load_row rfl 26 _ rfl w.heap.size rfl 26 _ _ _ H0.out Try.underlying26 rfl (mask_info _ (arr_size _ _ _)) ?_))
    generalize (w.alloc (.cells (M16 f) 26)).alloc (.cells #[Value.int .u16 0, Value.int .u16 0, Value.int .u16 0, Value.int .u16 0, Value.int .u16 0, Value.int .u16 0, Value.int .u16 0, Value.int .u16 0, Value.int .u16 0, Value.int .u16 0, Value.int .u16 0, Value.int .u16 0, Value.int .u16 0, Value.int .u16 0, Value.int .u16 0, Value.int .u16 0] 26) = w1 at H1 H0 HB HZ ⊢
    refine (H.out _).mono ?_
    rintro e w2 ⟨rfl, b2⟩
    have G1 : Hid (w2.heap[w.heap.size + 1]? = some (.cells #[Value.int .u16 0, Value.int .u16 0, Value.int .u16 0, Value.int .u16 0, Value.int .u16 0, Value.int .u16 0, Value.int .u16 0, Value.int .u16 0, Value.int .u16 0, Value.int .u16 0, Value.int .u16 0, Value.int .u16 0, Value.int .u16 0, Value.int .u16 0, Value.int .u16 0, Value.int .u16 0] 26 (0, 0))) := Lib.hid ((b2.block _ HZ.out).trans H1.out)
    have GB : Hid (Below w.heap.size w w2) := Lib.hid (HB.out.trans (b2.mono (by have := HZ.out; omega)))
    clear b2
    go_wp2_with (refine wpList_store_row rfl 26 _ _ rfl (w.heap.size + 1) (M16 (withF f a b on)) rfl rfl 26 _ G1.out (mask_info _ rfl) rfl (arr_cells _ _ _) ?_)
    refine bodyPost_ret (v := .tuple #[.agg (M16 (withF f a b on)), .int .i64 0]) ?_ rfl ⟨rfl, ?_⟩
    · exact results_cell_tmp_row Try.results29 _ _ (w.heap.size + 1) _ _ _ _ rfl (setRow_heap _ _ _ _ _ _ G1.out) Try.underlying26 rfl (mask_info _ (arr_size _ _ _))
    · exact below_setRow GB.out (by omega) _
set_option maxRecDepth 20000 in
set_option maxHeartbeats 4000000 in
theorem sSetCell_any (f : Nat → Int) (hf : MB f) (x y : Int) (on : Bool) (w : World) : Calls Try.prog 28 #[.agg (M16 f), .int .i64 x, .int .i64 y, .bool on] w (SetCellPost f x y on w) := by
  unfold SetCellPost scF SetCellC
  have L := Lib.hid (l07In_any x y)
  have S1 : ((w.alloc (.cells (M16 f) 26)).alloc (.cells (M16 zI) 26)).heap[w.heap.size + 1]? = some (.cells (M16 zI) 26 (0, 0)) := by
    have := World.alloc_heap_new (w.alloc (.cells (M16 f) 26)) (.cells (M16 zI) 26)
    rw [World.size_alloc] at this
    exact this
  have S0 : ((w.alloc (.cells (M16 f) 26)).alloc (.cells (M16 zI) 26)).heap[w.heap.size]? = some (.cells (M16 f) 26 (0, 0)) := (Below.heap_alloc _ _ _ (by simp)).trans (World.alloc_heap_new w _)
  have SB : Below w.heap.size w ((w.alloc (.cells (M16 f) 26)).alloc (.cells (M16 zI) 26)) := ((Below.refl _ w).alloc (Nat.le_refl _) _).alloc (by simp) _
  have Z : M16 zI = #[Value.int .u16 0, Value.int .u16 0, Value.int .u16 0, Value.int .u16 0, Value.int .u16 0, Value.int .u16 0, Value.int .u16 0, Value.int .u16 0, Value.int .u16 0, Value.int .u16 0, Value.int .u16 0, Value.int .u16 0, Value.int .u16 0, Value.int .u16 0, Value.int .u16 0, Value.int .u16 0] := rfl
  have H1 := Lib.hid S1
  have H0 := Lib.hid S0
  have HB := Lib.hid SB
  clear S1 S0 SB
  rw [Z] at H1 H0 HB
  cases hb : inB x y
  · rw [hb] at L
    simp only [Bool.false_eq_true, if_false]
    clear Z
    go_enter Try.func28, Try.ntmps28
    go_wp2_with (first | ((with_reducible refine (L.out _).mono ?_); rintro e w' ⟨rfl, rfl⟩) | (refine wpList_store_row rfl 26 _ _ rfl (w.heap.size + 1) (M16 zI) rfl rfl 26 _ H1.out (mask_info _ rfl) rfl (arr_cells _ _ _) ?_))
    refine bodyPost_ret (v := .tuple #[.agg (M16 zI), .int .i64 2]) ?_ rfl ⟨rfl, ?_⟩
    · exact results_cell_tmp_row Try.results28 _ _ (w.heap.size + 1) _ _ _ _ rfl (setRow_heap _ _ _ _ _ _ H1.out) Try.underlying26 rfl (mask_info _ rfl)
    · exact below_setRow HB.out (by omega) _
  · obtain ⟨x, y, rfl, rfl, hx, hy⟩ := inB_nat hb
    rw [hb] at L
    simp only [if_true, Int.toNat_natCast]
    have hx' : (x : Int) ≤ 16 := by omega
    have hy' : (y : Int) < 16 := by omega
    have W1 := pow16 hx
    have hcy : ((w.alloc (.cells (M16 f) 26)).alloc (.cells #[Value.int .u16 0, Value.int .u16 0, Value.int .u16 0, Value.int .u16 0, Value.int .u16 0, Value.int .u16 0, Value.int .u16 0, Value.int .u16 0, Value.int .u16 0, Value.int .u16 0, Value.int .u16 0, Value.int .u16 0, Value.int .u16 0, Value.int .u16 0, Value.int .u16 0, Value.int .u16 0] 26)).cell? ⟨w.heap.size, y, none⟩ = some (.int .u16 (f y)) := (Lib.cell_of_heap H0.out y).trans (arr_get _ _ _ _ hy)
    have hfy : ((w.alloc (.cells (M16 f) 26)).alloc (.cells #[Value.int .u16 0, Value.int .u16 0, Value.int .u16 0, Value.int .u16 0, Value.int .u16 0, Value.int .u16 0, Value.int .u16 0, Value.int .u16 0, Value.int .u16 0, Value.int .u16 0, Value.int .u16 0, Value.int .u16 0, Value.int .u16 0, Value.int .u16 0, Value.int .u16 0, Value.int .u16 0] 26)).frozen? ⟨w.heap.size, y, none⟩ = false := Lib.frozen_of_heap H0.out y
    have HY := Lib.hid hy
    clear hf Z
    cases on
    all_goals
      go_enter Try.func28, Try.ntmps28
      go_wp2_with fail
      refine (L.out _).mono ?_
      rintro e w' ⟨rfl, rfl⟩
      generalize (w.alloc (.cells (M16 f) 26)).alloc (.cells #[Value.int .u16 0, Value.int .u16 0, Value.int .u16 0, Value.int .u16 0, Value.int .u16 0, Value.int .u16 0, Value.int .u16 0, Value.int .u16 0, Value.int .u16 0, Value.int .u16 0, Value.int .u16 0, Value.int .u16 0, Value.int .u16 0, Value.int .u16 0, Value.int .u16 0, Value.int .u16 0] 26) = w1 at H1 H0 HB hcy hfy ⊢
      obtain ⟨W2, hW2⟩ : ∃ W2, w1.setCell ⟨w.heap.size, y, none⟩ (.int .u16 (offB (f y) x)) = W2 := ⟨_, rfl⟩
      have hW2' : w1.setCell ⟨w.heap.size, y, none⟩ (.int .u16 (bits .andNot .u16 (f y) (2 ^ x))) = W2 := hW2
      have K1 : Hid (W2.heap[w.heap.size + 1]? = some (.cells #[Value.int .u16 0, Value.int .u16 0, Value.int .u16 0, Value.int .u16 0, Value.int .u16 0, Value.int .u16 0, Value.int .u16 0, Value.int .u16 0, Value.int .u16 0, Value.int .u16 0, Value.int .u16 0, Value.int .u16 0, Value.int .u16 0, Value.int .u16 0, Value.int .u16 0, Value.int .u16 0] 26 (0, 0))) := Lib.hid (by rw [← hW2, mset_far (by omega)]; exact H1.out)
      have K0 : Hid (W2.heap[w.heap.size]? = some (.cells (M16 (offF f x y)) 26 (0, 0))) := Lib.hid (by rw [← hW2, mset_at H0.out, arr_set _ _ _ _ _ HY.out]; rfl)
      have KB : Hid (Below w.heap.size w W2) := Lib.hid (by rw [← hW2]; exact HB.out.setCell (p := ⟨w.heap.size, y, none⟩) (by simp) _)
      have hc2 : W2.cell? ⟨w.heap.size, y, none⟩ = some (.int .u16 (offF f x y y)) := (Lib.cell_of_heap K0.out y).trans (arr_get _ _ _ _ HY.out)
      have hf2 : W2.frozen? ⟨w.heap.size, y, none⟩ = false := Lib.frozen_of_heap K0.out y
      clear hW2
    · go_wp2_with (first | (refine wpList_load_row rfl 26 _ rfl w.heap.size rfl 26 _ _ _ K0.out Try.underlying26 rfl (mask_info _ (arr_size _ _ _)) ?_) | (refine wpList_store_row rfl 26 _ _ rfl (w.heap.size + 1) (M16 (offF f x y)) rfl rfl 26 _ K1.out (mask_info _ rfl) rfl (arr_cells _ _ _) ?_))
      refine bodyPost_ret (v := .tuple #[.agg (M16 (offF f x y)), .int .i64 0]) ?_ rfl ⟨rfl, ?_⟩
      · exact results_cell_tmp_row Try.results28 _ _ (w.heap.size + 1) _ _ _ _ rfl (setRow_heap _ _ _ _ _ _ K1.out) Try.underlying26 rfl (mask_info _ (arr_size _ _ _))
      · exact below_setRow KB.out (by omega) _
    · obtain ⟨W3, hW3⟩ : ∃ W3, W2.setCell ⟨w.heap.size, y, none⟩ (.int .u16 (orB (offF f x y y) x)) = W3 := ⟨_, rfl⟩
      have hW3' : W2.setCell ⟨w.heap.size, y, none⟩ (.int .u16 (bits .or .u16 (offF f x y y) (2 ^ x))) = W3 := hW3
      have L1 : Hid (W3.heap[w.heap.size + 1]? = some (.cells #[Value.int .u16 0, Value.int .u16 0, Value.int .u16 0, Value.int .u16 0, Value.int .u16 0, Value.int .u16 0, Value.int .u16 0, Value.int .u16 0, Value.int .u16 0, Value.int .u16 0, Value.int .u16 0, Value.int .u16 0, Value.int .u16 0, Value.int .u16 0, Value.int .u16 0, Value.int .u16 0] 26 (0, 0))) := Lib.hid (by rw [← hW3, mset_far (by omega)]; exact K1.out)
      have L0 : Hid (W3.heap[w.heap.size]? = some (.cells (M16 (withF f x y true)) 26 (0, 0))) := Lib.hid (by rw [← hW3, mset_at K0.out, arr_set _ _ _ _ _ HY.out]; rfl)
      have LB : Hid (Below w.heap.size w W3) := Lib.hid (by rw [← hW3]; exact KB.out.setCell (p := ⟨w.heap.size, y, none⟩) (by simp) _)
      clear hW3
      go_wp2_with (first | (refine wpList_load_row rfl 26 _ rfl w.heap.size rfl 26 _ _ _ L0.out Try.underlying26 rfl (mask_info _ (arr_size _ _ _)) ?_) | (refine wpList_store_row rfl 26 _ _ rfl (w.heap.size + 1) (M16 (withF f x y true)) rfl rfl 26 _ L1.out (mask_info _ rfl) rfl (arr_cells _ _ _) ?_))
      refine bodyPost_ret (v := .tuple #[.agg (M16 (withF f x y true)), .int .i64 0]) ?_ rfl ⟨rfl, ?_⟩
      · exact results_cell_tmp_row Try.results28 _ _ (w.heap.size + 1) _ _ _ _ rfl (setRow_heap _ _ _ _ _ _ L1.out) Try.underlying26 rfl (mask_info _ (arr_size _ _ _))
      · exact below_setRow LB.out (by omega) _
end Go.Proofs.Ytandgjjfiniboaa
