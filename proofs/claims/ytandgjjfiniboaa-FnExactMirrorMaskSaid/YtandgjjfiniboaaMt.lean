/-
  CONTRACTS: TurnMask, MirrorMask, ShiftMask on both sides.
-/
import Derived.Test.YtandgjjfiniboaaMu
import Derived.Test.YtandgjjfiniboaaMv
import Derived.Test.YtandgjjfiniboaaMs
namespace Go.Proofs.Ytandgjjfiniboaa
open Go.ChangeShapes Go.WideShapes Go.ChangeAt Go.RowKit Go.Shelf
theorem turn1_any (x y : Nat) (hx : x < 16) (hy : y < 16) (w : World) :
    Calls Try.prog 64 #[.int .i64 (x : Int), .int .i64 (y : Int)] w fun e w' => e = .returned (.tuple #[.int .i64 (turnV x y).1, .int .i64 (turnV x y).2]) ∧ w = w' := by
  unfold turnV
  have hx' : (x : Int) < 16 := by omega
  have hy' : (y : Int) < 16 := by omega
  go_enter Try.func64, Try.ntmps64
  go_wp2
  go_ret2
  exact ⟨rfl, rfl⟩
theorem mir1_any (x y : Nat) (hx : x < 16) (hy : y < 16) (w : World) :
    Calls Try.prog 65 #[.int .i64 (x : Int), .int .i64 (y : Int)] w fun e w' => e = .returned (.tuple #[.int .i64 (mirV x y).1, .int .i64 (mirV x y).2]) ∧ w = w' := by
  unfold mirV
  have hx' : (x : Int) < 16 := by omega
  have hy' : (y : Int) < 16 := by omega
  go_enter Try.func65, Try.ntmps65
  go_wp2
  go_ret2
  exact ⟨rfl, rfl⟩
theorem sh1_any (dx dy : Int) (hdx : -16 ≤ dx ∧ dx ≤ 16) (hdy : -16 ≤ dy ∧ dy ≤ 16) (bx bY : Nat) (x y : Nat) (hx : x < 16) (hy : y < 16) (w : World) (c1 : w.cell? ⟨bx, 0, none⟩ = some (.int .i64 dx)) (c2 : w.cell? ⟨bY, 0, none⟩ = some (.int .i64 dy)) :
    Calls Try.prog 63 #[.int .i64 (x : Int), .int .i64 (y : Int), .pointer (some ⟨bx, 0, none⟩), .pointer (some ⟨bY, 0, none⟩)] w fun e w' => e = .returned (.tuple #[.int .i64 (shV dx dy x y).1, .int .i64 (shV dx dy x y).2]) ∧ ∃ q, w' = w.drewN q := by
  unfold shV
  obtain ⟨dx0, dx1⟩ := hdx
  obtain ⟨dy0, dy1⟩ := hdy
  have hx' : (x : Int) < 16 := by omega
  have hy' : (y : Int) < 16 := by omega
  have e1 : IntKind.i64.wrap ((x : Int) + dx) = (x : Int) + dx := by rw [IntKind.wrap_i64]; omega
  have e2 : IntKind.i64.wrap ((y : Int) + dy) = (y : Int) + dy := by rw [IntKind.wrap_i64]; omega
  go_enter Try.func63, Try.ntmps63
  go_wp2
  go_quiet (fail)
  go_wp2
  go_ret2
  exact ⟨rfl, _, rfl⟩
def TurnMaskG (f : Nat → Int) : Nat → Int := mvF false turnV (cellL f)
def TurnMaskPost (f : Nat → Int) (w : World) (e : Ending) (w' : World) : Prop := e = .returned (.agg (M16 (TurnMaskG f))) ∧ Below w.heap.size w w'
set_option maxRecDepth 20000 in
set_option maxHeartbeats 2000000 in
theorem iTurnMask_any (f : Nat → Int) (hf : MB f) (w : World) : Calls Try.prog 41 #[.agg (M16 f)] w (TurnMaskPost f w) := by
  unfold TurnMaskPost TurnMaskG
  have M : ∀ w, Calls Try.prog 62 #[.agg (M16 f), .func (.func 64) #[] #[]] w fun e w' => e = .returned (.agg (M16 (mvF true turnV (cellL f)))) ∧ Below w.heap.size w w' := fun w =>
    callsIn_wide.1 (imoved_in Fence.wide rfl 3 (by omega) 64 #[] (enters_of Try.func64 (by kernel_rfl) rfl) turnV f hf w fun x y hx hy W _ => (turn1_any x y hx hy W).mono fun e W' h => ⟨h.1, 0, h.2.symm⟩)
  rw [mvF_both] at M
  have HM := Lib.hid M
  clear M hf
  have S1 : ((w.alloc (.cells (M16 f) 26)).alloc (.cells (M16 zI) 26)).heap[w.heap.size + 1]? = some (.cells (M16 zI) 26 (0, 0)) := by
    have := World.alloc_heap_new (w.alloc (.cells (M16 f) 26)) (.cells (M16 zI) 26)
    rw [World.size_alloc] at this
    exact this
  have S0 : ((w.alloc (.cells (M16 f) 26)).alloc (.cells (M16 zI) 26)).heap[w.heap.size]? = some (.cells (M16 f) 26 (0, 0)) := (Below.heap_alloc _ _ _ (by simp)).trans (World.alloc_heap_new w _)
  have SB : Below w.heap.size w ((w.alloc (.cells (M16 f) 26)).alloc (.cells (M16 zI) 26)) := ((Below.refl _ w).alloc (Nat.le_refl _) _).alloc (by simp) _
  have SZ : w.heap.size + 1 < ((w.alloc (.cells (M16 f) 26)).alloc (.cells (M16 zI) 26)).heap.size := by simp
  have Z : M16 zI = #[Value.int .u16 0, Value.int .u16 0, Value.int .u16 0, Value.int .u16 0, Value.int .u16 0, Value.int .u16 0, Value.int .u16 0, Value.int .u16 0, Value.int .u16 0, Value.int .u16 0, Value.int .u16 0, Value.int .u16 0, Value.int .u16 0, Value.int .u16 0, Value.int .u16 0, Value.int .u16 0] := rfl
  have H1 := Lib.hid S1
  have H0 := Lib.hid S0
  have HB := Lib.hid SB
  have HZ := Lib.hid SZ
  clear S1 S0 SB SZ
  rw [Z] at H1 H0 HB HZ
  clear Z
  generalize mvF false turnV (cellL f) = g at HM ⊢
  go_enter Try.func41, Try.ntmps41
  go_wp2_with (refine wpList_load_row rfl 26 _ rfl w.heap.size rfl 26 _ _ _ H0.out Try.underlying26 rfl (mask_info _ (arr_size _ _ _)) ?_)
  generalize (w.alloc (.cells (M16 f) 26)).alloc (.cells #[Value.int .u16 0, Value.int .u16 0, Value.int .u16 0, Value.int .u16 0, Value.int .u16 0, Value.int .u16 0, Value.int .u16 0, Value.int .u16 0, Value.int .u16 0, Value.int .u16 0, Value.int .u16 0, Value.int .u16 0, Value.int .u16 0, Value.int .u16 0, Value.int .u16 0, Value.int .u16 0] 26) = w1 at H1 H0 HB HZ ⊢
  refine (HM.out _).mono ?_
  rintro e w2 ⟨rfl, b2⟩
  have G1 : Hid (w2.heap[w.heap.size + 1]? = some (.cells #[Value.int .u16 0, Value.int .u16 0, Value.int .u16 0, Value.int .u16 0, Value.int .u16 0, Value.int .u16 0, Value.int .u16 0, Value.int .u16 0, Value.int .u16 0, Value.int .u16 0, Value.int .u16 0, Value.int .u16 0, Value.int .u16 0, Value.int .u16 0, Value.int .u16 0, Value.int .u16 0] 26 (0, 0))) := Lib.hid ((b2.block _ HZ.out).trans H1.out)
  have GB : Hid (Below w.heap.size w w2) := Lib.hid (HB.out.trans (b2.mono (by have := HZ.out; omega)))
  clear b2
  go_wp2_with (refine wpList_store_row rfl 26 _ _ rfl (w.heap.size + 1) (M16 g) rfl rfl 26 _ G1.out (mask_info _ rfl) rfl (arr_cells _ _ _) ?_)
  refine bodyPost_ret (v := .agg (M16 g)) ?_ rfl ⟨rfl, ?_⟩
  · exact results_cell_row Try.results41 _ _ (w.heap.size + 1) _ _ _ _ rfl (setRow_heap _ _ _ _ _ _ G1.out) Try.underlying26 rfl (mask_info _ (arr_size _ _ _))
  · exact below_setRow GB.out (by omega) _
set_option maxRecDepth 20000 in
set_option maxHeartbeats 2000000 in
theorem sTurnMask_any (f : Nat → Int) (hf : MB f) (w : World) : Calls Try.prog 40 #[.agg (M16 f)] w (TurnMaskPost f w) := by
  unfold TurnMaskPost TurnMaskG
  have S1 : ((w.alloc (.cells (M16 f) 26)).alloc (.cells (M16 zI) 26)).heap[w.heap.size + 1]? = some (.cells (M16 zI) 26 (0, 0)) := by
    have := World.alloc_heap_new (w.alloc (.cells (M16 f) 26)) (.cells (M16 zI) 26)
    rw [World.size_alloc] at this
    exact this
  have S0 : ((w.alloc (.cells (M16 f) 26)).alloc (.cells (M16 zI) 26)).heap[w.heap.size]? = some (.cells (M16 f) 26 (0, 0)) := (Below.heap_alloc _ _ _ (by simp)).trans (World.alloc_heap_new w _)
  have SB : Below w.heap.size w ((w.alloc (.cells (M16 f) 26)).alloc (.cells (M16 zI) 26)) := ((Below.refl _ w).alloc (Nat.le_refl _) _).alloc (by simp) _
  have SZ : w.heap.size + 1 < ((w.alloc (.cells (M16 f) 26)).alloc (.cells (M16 zI) 26)).heap.size := by simp
  have SM := l07Moved_turn w.heap.size f hf ((w.alloc (.cells (M16 f) 26)).alloc (.cells (M16 zI) 26)) S0
  have Z : M16 zI = #[Value.int .u16 0, Value.int .u16 0, Value.int .u16 0, Value.int .u16 0, Value.int .u16 0, Value.int .u16 0, Value.int .u16 0, Value.int .u16 0, Value.int .u16 0, Value.int .u16 0, Value.int .u16 0, Value.int .u16 0, Value.int .u16 0, Value.int .u16 0, Value.int .u16 0, Value.int .u16 0] := rfl
  have H1 := Lib.hid S1
  have HB := Lib.hid SB
  have HZ := Lib.hid SZ
  have HM := Lib.hid SM
  clear S1 S0 SB SZ SM hf
  rw [Z] at H1 HB HZ HM
  clear Z
  generalize mvF false turnV (cellL f) = g at HM ⊢
  go_enter Try.func40, Try.ntmps40
  go_wp2_with fail
  generalize (w.alloc (.cells (M16 f) 26)).alloc (.cells #[Value.int .u16 0, Value.int .u16 0, Value.int .u16 0, Value.int .u16 0, Value.int .u16 0, Value.int .u16 0, Value.int .u16 0, Value.int .u16 0, Value.int .u16 0, Value.int .u16 0, Value.int .u16 0, Value.int .u16 0, Value.int .u16 0, Value.int .u16 0, Value.int .u16 0, Value.int .u16 0] 26) = w1 at H1 HB HZ HM ⊢
  refine HM.out.mono ?_
  rintro e w2 ⟨rfl, b2⟩
  have G1 : Hid (w2.heap[w.heap.size + 1]? = some (.cells #[Value.int .u16 0, Value.int .u16 0, Value.int .u16 0, Value.int .u16 0, Value.int .u16 0, Value.int .u16 0, Value.int .u16 0, Value.int .u16 0, Value.int .u16 0, Value.int .u16 0, Value.int .u16 0, Value.int .u16 0, Value.int .u16 0, Value.int .u16 0, Value.int .u16 0, Value.int .u16 0] 26 (0, 0))) := Lib.hid ((b2.block _ HZ.out).trans H1.out)
  have GB : Hid (Below w.heap.size w w2) := Lib.hid (HB.out.trans (b2.mono (by have := HZ.out; omega)))
  clear b2
  go_wp2_with (refine wpList_store_row rfl 26 _ _ rfl (w.heap.size + 1) (M16 g) rfl rfl 26 _ G1.out (mask_info _ rfl) rfl (arr_cells _ _ _) ?_)
  refine bodyPost_ret (v := .agg (M16 g)) ?_ rfl ⟨rfl, ?_⟩
  · exact results_cell_row Try.results40 _ _ (w.heap.size + 1) _ _ _ _ rfl (setRow_heap _ _ _ _ _ _ G1.out) Try.underlying26 rfl (mask_info _ (arr_size _ _ _))
  · exact below_setRow GB.out (by omega) _
def MirrorMaskG (f : Nat → Int) : Nat → Int := mvF false mirV (cellL f)
def MirrorMaskPost (f : Nat → Int) (w : World) (e : Ending) (w' : World) : Prop := e = .returned (.agg (M16 (MirrorMaskG f))) ∧ Below w.heap.size w w'
set_option maxRecDepth 20000 in
set_option maxHeartbeats 2000000 in
theorem iMirrorMask_any (f : Nat → Int) (hf : MB f) (w : World) : Calls Try.prog 43 #[.agg (M16 f)] w (MirrorMaskPost f w) := by
  unfold MirrorMaskPost MirrorMaskG
  have M : ∀ w, Calls Try.prog 62 #[.agg (M16 f), .func (.func 65) #[] #[]] w fun e w' => e = .returned (.agg (M16 (mvF true mirV (cellL f)))) ∧ Below w.heap.size w w' := fun w =>
    callsIn_wide.1 (imoved_in Fence.wide rfl 3 (by omega) 65 #[] (enters_of Try.func65 (by kernel_rfl) rfl) mirV f hf w fun x y hx hy W _ => (mir1_any x y hx hy W).mono fun e W' h => ⟨h.1, 0, h.2.symm⟩)
  rw [mvF_both] at M
  have HM := Lib.hid M
  clear M hf
  have S1 : ((w.alloc (.cells (M16 f) 26)).alloc (.cells (M16 zI) 26)).heap[w.heap.size + 1]? = some (.cells (M16 zI) 26 (0, 0)) := by
    have := World.alloc_heap_new (w.alloc (.cells (M16 f) 26)) (.cells (M16 zI) 26)
    rw [World.size_alloc] at this
    exact this
  have S0 : ((w.alloc (.cells (M16 f) 26)).alloc (.cells (M16 zI) 26)).heap[w.heap.size]? = some (.cells (M16 f) 26 (0, 0)) := (Below.heap_alloc _ _ _ (by simp)).trans (World.alloc_heap_new w _)
  have SB : Below w.heap.size w ((w.alloc (.cells (M16 f) 26)).alloc (.cells (M16 zI) 26)) := ((Below.refl _ w).alloc (Nat.le_refl _) _).alloc (by simp) _
  have SZ : w.heap.size + 1 < ((w.alloc (.cells (M16 f) 26)).alloc (.cells (M16 zI) 26)).heap.size := by simp
  have Z : M16 zI = #[Value.int .u16 0, Value.int .u16 0, Value.int .u16 0, Value.int .u16 0, Value.int .u16 0, Value.int .u16 0, Value.int .u16 0, Value.int .u16 0, Value.int .u16 0, Value.int .u16 0, Value.int .u16 0, Value.int .u16 0, Value.int .u16 0, Value.int .u16 0, Value.int .u16 0, Value.int .u16 0] := rfl
  have H1 := Lib.hid S1
  have H0 := Lib.hid S0
  have HB := Lib.hid SB
  have HZ := Lib.hid SZ
  clear S1 S0 SB SZ
  rw [Z] at H1 H0 HB HZ
  clear Z
  generalize mvF false mirV (cellL f) = g at HM ⊢
  go_enter Try.func43, Try.ntmps43
  go_wp2_with (refine wpList_load_row rfl 26 _ rfl w.heap.size rfl 26 _ _ _ H0.out Try.underlying26 rfl (mask_info _ (arr_size _ _ _)) ?_)
  generalize (w.alloc (.cells (M16 f) 26)).alloc (.cells #[Value.int .u16 0, Value.int .u16 0, Value.int .u16 0, Value.int .u16 0, Value.int .u16 0, Value.int .u16 0, Value.int .u16 0, Value.int .u16 0, Value.int .u16 0, Value.int .u16 0, Value.int .u16 0, Value.int .u16 0, Value.int .u16 0, Value.int .u16 0, Value.int .u16 0, Value.int .u16 0] 26) = w1 at H1 H0 HB HZ ⊢
  refine (HM.out _).mono ?_
  rintro e w2 ⟨rfl, b2⟩
  have G1 : Hid (w2.heap[w.heap.size + 1]? = some (.cells #[Value.int .u16 0, Value.int .u16 0, Value.int .u16 0, Value.int .u16 0, Value.int .u16 0, Value.int .u16 0, Value.int .u16 0, Value.int .u16 0, Value.int .u16 0, Value.int .u16 0, Value.int .u16 0, Value.int .u16 0, Value.int .u16 0, Value.int .u16 0, Value.int .u16 0, Value.int .u16 0] 26 (0, 0))) := Lib.hid ((b2.block _ HZ.out).trans H1.out)
  have GB : Hid (Below w.heap.size w w2) := Lib.hid (HB.out.trans (b2.mono (by have := HZ.out; omega)))
  clear b2
  go_wp2_with (refine wpList_store_row rfl 26 _ _ rfl (w.heap.size + 1) (M16 g) rfl rfl 26 _ G1.out (mask_info _ rfl) rfl (arr_cells _ _ _) ?_)
  refine bodyPost_ret (v := .agg (M16 g)) ?_ rfl ⟨rfl, ?_⟩
  · exact results_cell_row Try.results43 _ _ (w.heap.size + 1) _ _ _ _ rfl (setRow_heap _ _ _ _ _ _ G1.out) Try.underlying26 rfl (mask_info _ (arr_size _ _ _))
  · exact below_setRow GB.out (by omega) _
set_option maxRecDepth 20000 in
set_option maxHeartbeats 2000000 in
theorem sMirrorMask_any (f : Nat → Int) (hf : MB f) (w : World) : Calls Try.prog 42 #[.agg (M16 f)] w (MirrorMaskPost f w) := by
  unfold MirrorMaskPost MirrorMaskG
  have S1 : ((w.alloc (.cells (M16 f) 26)).alloc (.cells (M16 zI) 26)).heap[w.heap.size + 1]? = some (.cells (M16 zI) 26 (0, 0)) := by
    have := World.alloc_heap_new (w.alloc (.cells (M16 f) 26)) (.cells (M16 zI) 26)
    rw [World.size_alloc] at this
    exact this
  have S0 : ((w.alloc (.cells (M16 f) 26)).alloc (.cells (M16 zI) 26)).heap[w.heap.size]? = some (.cells (M16 f) 26 (0, 0)) := (Below.heap_alloc _ _ _ (by simp)).trans (World.alloc_heap_new w _)
  have SB : Below w.heap.size w ((w.alloc (.cells (M16 f) 26)).alloc (.cells (M16 zI) 26)) := ((Below.refl _ w).alloc (Nat.le_refl _) _).alloc (by simp) _
  have SZ : w.heap.size + 1 < ((w.alloc (.cells (M16 f) 26)).alloc (.cells (M16 zI) 26)).heap.size := by simp
  have SM := l07Moved_mir w.heap.size f hf ((w.alloc (.cells (M16 f) 26)).alloc (.cells (M16 zI) 26)) S0
  have Z : M16 zI = #[Value.int .u16 0, Value.int .u16 0, Value.int .u16 0, Value.int .u16 0, Value.int .u16 0, Value.int .u16 0, Value.int .u16 0, Value.int .u16 0, Value.int .u16 0, Value.int .u16 0, Value.int .u16 0, Value.int .u16 0, Value.int .u16 0, Value.int .u16 0, Value.int .u16 0, Value.int .u16 0] := rfl
  have H1 := Lib.hid S1
  have HB := Lib.hid SB
  have HZ := Lib.hid SZ
  have HM := Lib.hid SM
  clear S1 S0 SB SZ SM hf
  rw [Z] at H1 HB HZ HM
  clear Z
  generalize mvF false mirV (cellL f) = g at HM ⊢
  go_enter Try.func42, Try.ntmps42
  go_wp2_with fail
  generalize (w.alloc (.cells (M16 f) 26)).alloc (.cells #[Value.int .u16 0, Value.int .u16 0, Value.int .u16 0, Value.int .u16 0, Value.int .u16 0, Value.int .u16 0, Value.int .u16 0, Value.int .u16 0, Value.int .u16 0, Value.int .u16 0, Value.int .u16 0, Value.int .u16 0, Value.int .u16 0, Value.int .u16 0, Value.int .u16 0, Value.int .u16 0] 26) = w1 at H1 HB HZ HM ⊢
  refine HM.out.mono ?_
  rintro e w2 ⟨rfl, b2⟩
  have G1 : Hid (w2.heap[w.heap.size + 1]? = some (.cells #[Value.int .u16 0, Value.int .u16 0, Value.int .u16 0, Value.int .u16 0, Value.int .u16 0, Value.int .u16 0, Value.int .u16 0, Value.int .u16 0, Value.int .u16 0, Value.int .u16 0, Value.int .u16 0, Value.int .u16 0, Value.int .u16 0, Value.int .u16 0, Value.int .u16 0, Value.int .u16 0] 26 (0, 0))) := Lib.hid ((b2.block _ HZ.out).trans H1.out)
  have GB : Hid (Below w.heap.size w w2) := Lib.hid (HB.out.trans (b2.mono (by have := HZ.out; omega)))
  clear b2
  go_wp2_with (refine wpList_store_row rfl 26 _ _ rfl (w.heap.size + 1) (M16 g) rfl rfl 26 _ G1.out (mask_info _ rfl) rfl (arr_cells _ _ _) ?_)
  refine bodyPost_ret (v := .agg (M16 g)) ?_ rfl ⟨rfl, ?_⟩
  · exact results_cell_row Try.results42 _ _ (w.heap.size + 1) _ _ _ _ rfl (setRow_heap _ _ _ _ _ _ G1.out) Try.underlying26 rfl (mask_info _ (arr_size _ _ _))
  · exact below_setRow GB.out (by omega) _
end Go.Proofs.Ytandgjjfiniboaa
