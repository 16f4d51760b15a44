/-
  CONTRACTS: ShiftMask on both sides.
-/
import Derived.Test.YtandgjjfiniboaaMt
namespace Go.Proofs.Ytandgjjfiniboaa
open Go.ChangeShapes Go.WideShapes Go.ChangeAt Go.RowKit Go.Shelf
def shB (d : Int) : Bool := decide (-16 ≤ d) && decide (d ≤ 16)
theorem shB_yes {d : Int} (h : shB d = true) : -16 ≤ d ∧ d ≤ 16 := by simpa [shB] using h
theorem isShift_any (d : Int) (w : World) : Calls Try.prog 61 #[.int .i64 d] w fun e w' => e = .returned (.bool (shB d)) ∧ w = w' := by
  cases t1 : decide (-16 ≤ d) <;> cases t2 : decide (d ≤ 16)
  all_goals
    have T : Hid (shB d = (decide (-16 ≤ d) && decide (d ≤ 16))) := Lib.hid rfl
    go_enter Try.func61, Try.ntmps61
    go_wp2
    go_ret
    exact ⟨mret_bool (by rw [T.out, t1, t2]; rfl), rfl⟩
def ShiftMaskG (f : Nat → Int) (dx dy : Int) : Nat → Int := if shB dx && shB dy then mvF false (shV dx dy) (cellL f) else zI
def ShiftMaskC (f : Nat → Int) (dx dy : Int) : Int := if shB dx && shB dy then 0 else 2
def ShiftMaskPost (f : Nat → Int) (dx dy : Int) (w : World) (e : Ending) (w' : World) : Prop := e = .returned (.tuple #[.agg (M16 (ShiftMaskG f dx dy)), .int .i64 (ShiftMaskC f dx dy)]) ∧ Below w.heap.size w w'
set_option maxRecDepth 20000 in
set_option maxHeartbeats 2000000 in
theorem sShiftMask_any (f : Nat → Int) (hf : MB f) (dx dy : Int) (w : World) : Calls Try.prog 38 #[.agg (M16 f), .int .i64 dx, .int .i64 dy] w (ShiftMaskPost f dx dy w) := by
  unfold ShiftMaskPost ShiftMaskG ShiftMaskC
  have S1 : ((w.alloc (.cells (M16 f) 26)).alloc (.cells (M16 zI) 26)).heap[w.heap.size + 1]? = some (.cells (M16 zI) 26 (0, 0)) := by
    have := World.alloc_heap_new (w.alloc (.cells (M16 f) 26)) (.cells (M16 zI) 26)
    rw [World.size_alloc] at this
    exact this
  have S0 : ((w.alloc (.cells (M16 f) 26)).alloc (.cells (M16 zI) 26)).heap[w.heap.size]? = some (.cells (M16 f) 26 (0, 0)) := (Below.heap_alloc _ _ _ (by simp)).trans (World.alloc_heap_new w _)
  have SB : Below w.heap.size w ((w.alloc (.cells (M16 f) 26)).alloc (.cells (M16 zI) 26)) := ((Below.refl _ w).alloc (Nat.le_refl _) _).alloc (by simp) _
  have SZ : w.heap.size + 1 < ((w.alloc (.cells (M16 f) 26)).alloc (.cells (M16 zI) 26)).heap.size := by simp
  have SM := fun h1 h2 => l07Moved_sh dx dy h1 h2 w.heap.size f hf ((w.alloc (.cells (M16 f) 26)).alloc (.cells (M16 zI) 26)) S0
  have IX := Lib.hid (fun w => l00In_any dx (-16) 16 w)
  have IY := Lib.hid (fun w => l00In_any dy (-16) 16 w)
  rw [show (decide (-16 ≤ dx) && decide (dx ≤ 16)) = shB dx from rfl] at IX
  rw [show (decide (-16 ≤ dy) && decide (dy ≤ 16)) = shB dy from rfl] at IY
  have Z : M16 zI = #[Value.int .u16 0, Value.int .u16 0, Value.int .u16 0, Value.int .u16 0, Value.int .u16 0, Value.int .u16 0, Value.int .u16 0, Value.int .u16 0, Value.int .u16 0, Value.int .u16 0, Value.int .u16 0, Value.int .u16 0, Value.int .u16 0, Value.int .u16 0, Value.int .u16 0, Value.int .u16 0] := rfl
  have H1 := Lib.hid S1
  have HB := Lib.hid SB
  have HZ := Lib.hid SZ
  have HM := Lib.hid SM
  clear S1 S0 SB SZ SM hf
  rw [Z] at H1 HB HZ HM
  clear Z
  cases tx : shB dx
  · rw [tx] at IX
    simp only [Bool.false_and, Bool.false_eq_true, if_false]
    clear HM tx
    go_enter Try.func38, Try.ntmps38
    go_wp2_with (first | ((with_reducible refine (IX.out _).mono ?_); rintro e w' ⟨rfl, rfl⟩) | (refine wpList_store_row rfl 26 _ _ rfl (w.heap.size + 1) (M16 zI) rfl rfl 26 _ H1.out (mask_info _ rfl) rfl (arr_cells _ _ _) ?_))
    refine bodyPost_ret (v := .tuple #[.agg (M16 zI), .int .i64 2]) ?_ rfl ⟨rfl, ?_⟩
    · exact results_cell_tmp_row Try.results38 _ _ (w.heap.size + 1) _ _ _ _ rfl (setRow_heap _ _ _ _ _ _ H1.out) Try.underlying26 rfl (mask_info _ rfl)
    · exact below_setRow HB.out (by omega) _
  · cases ty : shB dy
    · rw [tx] at IX
      rw [ty] at IY
      simp only [Bool.and_false, Bool.false_eq_true, if_false]
      clear HM tx ty
      go_enter Try.func38, Try.ntmps38
      go_wp2_with (first | ((with_reducible refine (IX.out _).mono ?_); rintro e w' ⟨rfl, rfl⟩) | ((with_reducible refine (IY.out _).mono ?_); rintro e w' ⟨rfl, rfl⟩) | (refine wpList_store_row rfl 26 _ _ rfl (w.heap.size + 1) (M16 zI) rfl rfl 26 _ H1.out (mask_info _ rfl) rfl (arr_cells _ _ _) ?_))
      refine bodyPost_ret (v := .tuple #[.agg (M16 zI), .int .i64 2]) ?_ rfl ⟨rfl, ?_⟩
      · exact results_cell_tmp_row Try.results38 _ _ (w.heap.size + 1) _ _ _ _ rfl (setRow_heap _ _ _ _ _ _ H1.out) Try.underlying26 rfl (mask_info _ rfl)
      · exact below_setRow HB.out (by omega) _
    · have SM := Lib.hid (HM.out (shB_yes tx) (shB_yes ty))
      rw [tx] at IX
      rw [ty] at IY
      simp only [Bool.and_self, if_true]
      clear HM tx ty
      generalize mvF false (shV dx dy) (cellL f) = g at SM ⊢
      go_enter Try.func38, Try.ntmps38
      go_wp2_with (first | ((with_reducible refine (IX.out _).mono ?_); rintro e w' ⟨rfl, rfl⟩) | ((with_reducible refine (IY.out _).mono ?_); rintro e w' ⟨rfl, rfl⟩))
      generalize (w.alloc (.cells (M16 f) 26)).alloc (.cells #[Value.int .u16 0, Value.int .u16 0, Value.int .u16 0, Value.int .u16 0, Value.int .u16 0, Value.int .u16 0, Value.int .u16 0, Value.int .u16 0, Value.int .u16 0, Value.int .u16 0, Value.int .u16 0, Value.int .u16 0, Value.int .u16 0, Value.int .u16 0, Value.int .u16 0, Value.int .u16 0] 26) = w1 at H1 HB HZ SM ⊢
      refine SM.out.mono ?_
      rintro e w2 ⟨rfl, b2⟩
      have G1 : Hid (w2.heap[w.heap.size + 1]? = some (.cells #[Value.int .u16 0, Value.int .u16 0, Value.int .u16 0, Value.int .u16 0, Value.int .u16 0, Value.int .u16 0, Value.int .u16 0, Value.int .u16 0, Value.int .u16 0, Value.int .u16 0, Value.int .u16 0, Value.int .u16 0, Value.int .u16 0, Value.int .u16 0, Value.int .u16 0, Value.int .u16 0] 26 (0, 0))) := Lib.hid ((b2.block _ HZ.out).trans H1.out)
      have GB : Hid (Below w.heap.size w w2) := Lib.hid (HB.out.trans (b2.mono (by have := HZ.out; omega)))
      clear b2
      go_wp2_with (refine wpList_store_row rfl 26 _ _ rfl (w.heap.size + 1) (M16 g) rfl rfl 26 _ G1.out (mask_info _ rfl) rfl (arr_cells _ _ _) ?_)
      refine bodyPost_ret (v := .tuple #[.agg (M16 g), .int .i64 0]) ?_ rfl ⟨rfl, ?_⟩
      · exact results_cell_tmp_row Try.results38 _ _ (w.heap.size + 1) _ _ _ _ rfl (setRow_heap _ _ _ _ _ _ G1.out) Try.underlying26 rfl (mask_info _ (arr_size _ _ _))
      · exact below_setRow GB.out (by omega) _
set_option maxRecDepth 20000 in
set_option maxHeartbeats 4000000 in
theorem iShiftMask_any (f : Nat → Int) (hf : MB f) (dx dy : Int) (w : World) : Calls Try.prog 39 #[.agg (M16 f), .int .i64 dx, .int .i64 dy] w (ShiftMaskPost f dx dy w) := by
  unfold ShiftMaskPost ShiftMaskG ShiftMaskC
  have Z : M16 zI = #[Value.int .u16 0, Value.int .u16 0, Value.int .u16 0, Value.int .u16 0, Value.int .u16 0, Value.int .u16 0, Value.int .u16 0, Value.int .u16 0, Value.int .u16 0, Value.int .u16 0, Value.int .u16 0, Value.int .u16 0, Value.int .u16 0, Value.int .u16 0, Value.int .u16 0, Value.int .u16 0] := rfl
  have S0 : ((((w.alloc (.cells (M16 f) 26)).alloc (.cells #[.int .i64 dx] 2)).alloc (.cells #[.int .i64 dy] 2)).alloc (.cells (M16 zI) 26)).heap[w.heap.size]? = some (.cells (M16 f) 26 (0, 0)) :=
    (Below.heap_alloc _ _ _ (by first | (simp; done) | (simp; omega))).trans ((Below.heap_alloc _ _ _ (by first | (simp; done) | (simp; omega))).trans ((Below.heap_alloc _ _ _ (by simp)).trans (World.alloc_heap_new w _)))
  have S1 : ((((w.alloc (.cells (M16 f) 26)).alloc (.cells #[.int .i64 dx] 2)).alloc (.cells #[.int .i64 dy] 2)).alloc (.cells (M16 zI) 26)).heap[w.heap.size + 1]? = some (.cells #[.int .i64 dx] 2 (0, 0)) := by
    refine (Below.heap_alloc _ _ _ (by first | (simp; done) | (simp; omega))).trans ((Below.heap_alloc _ _ _ (by simp)).trans ?_)
    have := World.alloc_heap_new (w.alloc (.cells (M16 f) 26)) (.cells #[.int .i64 dx] 2)
    rw [World.size_alloc] at this
    exact this
  have S2 : ((((w.alloc (.cells (M16 f) 26)).alloc (.cells #[.int .i64 dx] 2)).alloc (.cells #[.int .i64 dy] 2)).alloc (.cells (M16 zI) 26)).heap[w.heap.size + 1 + 1]? = some (.cells #[.int .i64 dy] 2 (0, 0)) := by
    refine (Below.heap_alloc _ _ _ (by simp)).trans ?_
    have := World.alloc_heap_new ((w.alloc (.cells (M16 f) 26)).alloc (.cells #[.int .i64 dx] 2)) (.cells #[.int .i64 dy] 2)
    rw [World.size_alloc, World.size_alloc] at this
    exact this
  have S3 : ((((w.alloc (.cells (M16 f) 26)).alloc (.cells #[.int .i64 dx] 2)).alloc (.cells #[.int .i64 dy] 2)).alloc (.cells (M16 zI) 26)).heap[w.heap.size + 1 + 1 + 1]? = some (.cells (M16 zI) 26 (0, 0)) := by
    have := World.alloc_heap_new (((w.alloc (.cells (M16 f) 26)).alloc (.cells #[.int .i64 dx] 2)).alloc (.cells #[.int .i64 dy] 2)) (.cells (M16 zI) 26)
    rw [World.size_alloc, World.size_alloc, World.size_alloc] at this
    exact this
  have SB : Below w.heap.size w ((((w.alloc (.cells (M16 f) 26)).alloc (.cells #[.int .i64 dx] 2)).alloc (.cells #[.int .i64 dy] 2)).alloc (.cells (M16 zI) 26)) := ((((Below.refl _ w).alloc (Nat.le_refl _) _).alloc (by simp) _).alloc (by first | (simp; done) | (simp; omega)) _).alloc (by first | (simp; done) | (simp; omega)) _
  have SZ : ((((w.alloc (.cells (M16 f) 26)).alloc (.cells #[.int .i64 dx] 2)).alloc (.cells #[.int .i64 dy] 2)).alloc (.cells (M16 zI) 26)).heap.size = w.heap.size + 1 + 1 + 1 + 1 := by simp
  have IX := Lib.hid (fun w => isShift_any dx w)
  have IY := Lib.hid (fun w => isShift_any dy w)
  have H0 := Lib.hid S0
  have H1 := Lib.hid S1
  have H2 := Lib.hid S2
  have H3 := Lib.hid S3
  have HB := Lib.hid SB
  have HZ := Lib.hid SZ
  have HF := Lib.hid hf
  clear S0 S1 S2 S3 SB SZ hf
  rw [Z] at H0 H1 H2 H3 HB HZ
  clear Z
  cases tx : shB dx
  · rw [tx] at IX
    simp only [Bool.false_and, Bool.false_eq_true, if_false]
    clear tx
    go_enter Try.func39, Try.ntmps39
    go_wp2_with fail
    generalize (((w.alloc (.cells (M16 f) 26)).alloc (.cells #[.int .i64 dx] 2)).alloc (.cells #[.int .i64 dy] 2)).alloc (.cells #[Value.int .u16 0, Value.int .u16 0, Value.int .u16 0, Value.int .u16 0, Value.int .u16 0, Value.int .u16 0, Value.int .u16 0, Value.int .u16 0, Value.int .u16 0, Value.int .u16 0, Value.int .u16 0, Value.int .u16 0, Value.int .u16 0, Value.int .u16 0, Value.int .u16 0, Value.int .u16 0] 26) = w1 at H0 H1 H2 H3 HB HZ ⊢
    have c2 : w1.cell? ⟨w.heap.size + 1 + 1, 0, none⟩ = some (.int .i64 dy) := Lib.cell_of_heap H2.out 0
    refine (IX.out _).mono ?_
    rintro e w' ⟨rfl, rfl⟩
    go_wp2_with (refine wpList_store_row rfl 26 _ _ rfl (w.heap.size + 1 + 1 + 1) (M16 zI) rfl rfl 26 _ H3.out (mask_info _ rfl) rfl (arr_cells _ _ _) ?_)
    refine bodyPost_ret (v := .tuple #[.agg (M16 zI), .int .i64 2]) ?_ rfl ⟨rfl, ?_⟩
    · exact results_cell_tmp_row Try.results39 _ _ (w.heap.size + 1 + 1 + 1) _ _ _ _ rfl (setRow_heap _ _ _ _ _ _ H3.out) Try.underlying26 rfl (mask_info _ rfl)
    · exact below_setRow HB.out (by omega) _
  · cases ty : shB dy
    · rw [tx] at IX
      rw [ty] at IY
      simp only [Bool.and_false, Bool.false_eq_true, if_false]
      clear tx ty
      go_enter Try.func39, Try.ntmps39
      go_wp2_with fail
      generalize (((w.alloc (.cells (M16 f) 26)).alloc (.cells #[.int .i64 dx] 2)).alloc (.cells #[.int .i64 dy] 2)).alloc (.cells #[Value.int .u16 0, Value.int .u16 0, Value.int .u16 0, Value.int .u16 0, Value.int .u16 0, Value.int .u16 0, Value.int .u16 0, Value.int .u16 0, Value.int .u16 0, Value.int .u16 0, Value.int .u16 0, Value.int .u16 0, Value.int .u16 0, Value.int .u16 0, Value.int .u16 0, Value.int .u16 0] 26) = w1 at H0 H1 H2 H3 HB HZ ⊢
      have c2 : w1.cell? ⟨w.heap.size + 1 + 1, 0, none⟩ = some (.int .i64 dy) := Lib.cell_of_heap H2.out 0
      refine (IX.out _).mono ?_
      rintro e w' ⟨rfl, rfl⟩
      go_wp2_with (first | ((with_reducible refine (IY.out _).mono ?_); rintro e w' ⟨rfl, rfl⟩) | (refine wpList_store_row rfl 26 _ _ rfl (w.heap.size + 1 + 1 + 1) (M16 zI) rfl rfl 26 _ H3.out (mask_info _ rfl) rfl (arr_cells _ _ _) ?_))
      refine bodyPost_ret (v := .tuple #[.agg (M16 zI), .int .i64 2]) ?_ rfl ⟨rfl, ?_⟩
      · exact results_cell_tmp_row Try.results39 _ _ (w.heap.size + 1 + 1 + 1) _ _ _ _ rfl (setRow_heap _ _ _ _ _ _ H3.out) Try.underlying26 rfl (mask_info _ rfl)
      · exact below_setRow HB.out (by omega) _
    · have hx := shB_yes tx
      have hy := shB_yes ty
      have M : ∀ w1 : World, w1.heap[w.heap.size + 1]? = some (.cells #[.int .i64 dx] 2 (0, 0)) → w1.heap[w.heap.size + 1 + 1]? = some (.cells #[.int .i64 dy] 2 (0, 0)) →
          Calls Try.prog 62 #[.agg (M16 f), .func (.func 63) #[] #[.pointer (some ⟨w.heap.size + 1, 0, none⟩), .pointer (some ⟨w.heap.size + 1 + 1, 0, none⟩)]] w1 fun e w' => e = .returned (.agg (M16 (mvF true (shV dx dy) (cellL f)))) ∧ Below w1.heap.size w1 w' := fun w1 q1 q2 =>
        callsIn_wide.1 (imoved_in Fence.wide rfl 3 (by omega) 63 #[.pointer (some ⟨w.heap.size + 1, 0, none⟩), .pointer (some ⟨w.heap.size + 1 + 1, 0, none⟩)] (enters_of Try.func63 (by kernel_rfl) rfl) (shV dx dy) f HF.out w1 fun x y hx' hy' W hW =>
          sh1_any dx dy hx hy (w.heap.size + 1) (w.heap.size + 1 + 1) x y hx' hy' W (Lib.cell_of_heap ((hW.block _ (Array.getElem?_eq_some_iff.1 q1).1).trans q1) 0) (Lib.cell_of_heap ((hW.block _ (Array.getElem?_eq_some_iff.1 q2).1).trans q2) 0))
      rw [mvF_both] at M
      have HM := Lib.hid M
      rw [tx] at IX
      rw [ty] at IY
      simp only [Bool.and_self, if_true]
      clear tx ty M hx hy HF
      generalize mvF false (shV dx dy) (cellL f) = g at HM ⊢
      go_enter Try.func39, Try.ntmps39
      go_wp2_with fail
      generalize (((w.alloc (.cells (M16 f) 26)).alloc (.cells #[.int .i64 dx] 2)).alloc (.cells #[.int .i64 dy] 2)).alloc (.cells #[Value.int .u16 0, Value.int .u16 0, Value.int .u16 0, Value.int .u16 0, Value.int .u16 0, Value.int .u16 0, Value.int .u16 0, Value.int .u16 0, Value.int .u16 0, Value.int .u16 0, Value.int .u16 0, Value.int .u16 0, Value.int .u16 0, Value.int .u16 0, Value.int .u16 0, Value.int .u16 0] 26) = w1 at H0 H1 H2 H3 HB HZ ⊢
      have c2 : w1.cell? ⟨w.heap.size + 1 + 1, 0, none⟩ = some (.int .i64 dy) := Lib.cell_of_heap H2.out 0
      refine (IX.out _).mono ?_
      rintro e w' ⟨rfl, rfl⟩
      go_wp2_with (first | ((with_reducible refine (IY.out _).mono ?_); rintro e w' ⟨rfl, rfl⟩) | (refine wpList_load_row rfl 26 _ rfl w.heap.size rfl 26 _ _ _ H0.out Try.underlying26 rfl (mask_info _ (arr_size _ _ _)) ?_))
      refine (HM.out _ H1.out H2.out).mono ?_
      rintro e w2 ⟨rfl, b2⟩
      have G1 : Hid (w2.heap[w.heap.size + 1 + 1 + 1]? = some (.cells #[Value.int .u16 0, Value.int .u16 0, Value.int .u16 0, Value.int .u16 0, Value.int .u16 0, Value.int .u16 0, Value.int .u16 0, Value.int .u16 0, Value.int .u16 0, Value.int .u16 0, Value.int .u16 0, Value.int .u16 0, Value.int .u16 0, Value.int .u16 0, Value.int .u16 0, Value.int .u16 0] 26 (0, 0))) := Lib.hid ((b2.block _ (by have := HZ.out; omega)).trans H3.out)
      have GB : Hid (Below w.heap.size w w2) := Lib.hid (HB.out.trans (b2.mono (by have := HZ.out; omega)))
      clear b2
      go_wp2_with (refine wpList_store_row rfl 26 _ _ rfl (w.heap.size + 1 + 1 + 1) (M16 g) rfl rfl 26 _ G1.out (mask_info _ rfl) rfl (arr_cells _ _ _) ?_)
      refine bodyPost_ret (v := .tuple #[.agg (M16 g), .int .i64 0]) ?_ rfl ⟨rfl, ?_⟩
      · exact results_cell_tmp_row Try.results39 _ _ (w.heap.size + 1 + 1 + 1) _ _ _ _ rfl (setRow_heap _ _ _ _ _ _ G1.out) Try.underlying26 rfl (mask_info _ (arr_size _ _ _))
      · exact below_setRow GB.out (by omega) _
end Go.Proofs.Ytandgjjfiniboaa
