/-
  THE LAW's COPY of a block.
-/
import Derived.Test.YthfmkejdpflpcaaDb
import Derived.WalkSmall
namespace Go.Proofs.Ythfmkejdpflpcaa
open Go.ChangeShapes Go.WideShapes Go.ChangeAt Go.RowKit
theorem toCo_any (a b : Int) (w : World) :
    Calls Try.prog 106 #[.agg #[.int .i32 a, .int .i32 b]] w fun e w' => e = .returned (.agg #[.int .i32 a, .int .i32 b]) ∧ Below w.heap.size w w' := by
  go_enter Try.func106, Try.ntmps106
  go_wp2
  refine wp_loop_rounds 3 ?_
  iterate 3
    rw [rounds_succ]
    go_wp2
  refine bodyPost_ret (v := .agg #[.int .i32 a, .int .i32 b]) (by simp [results, Try.results106, go_sem]) rfl ⟨rfl, ?_⟩
  exact (((Below.refl _ _).alloc (Nat.le_refl _) _).alloc (by simp) _).alloc (by simp; omega) _
/-- a block: its corner, its mask -/
def bl (p q : Int) (h : Nat → Int) : Array Value := #[.int .i32 p, .int .i32 q] ++ M16 h
theorem bl_size (p q : Int) (h : Nat → Int) : (bl p q h).size = 18 := by simp [bl, M16, arr_size]
theorem bl_zero : bl 0 0 zI = #[Value.int .i32 0, Value.int .i32 0, Value.int .u16 0, Value.int .u16 0, Value.int .u16 0, Value.int .u16 0, Value.int .u16 0, Value.int .u16 0, Value.int .u16 0, Value.int .u16 0, Value.int .u16 0, Value.int .u16 0, Value.int .u16 0, Value.int .u16 0, Value.int .u16 0, Value.int .u16 0, Value.int .u16 0, Value.int .u16 0] := rfl
theorem bl_mask (p q : Int) (h : Nat → Int) (j : Nat) (v : Value) (e : (M16 h)[j]? = some v) : (bl p q h)[2 + j]? = some v := by
  unfold bl
  rw [Array.getElem?_append_right (by simp), ← e]
  congr 1
  simp
theorem bl_co (p q : Int) (h : Nat → Int) (j : Nat) (v : Value) (e : (#[Value.int .i32 p, .int .i32 q] : Array Value)[j]? = some v) : (bl p q h)[0 + j]? = some v := by
  unfold bl
  have hj : j < 2 := by
    rcases Nat.lt_or_ge j 2 with h | h
    · exact h
    · rw [Array.getElem?_eq_none (by simpa using h)] at e; cases e
  rw [Nat.zero_add, Array.getElem?_append_left (by simpa using hj), e]
theorem bl_set1 (p q : Int) (h : Nat → Int) (p' q' : Int) : (splice (bl p q h).toList 0 (#[Value.int .i32 p', .int .i32 q'] : Array Value).toList).toArray = bl p' q' h := by
  unfold splice bl
  simp
theorem bl_set2 (p q : Int) (h h' : Nat → Int) : (splice (bl p q h).toList 2 (M16 h').toList).toArray = bl p q h' := by
  unfold splice bl
  simp [arr_size, M16]
theorem co_one (p q : Int) : (#[Value.int .i32 p, .int .i32 q] : Array Value).all (·.oneCell') = true := Array.all_eq_true_iff_forall_mem.2 (fun v hv => by
  simp at hv
  rcases hv with rfl | rfl <;> rfl)
theorem bl_one (p q : Int) (h : Nat → Int) : (bl p q h).all (·.oneCell') = true := by
  unfold bl
  rw [Array.all_append, show (M16 h).all (·.oneCell') = true from arr_cells _ _ _, co_one]
  rfl
theorem ib_info (A : Array Value) (h : A.size = 18) : (Try.prog.info? 73).map (·.size) = some A.size := by rw [h]; kernel_rfl
theorem co_info (A : Array Value) (h : A.size = 2) : (Try.prog.info? 46).map (·.size) = some A.size := by rw [h]; kernel_rfl
theorem p2_info (A : Array Value) (h : A.size = 2) : (Try.prog.info? 45).map (·.size) = some A.size := by rw [h]; kernel_rfl
set_option maxRecDepth 20000 in
set_option maxHeartbeats 4000000 in
theorem toBl_any (p q : Int) (mk : Nat → Int) (w : World) :
    Calls Try.prog 63 #[.agg (bl p q mk)] w fun e w' => e = .returned (.agg (bl p q mk)) ∧ Below w.heap.size w w' := by
  obtain ⟨W0, hW0⟩ : ∃ W0, ((w.alloc (.cells (bl p q mk) 79)).alloc (.cells #[Value.int .i32 0, Value.int .i32 0, Value.int .u16 0, Value.int .u16 0, Value.int .u16 0, Value.int .u16 0, Value.int .u16 0, Value.int .u16 0, Value.int .u16 0, Value.int .u16 0, Value.int .u16 0, Value.int .u16 0, Value.int .u16 0, Value.int .u16 0, Value.int .u16 0, Value.int .u16 0, Value.int .u16 0, Value.int .u16 0] 73)).alloc (.cells #[Value.int .i32 0, Value.int .i32 0, Value.int .u16 0, Value.int .u16 0, Value.int .u16 0, Value.int .u16 0, Value.int .u16 0, Value.int .u16 0, Value.int .u16 0, Value.int .u16 0, Value.int .u16 0, Value.int .u16 0, Value.int .u16 0, Value.int .u16 0, Value.int .u16 0, Value.int .u16 0, Value.int .u16 0, Value.int .u16 0] 73) = W0 := ⟨_, rfl⟩
  have A0 : Hid (W0.heap[w.heap.size]? = some (.cells (bl p q mk) 79 (0, 0))) := Lib.hid (by rw [← hW0]; exact (Below.heap_alloc _ _ _ (by first | (simp; done) | (simp; omega))).trans ((Below.heap_alloc _ _ _ (by simp)).trans (World.alloc_heap_new w _)))
  have A1 : Hid (W0.heap[w.heap.size + 1]? = some (.cells #[Value.int .i32 0, Value.int .i32 0, Value.int .u16 0, Value.int .u16 0, Value.int .u16 0, Value.int .u16 0, Value.int .u16 0, Value.int .u16 0, Value.int .u16 0, Value.int .u16 0, Value.int .u16 0, Value.int .u16 0, Value.int .u16 0, Value.int .u16 0, Value.int .u16 0, Value.int .u16 0, Value.int .u16 0, Value.int .u16 0] 73 (0, 0))) := Lib.hid (by
    rw [← hW0]
    have := World.alloc_heap_new (w.alloc (.cells (bl p q mk) 79)) (.cells #[Value.int .i32 0, Value.int .i32 0, Value.int .u16 0, Value.int .u16 0, Value.int .u16 0, Value.int .u16 0, Value.int .u16 0, Value.int .u16 0, Value.int .u16 0, Value.int .u16 0, Value.int .u16 0, Value.int .u16 0, Value.int .u16 0, Value.int .u16 0, Value.int .u16 0, Value.int .u16 0, Value.int .u16 0, Value.int .u16 0] 73)
    rw [World.size_alloc] at this
    exact (Below.heap_alloc _ _ _ (by simp)).trans this)
  have A2 : Hid (W0.heap[w.heap.size + 1 + 1]? = some (.cells #[Value.int .i32 0, Value.int .i32 0, Value.int .u16 0, Value.int .u16 0, Value.int .u16 0, Value.int .u16 0, Value.int .u16 0, Value.int .u16 0, Value.int .u16 0, Value.int .u16 0, Value.int .u16 0, Value.int .u16 0, Value.int .u16 0, Value.int .u16 0, Value.int .u16 0, Value.int .u16 0, Value.int .u16 0, Value.int .u16 0] 73 (0, 0))) := Lib.hid (by
    rw [← hW0]
    have := World.alloc_heap_new ((w.alloc (.cells (bl p q mk) 79)).alloc (.cells #[Value.int .i32 0, Value.int .i32 0, Value.int .u16 0, Value.int .u16 0, Value.int .u16 0, Value.int .u16 0, Value.int .u16 0, Value.int .u16 0, Value.int .u16 0, Value.int .u16 0, Value.int .u16 0, Value.int .u16 0, Value.int .u16 0, Value.int .u16 0, Value.int .u16 0, Value.int .u16 0, Value.int .u16 0, Value.int .u16 0] 73)) (.cells #[Value.int .i32 0, Value.int .i32 0, Value.int .u16 0, Value.int .u16 0, Value.int .u16 0, Value.int .u16 0, Value.int .u16 0, Value.int .u16 0, Value.int .u16 0, Value.int .u16 0, Value.int .u16 0, Value.int .u16 0, Value.int .u16 0, Value.int .u16 0, Value.int .u16 0, Value.int .u16 0, Value.int .u16 0, Value.int .u16 0] 73)
    rw [World.size_alloc, World.size_alloc] at this
    exact this)
  have AB : Hid (Below w.heap.size w W0) := Lib.hid (by rw [← hW0]; exact (((Below.refl _ w).alloc (Nat.le_refl _) _).alloc (by simp) _).alloc (by first | (simp; done) | (simp; omega)) _)
  have AZ : Hid (W0.heap.size = w.heap.size + 1 + 1 + 1) := Lib.hid (by rw [← hW0]; simp)
  obtain ⟨B, hB⟩ : ∃ B, bl p q mk = B := ⟨_, rfl⟩
  have LC : Hid (∀ j v, (#[Value.int .i32 p, .int .i32 q] : Array Value)[j]? = some v → B[0 + j]? = some v) := Lib.hid (by rw [← hB]; exact bl_co p q mk)
  have LM : Hid (∀ j v, (M16 mk)[j]? = some v → B[2 + j]? = some v) := Lib.hid (by rw [← hB]; exact bl_mask p q mk)
  rw [hB] at A0 hW0 ⊢
  go_enter Try.func63, Try.ntmps63
  have ZE : Hid (#[Value.int .i32 0, Value.int .i32 0, Value.int .u16 0, Value.int .u16 0, Value.int .u16 0, Value.int .u16 0, Value.int .u16 0, Value.int .u16 0, Value.int .u16 0, Value.int .u16 0, Value.int .u16 0, Value.int .u16 0, Value.int .u16 0, Value.int .u16 0, Value.int .u16 0, Value.int .u16 0, Value.int .u16 0, Value.int .u16 0] = bl 0 0 zI) := Lib.hid rfl
  have SB : Hid (∀ a b k, (bl a b k).size = 18) := Lib.hid bl_size
  go_wp2_with (refine wpList_load_part rfl 45 _ rfl w.heap.size 0 rfl #[Value.int .i32 p, .int .i32 q] _ (fun j v e => by rw [Lib.cell_of_heap A0.out]; exact LC.out j v e) Try.underlying45 rfl (p2_info _ rfl) ?_)
  clear hW0
  refine (toCo_any p q W0).mono ?_
  rintro e w2 ⟨rfl, b2⟩
  have z0 := AZ.out
  have B0 := Lib.hid ((b2.block w.heap.size (by omega)).trans A0.out)
  have B1 := Lib.hid ((b2.block (w.heap.size + 1) (by omega)).trans A1.out)
  have B2 : Hid (w2.heap[w.heap.size + 1 + 1]? = some (.cells (bl 0 0 zI) 73 (0, 0))) := Lib.hid ((b2.block (w.heap.size + 1 + 1) (by omega)).trans A2.out)
  have BB := Lib.hid (AB.out.trans (b2.mono (by omega)))
  have BZ : Hid (w.heap.size + 1 + 1 + 1 ≤ w2.heap.size) := Lib.hid (by have := b2.size; omega)
  obtain ⟨W3, hW3⟩ : ∃ W3, w2.setRow (w.heap.size + 1 + 1) (bl p q zI) = W3 := ⟨_, rfl⟩
  have S1 : Hid ((splice (bl 0 0 zI).toList 0 (#[Value.int .i32 p, .int .i32 q] : Array Value).toList).toArray = bl p q zI) := Lib.hid (bl_set1 0 0 zI p q)
  have C0 : Hid (W3.heap[w.heap.size]? = some (.cells B 79 (0, 0))) := Lib.hid (by rw [← hW3, setRow_other _ _ _ _ (by omega)]; exact B0.out)
  have C1 : Hid (W3.heap[w.heap.size + 1]? = some (.cells #[Value.int .i32 0, Value.int .i32 0, Value.int .u16 0, Value.int .u16 0, Value.int .u16 0, Value.int .u16 0, Value.int .u16 0, Value.int .u16 0, Value.int .u16 0, Value.int .u16 0, Value.int .u16 0, Value.int .u16 0, Value.int .u16 0, Value.int .u16 0, Value.int .u16 0, Value.int .u16 0, Value.int .u16 0, Value.int .u16 0] 73 (0, 0))) := Lib.hid (by rw [← hW3, setRow_other _ _ _ _ (by omega)]; exact B1.out)
  have C2 : Hid (W3.heap[w.heap.size + 1 + 1]? = some (.cells (bl p q zI) 73 (0, 0))) := Lib.hid (by rw [← hW3]; exact setRow_heap _ _ _ _ _ _ B2.out)
  have CB : Hid (Below w.heap.size w W3) := Lib.hid (by rw [← hW3]; exact below_setRow BB.out (by omega) _)
  have CZ : Hid (w.heap.size + 1 + 1 + 1 ≤ W3.heap.size) := Lib.hid (by rw [← hW3]; simpa using BZ.out)
  clear b2 A0 A1 A2 AB AZ z0
  go_wp2_with (first | (refine wpList_store_part rfl 46 _ _ rfl (w.heap.size + 1 + 1) 0 #[Value.int .i32 p, .int .i32 q] rfl rfl 73 _ B2.out (co_info _ rfl) (by rw [SB.out]; simp) (co_one p q) ?_; rw [S1.out, hW3]) | (refine wpList_load_part rfl 70 _ rfl w.heap.size 2 rfl (M16 mk) _ (fun j v e => by rw [Lib.cell_of_heap C0.out]; exact LM.out j v e) Try.underlying70 rfl (a16_info _ (arr_size _ _ _)) ?_))
  clear hW3 S1
  refine (toMask_any mk W3).mono ?_
  rintro e w4 ⟨rfl, b4⟩
  have D1 := Lib.hid ((b4.block (w.heap.size + 1) (by have := CZ.out; omega)).trans C1.out)
  have D2 := Lib.hid ((b4.block (w.heap.size + 1 + 1) (by have := CZ.out; omega)).trans C2.out)
  have DB := Lib.hid (CB.out.trans (b4.mono (by have := CZ.out; omega)))
  obtain ⟨W5, hW5⟩ : ∃ W5, w4.setRow (w.heap.size + 1 + 1) B = W5 := ⟨_, rfl⟩
  have S2 : Hid ((splice (bl p q zI).toList 2 (M16 mk).toList).toArray = B) := Lib.hid (by rw [bl_set2, hB])
  have E1 : Hid (W5.heap[w.heap.size + 1]? = some (.cells #[Value.int .i32 0, Value.int .i32 0, Value.int .u16 0, Value.int .u16 0, Value.int .u16 0, Value.int .u16 0, Value.int .u16 0, Value.int .u16 0, Value.int .u16 0, Value.int .u16 0, Value.int .u16 0, Value.int .u16 0, Value.int .u16 0, Value.int .u16 0, Value.int .u16 0, Value.int .u16 0, Value.int .u16 0, Value.int .u16 0] 73 (0, 0))) := Lib.hid (by rw [← hW5, setRow_other _ _ _ _ (by omega)]; exact D1.out)
  have E2 : Hid (W5.heap[w.heap.size + 1 + 1]? = some (.cells B 73 (0, 0))) := Lib.hid (by rw [← hW5]; exact setRow_heap _ _ _ _ _ _ D2.out)
  have EB : Hid (Below w.heap.size w W5) := Lib.hid (by rw [← hW5]; exact below_setRow DB.out (by omega) _)
  have B18 : Hid (B.size = 18) := Lib.hid (by rw [← hB]; exact bl_size _ _ _)
  have B1C : Hid (B.all (·.oneCell') = true) := Lib.hid (by rw [← hB]; exact bl_one _ _ _)
  clear b4 C0 C1 C2 CB CZ
  go_wp2_with (first | (refine wpList_store_part rfl 71 _ _ rfl (w.heap.size + 1 + 1) 2 (M16 mk) rfl rfl 73 _ D2.out (mask_info _ (arr_size _ _ _)) (by rw [SB.out, show (M16 mk).size = 16 from arr_size _ _ _]; decide) (arr_cells _ _ _) ?_; rw [S2.out, hW5]) | (refine wpList_load_row rfl 73 _ rfl (w.heap.size + 1 + 1) rfl 73 _ _ _ E2.out Try.underlying73 rfl (ib_info _ B18.out) ?_) | (refine wpList_store_row rfl 73 _ _ rfl (w.heap.size + 1) B rfl rfl 73 _ E1.out (ib_info _ B18.out) (by rw [B18.out]; rfl) B1C.out ?_))
  refine bodyPost_ret (v := .agg B) ?_ rfl ⟨rfl, ?_⟩
  · exact results_cell_row Try.results63 _ _ (w.heap.size + 1) 73 B (0, 0) _ rfl (setRow_heap _ _ _ _ _ _ E1.out) Try.underlying73 rfl (ib_info _ B18.out)
  · exact below_setRow EB.out (by omega) _
end Go.Proofs.Ythfmkejdpflpcaa
