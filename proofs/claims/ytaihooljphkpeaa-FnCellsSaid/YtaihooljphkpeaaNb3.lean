import Derived.Test.YtaihooljphkpeaaNb2
namespace Go.Proofs.Ytaihooljphkpeaa
open Go.ChangeShapes Go.WideShapes Go.ChangeAt Go.RowKit
theorem eqn0 (a b : Int) (w : World) : (Op.equalIn 10000 29 (.agg #[.int .i32 (a - 1), .int .i32 (b - 1)]) (.agg #[.int .i32 a, .int .i32 b])).run Try.prog w = .ok false w := by
  rw [eqTwo]; congr 1; first | rfl | (simp; omega) | (simp)
theorem eqn1 (a b : Int) (w : World) : (Op.equalIn 10000 29 (.agg #[.int .i32 (a - 1), .int .i32 (b)]) (.agg #[.int .i32 a, .int .i32 b])).run Try.prog w = .ok false w := by
  rw [eqTwo]; congr 1; first | rfl | (simp; omega) | (simp)
theorem eqn2 (a b : Int) (w : World) : (Op.equalIn 10000 29 (.agg #[.int .i32 (a - 1), .int .i32 (b + 1)]) (.agg #[.int .i32 a, .int .i32 b])).run Try.prog w = .ok false w := by
  rw [eqTwo]; congr 1; first | rfl | (simp; omega) | (simp)
theorem eqn3 (a b : Int) (w : World) : (Op.equalIn 10000 29 (.agg #[.int .i32 (a), .int .i32 (b - 1)]) (.agg #[.int .i32 a, .int .i32 b])).run Try.prog w = .ok false w := by
  rw [eqTwo]; congr 1; first | rfl | (simp; omega) | (simp)
theorem eqn4 (a b : Int) (w : World) : (Op.equalIn 10000 29 (.agg #[.int .i32 (a), .int .i32 (b)]) (.agg #[.int .i32 a, .int .i32 b])).run Try.prog w = .ok true w := by
  rw [eqTwo]; congr 1; first | rfl | (simp; omega) | (simp)
theorem eqn5 (a b : Int) (w : World) : (Op.equalIn 10000 29 (.agg #[.int .i32 (a), .int .i32 (b + 1)]) (.agg #[.int .i32 a, .int .i32 b])).run Try.prog w = .ok false w := by
  rw [eqTwo]; congr 1; first | rfl | (simp; omega) | (simp)
theorem eqn6 (a b : Int) (w : World) : (Op.equalIn 10000 29 (.agg #[.int .i32 (a + 1), .int .i32 (b - 1)]) (.agg #[.int .i32 a, .int .i32 b])).run Try.prog w = .ok false w := by
  rw [eqTwo]; congr 1; first | rfl | (simp; omega) | (simp)
theorem eqn7 (a b : Int) (w : World) : (Op.equalIn 10000 29 (.agg #[.int .i32 (a + 1), .int .i32 (b)]) (.agg #[.int .i32 a, .int .i32 b])).run Try.prog w = .ok false w := by
  rw [eqTwo]; congr 1; first | rfl | (simp; omega) | (simp)
theorem eqn8 (a b : Int) (w : World) : (Op.equalIn 10000 29 (.agg #[.int .i32 (a + 1), .int .i32 (b + 1)]) (.agg #[.int .i32 a, .int .i32 b])).run Try.prog w = .ok false w := by
  rw [eqTwo]; congr 1; first | rfl | (simp; omega) | (simp)
def zc : Array Value := madeCells (Value.agg #[.int .i32 0, .int .i32 0]).cells 16
theorem make_cells (w : World) : (Instr.makeSlice 34 (.int .i64 0) (.int .i64 8)).run Try.prog w = .ok (.slice (some ⟨w.heap.size, 0, none⟩) 0 8) (w.alloc (.cells zc 29)) :=
  run_makeSlice (P := Try.prog) w 34 29 Try.t29 (.agg #[.int .i32 0, .int .i32 0]) Try.underlying34 (by kernel_rfl) (by kernel_rfl) .i64 .i64 0 8 (by omega) (by omega) (by decide +kernel) (by decide +kernel) (by omega)
set_option maxRecDepth 8000 in
set_option maxHeartbeats 4000000 in
theorem implNb_in (a b : Int) (h : (nbB a && nbB b) = true) (w : World) :
    Calls Try.prog 10 #[.agg #[.int .i32 a, .int .i32 b]] w fun e w' => RowOf w.heap.size (nbL a b) 8 e w' ∧ Below w.heap.size w w' := by
  obtain ⟨g1, g2, g3, g4⟩ := nb_bounds h
  have t1 : nbB a = true := by simp at h; exact h.1
  have t2 : nbB b = true := by simp at h; exact h.2
  have hmk := make_cells
  clear h
  have hq0 := eqn0 a b
  have hq1 := eqn1 a b
  have hq2 := eqn2 a b
  have hq3 := eqn3 a b
  have hq4 := eqn4 a b
  have hq5 := eqn5 a b
  have hq6 := eqn6 a b
  have hq7 := eqn7 a b
  have hq8 := eqn8 a b
  go_enter Try.func10, Try.ntmps10
  go_wp2_with (go_at_call 22; refine (hasNb_any _ _).mono ?_; rintro e w' ⟨rfl, rfl⟩)
  have B0 : Hid (Below (w.heap.size + 1) (w.alloc (.cells #[.int .i32 a, .int .i32 b] 29)) ((w.alloc (.cells #[.int .i32 a, .int .i32 b] 29)).alloc (.cells zc 29))) := Lib.hid ((Below.refl _ _).alloc (by simp) _)
  have H0 : Hid (((w.alloc (.cells #[.int .i32 a, .int .i32 b] 29)).alloc (.cells zc 29)).ownsRow (w.heap.size + 1) 29 2 (.slice (some ⟨w.heap.size + 1, 0, none⟩) 0 8) 0 []) := Lib.hid (by
    have h := World.ownsRow_made (e := 29) (size := 2) (base := w.heap.size + 1) (w.alloc (.cells #[.int .i32 a, .int .i32 b] 29)) zc 8 (by simp) (by decide) (by unfold zc; rw [size_madeCells])
    simpa using h)
  clear hmk t1 t2
  revert B0 H0
  generalize ((w.alloc (.cells #[.int .i32 a, .int .i32 b] 29)).alloc (.cells zc 29)) = w0
  intro B0 H0
  have c0 : w0.cell? ⟨w.heap.size, 0, none⟩ = some (.int .i32 a) := by rw [B0.out.cell (p := ⟨w.heap.size, 0, none⟩) (by simp), World.cell?_alloc_new]; rfl
  have c1 : w0.cell? ⟨w.heap.size, 1, none⟩ = some (.int .i32 b) := by rw [B0.out.cell (p := ⟨w.heap.size, 1, none⟩) (by simp), World.cell?_alloc_new]; rfl
  have d0 : ∀ o, (w0.alloc o).cell? ⟨w.heap.size, 0, none⟩ = some (.int .i32 a) := fun o => by rw [World.cell?_alloc_lt _ _ _ (World.block_lt_of_cell? _ _ c0)]; exact c0
  have d1 : ∀ o, (w0.alloc o).cell? ⟨w.heap.size, 1, none⟩ = some (.int .i32 b) := fun o => by rw [World.cell?_alloc_lt _ _ _ (World.block_lt_of_cell? _ _ c1)]; exact c1
  have hz : w.heap.size + 1 ≤ w0.heap.size := by have := B0.out.size; simp at this; omega
  refine wp_loop_rounds 4 ?_
  rw [rounds_succ]
  go_wp2_with fail
  refine wp_loop_rounds 4 ?_
  rw [rounds_succ]
  go_wp2_with (at_builtin; refine wpList_append_cell rfl (.tmp 45) (.tmp 47) rfl (w.heap.size + 1) (w.alloc (.cells #[.int .i32 a, .int .i32 b] 29)) (w0.alloc (.cells #[.int .i32 (a - 1), .int .i32 (b - 1)] 29)) (.slice (some ⟨w.heap.size + 1, 0, none⟩) 0 8) 0 ([] : List Value) (a - 1) (b - 1) rfl _ (by simp) rfl (own_alloc H0.out _) (B0.out.alloc (by omega) _) (by simp) (by omega) ?_; intro v1 w1 H1 B1)
  clear H0 B0 c0 c1 d0 d1 hz
  have c0 : w1.cell? ⟨w.heap.size, 0, none⟩ = some (.int .i32 a) := by rw [B1.out.cell (p := ⟨w.heap.size, 0, none⟩) (by simp), World.cell?_alloc_new]; rfl
  have c1 : w1.cell? ⟨w.heap.size, 1, none⟩ = some (.int .i32 b) := by rw [B1.out.cell (p := ⟨w.heap.size, 1, none⟩) (by simp), World.cell?_alloc_new]; rfl
  have d0 : ∀ o, (w1.alloc o).cell? ⟨w.heap.size, 0, none⟩ = some (.int .i32 a) := fun o => by rw [World.cell?_alloc_lt _ _ _ (World.block_lt_of_cell? _ _ c0)]; exact c0
  have d1 : ∀ o, (w1.alloc o).cell? ⟨w.heap.size, 1, none⟩ = some (.int .i32 b) := fun o => by rw [World.cell?_alloc_lt _ _ _ (World.block_lt_of_cell? _ _ c1)]; exact c1
  have hz : w.heap.size + 1 ≤ w1.heap.size := by have := B1.out.size; simp at this; omega
  rw [rounds_succ]
  go_wp2_with (at_builtin; refine wpList_append_cell rfl (.tmp 45) (.tmp 47) rfl (w.heap.size + 1) (w.alloc (.cells #[.int .i32 a, .int .i32 b] 29)) (w1.alloc (.cells #[.int .i32 (a - 1), .int .i32 (b)] 29)) v1 1 ([] ++ two (a - 1) (b - 1) : List Value) (a - 1) (b) rfl _ (by simp) rfl (own_alloc H1.out _) (B1.out.alloc (by omega) _) (by simp) (by omega) ?_; intro v2 w2 H2 B2)
  clear H1 B1 c0 c1 d0 d1 hz
  have c0 : w2.cell? ⟨w.heap.size, 0, none⟩ = some (.int .i32 a) := by rw [B2.out.cell (p := ⟨w.heap.size, 0, none⟩) (by simp), World.cell?_alloc_new]; rfl
  have c1 : w2.cell? ⟨w.heap.size, 1, none⟩ = some (.int .i32 b) := by rw [B2.out.cell (p := ⟨w.heap.size, 1, none⟩) (by simp), World.cell?_alloc_new]; rfl
  have d0 : ∀ o, (w2.alloc o).cell? ⟨w.heap.size, 0, none⟩ = some (.int .i32 a) := fun o => by rw [World.cell?_alloc_lt _ _ _ (World.block_lt_of_cell? _ _ c0)]; exact c0
  have d1 : ∀ o, (w2.alloc o).cell? ⟨w.heap.size, 1, none⟩ = some (.int .i32 b) := fun o => by rw [World.cell?_alloc_lt _ _ _ (World.block_lt_of_cell? _ _ c1)]; exact c1
  have hz : w.heap.size + 1 ≤ w2.heap.size := by have := B2.out.size; simp at this; omega
  rw [rounds_succ]
  go_wp2_with (at_builtin; refine wpList_append_cell rfl (.tmp 45) (.tmp 47) rfl (w.heap.size + 1) (w.alloc (.cells #[.int .i32 a, .int .i32 b] 29)) (w2.alloc (.cells #[.int .i32 (a - 1), .int .i32 (b + 1)] 29)) v2 2 ([] ++ two (a - 1) (b - 1) ++ two (a - 1) (b) : List Value) (a - 1) (b + 1) rfl _ (by simp) rfl (own_alloc H2.out _) (B2.out.alloc (by omega) _) (by simp) (by omega) ?_; intro v3 w3 H3 B3)
  clear H2 B2 c0 c1 d0 d1 hz
  have c0 : w3.cell? ⟨w.heap.size, 0, none⟩ = some (.int .i32 a) := by rw [B3.out.cell (p := ⟨w.heap.size, 0, none⟩) (by simp), World.cell?_alloc_new]; rfl
  have c1 : w3.cell? ⟨w.heap.size, 1, none⟩ = some (.int .i32 b) := by rw [B3.out.cell (p := ⟨w.heap.size, 1, none⟩) (by simp), World.cell?_alloc_new]; rfl
  have d0 : ∀ o, (w3.alloc o).cell? ⟨w.heap.size, 0, none⟩ = some (.int .i32 a) := fun o => by rw [World.cell?_alloc_lt _ _ _ (World.block_lt_of_cell? _ _ c0)]; exact c0
  have d1 : ∀ o, (w3.alloc o).cell? ⟨w.heap.size, 1, none⟩ = some (.int .i32 b) := fun o => by rw [World.cell?_alloc_lt _ _ _ (World.block_lt_of_cell? _ _ c1)]; exact c1
  have hz : w.heap.size + 1 ≤ w3.heap.size := by have := B3.out.size; simp at this; omega
  rw [rounds_succ]
  go_wp2_with fail
  rw [rounds_succ]
  go_wp2_with fail
  refine wp_loop_rounds 4 ?_
  rw [rounds_succ]
  go_wp2_with (at_builtin; refine wpList_append_cell rfl (.tmp 45) (.tmp 47) rfl (w.heap.size + 1) (w.alloc (.cells #[.int .i32 a, .int .i32 b] 29)) (w3.alloc (.cells #[.int .i32 (a), .int .i32 (b - 1)] 29)) v3 3 ([] ++ two (a - 1) (b - 1) ++ two (a - 1) (b) ++ two (a - 1) (b + 1) : List Value) (a) (b - 1) rfl _ (by simp) rfl (own_alloc H3.out _) (B3.out.alloc (by omega) _) (by simp) (by omega) ?_; intro v4 w4 H4 B4)
  clear H3 B3 c0 c1 d0 d1 hz
  have c0 : w4.cell? ⟨w.heap.size, 0, none⟩ = some (.int .i32 a) := by rw [B4.out.cell (p := ⟨w.heap.size, 0, none⟩) (by simp), World.cell?_alloc_new]; rfl
  have c1 : w4.cell? ⟨w.heap.size, 1, none⟩ = some (.int .i32 b) := by rw [B4.out.cell (p := ⟨w.heap.size, 1, none⟩) (by simp), World.cell?_alloc_new]; rfl
  have d0 : ∀ o, (w4.alloc o).cell? ⟨w.heap.size, 0, none⟩ = some (.int .i32 a) := fun o => by rw [World.cell?_alloc_lt _ _ _ (World.block_lt_of_cell? _ _ c0)]; exact c0
  have d1 : ∀ o, (w4.alloc o).cell? ⟨w.heap.size, 1, none⟩ = some (.int .i32 b) := fun o => by rw [World.cell?_alloc_lt _ _ _ (World.block_lt_of_cell? _ _ c1)]; exact c1
  have hz : w.heap.size + 1 ≤ w4.heap.size := by have := B4.out.size; simp at this; omega
  rw [rounds_succ]
  go_wp2_with fail
  have B' := Lib.hid (B4.out.alloc (by omega) (.cells #[.int .i32 (a), .int .i32 (b)] 29))
  have H' := Lib.hid (own_alloc H4.out (.cells #[.int .i32 (a), .int .i32 (b)] 29))
  clear B4 H4 c0 c1 d0 d1 hz
  have B4 := B'
  have H4 := H'
  clear B' H'
  revert B4 H4
  generalize (w4.alloc (.cells #[.int .i32 (a), .int .i32 (b)] 29)) = w4
  intro B4 H4
  have c0 : w4.cell? ⟨w.heap.size, 0, none⟩ = some (.int .i32 a) := by rw [B4.out.cell (p := ⟨w.heap.size, 0, none⟩) (by simp), World.cell?_alloc_new]; rfl
  have c1 : w4.cell? ⟨w.heap.size, 1, none⟩ = some (.int .i32 b) := by rw [B4.out.cell (p := ⟨w.heap.size, 1, none⟩) (by simp), World.cell?_alloc_new]; rfl
  have d0 : ∀ o, (w4.alloc o).cell? ⟨w.heap.size, 0, none⟩ = some (.int .i32 a) := fun o => by rw [World.cell?_alloc_lt _ _ _ (World.block_lt_of_cell? _ _ c0)]; exact c0
  have d1 : ∀ o, (w4.alloc o).cell? ⟨w.heap.size, 1, none⟩ = some (.int .i32 b) := fun o => by rw [World.cell?_alloc_lt _ _ _ (World.block_lt_of_cell? _ _ c1)]; exact c1
  have hz : w.heap.size + 1 ≤ w4.heap.size := by have := B4.out.size; simp at this; omega
  rw [rounds_succ]
  go_wp2_with (at_builtin; refine wpList_append_cell rfl (.tmp 45) (.tmp 47) rfl (w.heap.size + 1) (w.alloc (.cells #[.int .i32 a, .int .i32 b] 29)) (w4.alloc (.cells #[.int .i32 (a), .int .i32 (b + 1)] 29)) v4 4 ([] ++ two (a - 1) (b - 1) ++ two (a - 1) (b) ++ two (a - 1) (b + 1) ++ two (a) (b - 1) : List Value) (a) (b + 1) rfl _ (by simp) rfl (own_alloc H4.out _) (B4.out.alloc (by omega) _) (by simp) (by omega) ?_; intro v5 w5 H5 B5)
  clear H4 B4 c0 c1 d0 d1 hz
  have c0 : w5.cell? ⟨w.heap.size, 0, none⟩ = some (.int .i32 a) := by rw [B5.out.cell (p := ⟨w.heap.size, 0, none⟩) (by simp), World.cell?_alloc_new]; rfl
  have c1 : w5.cell? ⟨w.heap.size, 1, none⟩ = some (.int .i32 b) := by rw [B5.out.cell (p := ⟨w.heap.size, 1, none⟩) (by simp), World.cell?_alloc_new]; rfl
  have d0 : ∀ o, (w5.alloc o).cell? ⟨w.heap.size, 0, none⟩ = some (.int .i32 a) := fun o => by rw [World.cell?_alloc_lt _ _ _ (World.block_lt_of_cell? _ _ c0)]; exact c0
  have d1 : ∀ o, (w5.alloc o).cell? ⟨w.heap.size, 1, none⟩ = some (.int .i32 b) := fun o => by rw [World.cell?_alloc_lt _ _ _ (World.block_lt_of_cell? _ _ c1)]; exact c1
  have hz : w.heap.size + 1 ≤ w5.heap.size := by have := B5.out.size; simp at this; omega
  rw [rounds_succ]
  go_wp2_with fail
  rw [rounds_succ]
  go_wp2_with fail
  refine wp_loop_rounds 4 ?_
  rw [rounds_succ]
  go_wp2_with (at_builtin; refine wpList_append_cell rfl (.tmp 45) (.tmp 47) rfl (w.heap.size + 1) (w.alloc (.cells #[.int .i32 a, .int .i32 b] 29)) (w5.alloc (.cells #[.int .i32 (a + 1), .int .i32 (b - 1)] 29)) v5 5 ([] ++ two (a - 1) (b - 1) ++ two (a - 1) (b) ++ two (a - 1) (b + 1) ++ two (a) (b - 1) ++ two (a) (b + 1) : List Value) (a + 1) (b - 1) rfl _ (by simp) rfl (own_alloc H5.out _) (B5.out.alloc (by omega) _) (by simp) (by omega) ?_; intro v6 w6 H6 B6)
  clear H5 B5 c0 c1 d0 d1 hz
  have c0 : w6.cell? ⟨w.heap.size, 0, none⟩ = some (.int .i32 a) := by rw [B6.out.cell (p := ⟨w.heap.size, 0, none⟩) (by simp), World.cell?_alloc_new]; rfl
  have c1 : w6.cell? ⟨w.heap.size, 1, none⟩ = some (.int .i32 b) := by rw [B6.out.cell (p := ⟨w.heap.size, 1, none⟩) (by simp), World.cell?_alloc_new]; rfl
  have d0 : ∀ o, (w6.alloc o).cell? ⟨w.heap.size, 0, none⟩ = some (.int .i32 a) := fun o => by rw [World.cell?_alloc_lt _ _ _ (World.block_lt_of_cell? _ _ c0)]; exact c0
  have d1 : ∀ o, (w6.alloc o).cell? ⟨w.heap.size, 1, none⟩ = some (.int .i32 b) := fun o => by rw [World.cell?_alloc_lt _ _ _ (World.block_lt_of_cell? _ _ c1)]; exact c1
  have hz : w.heap.size + 1 ≤ w6.heap.size := by have := B6.out.size; simp at this; omega
  rw [rounds_succ]
  go_wp2_with (at_builtin; refine wpList_append_cell rfl (.tmp 45) (.tmp 47) rfl (w.heap.size + 1) (w.alloc (.cells #[.int .i32 a, .int .i32 b] 29)) (w6.alloc (.cells #[.int .i32 (a + 1), .int .i32 (b)] 29)) v6 6 ([] ++ two (a - 1) (b - 1) ++ two (a - 1) (b) ++ two (a - 1) (b + 1) ++ two (a) (b - 1) ++ two (a) (b + 1) ++ two (a + 1) (b - 1) : List Value) (a + 1) (b) rfl _ (by simp) rfl (own_alloc H6.out _) (B6.out.alloc (by omega) _) (by simp) (by omega) ?_; intro v7 w7 H7 B7)
  clear H6 B6 c0 c1 d0 d1 hz
  have c0 : w7.cell? ⟨w.heap.size, 0, none⟩ = some (.int .i32 a) := by rw [B7.out.cell (p := ⟨w.heap.size, 0, none⟩) (by simp), World.cell?_alloc_new]; rfl
  have c1 : w7.cell? ⟨w.heap.size, 1, none⟩ = some (.int .i32 b) := by rw [B7.out.cell (p := ⟨w.heap.size, 1, none⟩) (by simp), World.cell?_alloc_new]; rfl
  have d0 : ∀ o, (w7.alloc o).cell? ⟨w.heap.size, 0, none⟩ = some (.int .i32 a) := fun o => by rw [World.cell?_alloc_lt _ _ _ (World.block_lt_of_cell? _ _ c0)]; exact c0
  have d1 : ∀ o, (w7.alloc o).cell? ⟨w.heap.size, 1, none⟩ = some (.int .i32 b) := fun o => by rw [World.cell?_alloc_lt _ _ _ (World.block_lt_of_cell? _ _ c1)]; exact c1
  have hz : w.heap.size + 1 ≤ w7.heap.size := by have := B7.out.size; simp at this; omega
  rw [rounds_succ]
  go_wp2_with (at_builtin; refine wpList_append_cell rfl (.tmp 45) (.tmp 47) rfl (w.heap.size + 1) (w.alloc (.cells #[.int .i32 a, .int .i32 b] 29)) (w7.alloc (.cells #[.int .i32 (a + 1), .int .i32 (b + 1)] 29)) v7 7 ([] ++ two (a - 1) (b - 1) ++ two (a - 1) (b) ++ two (a - 1) (b + 1) ++ two (a) (b - 1) ++ two (a) (b + 1) ++ two (a + 1) (b - 1) ++ two (a + 1) (b) : List Value) (a + 1) (b + 1) rfl _ (by simp) rfl (own_alloc H7.out _) (B7.out.alloc (by omega) _) (by simp) (by omega) ?_; intro v8 w8 H8 B8)
  clear H7 B7 c0 c1 d0 d1 hz
  have c0 : w8.cell? ⟨w.heap.size, 0, none⟩ = some (.int .i32 a) := by rw [B8.out.cell (p := ⟨w.heap.size, 0, none⟩) (by simp), World.cell?_alloc_new]; rfl
  have c1 : w8.cell? ⟨w.heap.size, 1, none⟩ = some (.int .i32 b) := by rw [B8.out.cell (p := ⟨w.heap.size, 1, none⟩) (by simp), World.cell?_alloc_new]; rfl
  have d0 : ∀ o, (w8.alloc o).cell? ⟨w.heap.size, 0, none⟩ = some (.int .i32 a) := fun o => by rw [World.cell?_alloc_lt _ _ _ (World.block_lt_of_cell? _ _ c0)]; exact c0
  have d1 : ∀ o, (w8.alloc o).cell? ⟨w.heap.size, 1, none⟩ = some (.int .i32 b) := fun o => by rw [World.cell?_alloc_lt _ _ _ (World.block_lt_of_cell? _ _ c1)]; exact c1
  have hz : w.heap.size + 1 ≤ w8.heap.size := by have := B8.out.size; simp at this; omega
  rw [rounds_succ]
  go_wp2_with fail
  rw [rounds_succ]
  go_wp2_with fail
  go_ret2
  exact ⟨⟨_, rfl, own_mono H8.out (by omega)⟩, ((Below.refl _ _).alloc (Nat.le_refl _) _).trans (B8.out.mono (by omega))⟩
end Go.Proofs.Ytaihooljphkpeaa
