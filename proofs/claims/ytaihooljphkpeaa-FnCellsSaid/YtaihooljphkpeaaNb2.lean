import Derived.Test.YtaihooljphkpeaaNb
namespace Go.Proofs.Ytaihooljphkpeaa
open Go.ChangeShapes Go.WideShapes Go.ChangeAt Go.RowKit
theorem nb_bounds {a b : Int} (h : (nbB a && nbB b) = true) : -1073741824 < a ∧ a < 1073741824 ∧ -1073741824 < b ∧ b < 1073741824 := by
  unfold nbB at h; simp at h; omega
theorem own_mono {w : World} {base base' : Nat} {e : TypeId} {size : Nat} {v : Value} {n : Nat} {xs : List Value} (h : w.ownsRow base e size v n xs) (hb : base' ≤ base) : w.ownsRow base' e size v n xs := by
  refine ⟨h.1, ?_⟩
  rcases h.2 with h2 | ⟨g, cap, cur, hv, h3, rest⟩
  · exact .inl h2
  · exact .inr ⟨g, cap, cur, hv, by omega, rest⟩
set_option maxRecDepth 8000 in
set_option maxHeartbeats 4000000 in
theorem specNb_in (a b : Int) (ha : -2147483648 ≤ a ∧ a ≤ 2147483647) (hb : -2147483648 ≤ b ∧ b ≤ 2147483647) (h : (nbB a && nbB b) = true) (w : World) :
    Calls Try.prog 11 #[.agg #[.int .i32 a, .int .i32 b]] w fun e w' => RowOf w.heap.size (nbL a b) 8 e w' ∧ Below w.heap.size w w' := by
  obtain ⟨g1, g2, g3, g4⟩ := nb_bounds h
  have HC := Lib.hid (inCell_any a b ha hb)
  rw [h] at HC
  clear ha hb h
  go_enter Try.func11, Try.ntmps11
  go_wp2_with fail
  refine (HC.out _).mono ?_
  rintro e w1 ⟨rfl, b1⟩
  have B1 := Lib.hid (((Below.refl (w.heap.size + 1) (w.alloc (.cells #[.int .i32 a, .int .i32 b] 29)))).trans (b1.mono (by simp)))
  have hsz := B1.out.size
  simp at hsz
  clear b1
  go_wp2_with fail
  have B0 : Hid (Below (w.heap.size + 1) (w.alloc (.cells #[.int .i32 a, .int .i32 b] 29)) (w1.alloc (.cells #[] 29))) := Lib.hid (B1.out.alloc (by omega) _)
  have H0 : Hid ((w1.alloc (.cells #[] 29)).ownsRow (w.heap.size + 1) 29 2 (.slice (some ⟨w1.heap.size, 0, none⟩) 0 0) 0 []) := Lib.hid (World.ownsRow_made w1 #[] 0 (by omega) (by decide) rfl)
  revert B0 H0
  generalize (w1.alloc (.cells #[] 29)) = w0
  generalize w1.heap.size = g0
  intro B0 H0
  clear B1 hsz
  have c0 : w0.cell? ⟨w.heap.size, 0, none⟩ = some (.int .i32 a) := by rw [B0.out.cell (p := ⟨w.heap.size, 0, none⟩) (by simp), World.cell?_alloc_new]; rfl
  have c1 : w0.cell? ⟨w.heap.size, 1, none⟩ = some (.int .i32 b) := by rw [B0.out.cell (p := ⟨w.heap.size, 1, none⟩) (by simp), World.cell?_alloc_new]; rfl
  refine wp_loop_rounds 4 ?_
  rw [rounds_succ]
  go_wp2_with fail
  refine wp_loop_rounds 4 ?_
  rw [rounds_succ]
  go_wp2_with (first | (at_builtin; refine wpList_append_cell rfl (.tmp 26) (.tmp 36) rfl (w.heap.size + 1) (w.alloc (.cells #[.int .i32 a, .int .i32 b] 29)) _ (.slice (some ⟨g0, 0, none⟩) 0 0) 0 ([] : List Value) (a - 1) (b - 1) rfl _ rfl rfl H0 B0 (by simp) (by omega) ?_; intro v1 w1 H1 B1))
  clear H0 B0 c0 c1
  have c0 : w1.cell? ⟨w.heap.size, 0, none⟩ = some (.int .i32 a) := by rw [B1.out.cell (p := ⟨w.heap.size, 0, none⟩) (by simp), World.cell?_alloc_new]; rfl
  have c1 : w1.cell? ⟨w.heap.size, 1, none⟩ = some (.int .i32 b) := by rw [B1.out.cell (p := ⟨w.heap.size, 1, none⟩) (by simp), World.cell?_alloc_new]; rfl
  rw [rounds_succ]
  go_wp2_with (first | (at_builtin; refine wpList_append_cell rfl (.tmp 26) (.tmp 36) rfl (w.heap.size + 1) (w.alloc (.cells #[.int .i32 a, .int .i32 b] 29)) _ v1 1 ([] ++ two (a - 1) (b - 1) : List Value) (a - 1) (b) rfl _ rfl rfl H1 B1 (by simp) (by omega) ?_; intro v2 w2 H2 B2))
  clear H1 B1 c0 c1
  have c0 : w2.cell? ⟨w.heap.size, 0, none⟩ = some (.int .i32 a) := by rw [B2.out.cell (p := ⟨w.heap.size, 0, none⟩) (by simp), World.cell?_alloc_new]; rfl
  have c1 : w2.cell? ⟨w.heap.size, 1, none⟩ = some (.int .i32 b) := by rw [B2.out.cell (p := ⟨w.heap.size, 1, none⟩) (by simp), World.cell?_alloc_new]; rfl
  rw [rounds_succ]
  go_wp2_with (first | (at_builtin; refine wpList_append_cell rfl (.tmp 26) (.tmp 36) rfl (w.heap.size + 1) (w.alloc (.cells #[.int .i32 a, .int .i32 b] 29)) _ v2 2 ([] ++ two (a - 1) (b - 1) ++ two (a - 1) (b) : List Value) (a - 1) (b + 1) rfl _ rfl rfl H2 B2 (by simp) (by omega) ?_; intro v3 w3 H3 B3))
  clear H2 B2 c0 c1
  have c0 : w3.cell? ⟨w.heap.size, 0, none⟩ = some (.int .i32 a) := by rw [B3.out.cell (p := ⟨w.heap.size, 0, none⟩) (by simp), World.cell?_alloc_new]; rfl
  have c1 : w3.cell? ⟨w.heap.size, 1, none⟩ = some (.int .i32 b) := by rw [B3.out.cell (p := ⟨w.heap.size, 1, none⟩) (by simp), World.cell?_alloc_new]; rfl
  rw [rounds_succ]
  go_wp2_with fail
  rw [rounds_succ]
  go_wp2_with fail
  refine wp_loop_rounds 4 ?_
  rw [rounds_succ]
  go_wp2_with (first | (at_builtin; refine wpList_append_cell rfl (.tmp 26) (.tmp 36) rfl (w.heap.size + 1) (w.alloc (.cells #[.int .i32 a, .int .i32 b] 29)) _ v3 3 ([] ++ two (a - 1) (b - 1) ++ two (a - 1) (b) ++ two (a - 1) (b + 1) : List Value) (a) (b - 1) rfl _ rfl rfl H3 B3 (by simp) (by omega) ?_; intro v4 w4 H4 B4))
  clear H3 B3 c0 c1
  have c0 : w4.cell? ⟨w.heap.size, 0, none⟩ = some (.int .i32 a) := by rw [B4.out.cell (p := ⟨w.heap.size, 0, none⟩) (by simp), World.cell?_alloc_new]; rfl
  have c1 : w4.cell? ⟨w.heap.size, 1, none⟩ = some (.int .i32 b) := by rw [B4.out.cell (p := ⟨w.heap.size, 1, none⟩) (by simp), World.cell?_alloc_new]; rfl
  rw [rounds_succ]
  go_wp2_with fail
  rw [rounds_succ]
  go_wp2_with (first | (at_builtin; refine wpList_append_cell rfl (.tmp 26) (.tmp 36) rfl (w.heap.size + 1) (w.alloc (.cells #[.int .i32 a, .int .i32 b] 29)) _ v4 4 ([] ++ two (a - 1) (b - 1) ++ two (a - 1) (b) ++ two (a - 1) (b + 1) ++ two (a) (b - 1) : List Value) (a) (b + 1) rfl _ rfl rfl H4 B4 (by simp) (by omega) ?_; intro v5 w5 H5 B5))
  clear H4 B4 c0 c1
  have c0 : w5.cell? ⟨w.heap.size, 0, none⟩ = some (.int .i32 a) := by rw [B5.out.cell (p := ⟨w.heap.size, 0, none⟩) (by simp), World.cell?_alloc_new]; rfl
  have c1 : w5.cell? ⟨w.heap.size, 1, none⟩ = some (.int .i32 b) := by rw [B5.out.cell (p := ⟨w.heap.size, 1, none⟩) (by simp), World.cell?_alloc_new]; rfl
  rw [rounds_succ]
  go_wp2_with fail
  rw [rounds_succ]
  go_wp2_with fail
  refine wp_loop_rounds 4 ?_
  rw [rounds_succ]
  go_wp2_with (first | (at_builtin; refine wpList_append_cell rfl (.tmp 26) (.tmp 36) rfl (w.heap.size + 1) (w.alloc (.cells #[.int .i32 a, .int .i32 b] 29)) _ v5 5 ([] ++ two (a - 1) (b - 1) ++ two (a - 1) (b) ++ two (a - 1) (b + 1) ++ two (a) (b - 1) ++ two (a) (b + 1) : List Value) (a + 1) (b - 1) rfl _ rfl rfl H5 B5 (by simp) (by omega) ?_; intro v6 w6 H6 B6))
  clear H5 B5 c0 c1
  have c0 : w6.cell? ⟨w.heap.size, 0, none⟩ = some (.int .i32 a) := by rw [B6.out.cell (p := ⟨w.heap.size, 0, none⟩) (by simp), World.cell?_alloc_new]; rfl
  have c1 : w6.cell? ⟨w.heap.size, 1, none⟩ = some (.int .i32 b) := by rw [B6.out.cell (p := ⟨w.heap.size, 1, none⟩) (by simp), World.cell?_alloc_new]; rfl
  rw [rounds_succ]
  go_wp2_with (first | (at_builtin; refine wpList_append_cell rfl (.tmp 26) (.tmp 36) rfl (w.heap.size + 1) (w.alloc (.cells #[.int .i32 a, .int .i32 b] 29)) _ v6 6 ([] ++ two (a - 1) (b - 1) ++ two (a - 1) (b) ++ two (a - 1) (b + 1) ++ two (a) (b - 1) ++ two (a) (b + 1) ++ two (a + 1) (b - 1) : List Value) (a + 1) (b) rfl _ rfl rfl H6 B6 (by simp) (by omega) ?_; intro v7 w7 H7 B7))
  clear H6 B6 c0 c1
  have c0 : w7.cell? ⟨w.heap.size, 0, none⟩ = some (.int .i32 a) := by rw [B7.out.cell (p := ⟨w.heap.size, 0, none⟩) (by simp), World.cell?_alloc_new]; rfl
  have c1 : w7.cell? ⟨w.heap.size, 1, none⟩ = some (.int .i32 b) := by rw [B7.out.cell (p := ⟨w.heap.size, 1, none⟩) (by simp), World.cell?_alloc_new]; rfl
  rw [rounds_succ]
  go_wp2_with (first | (at_builtin; refine wpList_append_cell rfl (.tmp 26) (.tmp 36) rfl (w.heap.size + 1) (w.alloc (.cells #[.int .i32 a, .int .i32 b] 29)) _ v7 7 ([] ++ two (a - 1) (b - 1) ++ two (a - 1) (b) ++ two (a - 1) (b + 1) ++ two (a) (b - 1) ++ two (a) (b + 1) ++ two (a + 1) (b - 1) ++ two (a + 1) (b) : List Value) (a + 1) (b + 1) rfl _ rfl rfl H7 B7 (by simp) (by omega) ?_; intro v8 w8 H8 B8))
  clear H7 B7 c0 c1
  have c0 : w8.cell? ⟨w.heap.size, 0, none⟩ = some (.int .i32 a) := by rw [B8.out.cell (p := ⟨w.heap.size, 0, none⟩) (by simp), World.cell?_alloc_new]; rfl
  have c1 : w8.cell? ⟨w.heap.size, 1, none⟩ = some (.int .i32 b) := by rw [B8.out.cell (p := ⟨w.heap.size, 1, none⟩) (by simp), World.cell?_alloc_new]; rfl
  rw [rounds_succ]
  go_wp2_with fail
  rw [rounds_succ]
  go_wp2_with fail
  go_ret2
  exact ⟨⟨_, rfl, own_mono H8.out (by omega)⟩, ((Below.refl _ _).alloc (Nat.le_refl _) _).trans (B8.out.mono (by omega))⟩
end Go.Proofs.Ytaihooljphkpeaa
