/-
  HOW THE LAWS TAKE MASKS and hold them against each other.
-/
import Derived.Test.YthfmkejdpflpcaaMh
namespace Go.Proofs.Ythfmkejdpflpcaa
open Go.ChangeShapes Go.WideShapes Go.ChangeAt Go.RowKit
theorem mdrewN {B : Nat} {w w' : World} (h : Below B w w') (n : Nat) : Below B w (w'.drewN n) := h.trans ⟨rfl, rfl, rfl, Nat.le_refl _, fun _ _ => rfl⟩
set_option maxRecDepth 20000 in
set_option maxHeartbeats 2000000 in
theorem toMask_any (f : Nat → Int) (w : World) :
    Calls Try.prog 107 #[.agg (M16 f)] w fun e w' => e = .returned (.agg (M16 f)) ∧ Below w.heap.size w w' := by
  have S0 : (((w.alloc (.cells (M16 f) 70)).alloc (.cells (M16 zI) 71)).alloc (.cells (M16 zI) 71)).heap[w.heap.size]? = some (.cells (M16 f) 70 (0, 0)) := ((Below.heap_alloc _ _ _ (by simp; omega)).trans (Below.heap_alloc _ _ _ (by simp))).trans (World.alloc_heap_new w _)
  have S1 : (((w.alloc (.cells (M16 f) 70)).alloc (.cells (M16 zI) 71)).alloc (.cells (M16 zI) 71)).heap[w.heap.size + 1]? = some (.cells (M16 zI) 71 (0, 0)) := by
    refine (Below.heap_alloc _ _ _ (by simp)).trans ?_
    have := World.alloc_heap_new (w.alloc (.cells (M16 f) 70)) (.cells (M16 zI) 71)
    rw [World.size_alloc] at this
    exact this
  have S2 : (((w.alloc (.cells (M16 f) 70)).alloc (.cells (M16 zI) 71)).alloc (.cells (M16 zI) 71)).heap[w.heap.size + 1 + 1]? = some (.cells (M16 zI) 71 (0, 0)) := by
    have := World.alloc_heap_new ((w.alloc (.cells (M16 f) 70)).alloc (.cells (M16 zI) 71)) (.cells (M16 zI) 71)
    rw [World.size_alloc, World.size_alloc] at this
    exact this
  have SB : Below w.heap.size w (((w.alloc (.cells (M16 f) 70)).alloc (.cells (M16 zI) 71)).alloc (.cells (M16 zI) 71)) := (((Below.refl _ w).alloc (Nat.le_refl _) _).alloc (by simp) _).alloc (by simp; omega) _
  have H0 := Lib.hid S0
  have H1 := Lib.hid S1
  have H2 := Lib.hid S2
  have HB := Lib.hid SB
  clear S0 S1 S2 SB
  have Z : M16 zI = #[Value.int .u16 0, Value.int .u16 0, Value.int .u16 0, Value.int .u16 0, Value.int .u16 0, Value.int .u16 0, Value.int .u16 0, Value.int .u16 0, Value.int .u16 0, Value.int .u16 0, Value.int .u16 0, Value.int .u16 0, Value.int .u16 0, Value.int .u16 0, Value.int .u16 0, Value.int .u16 0] := rfl
  rw [Z] at H0 H1 H2 HB
  go_enter Try.func107, Try.ntmps107
  clear Z
  go_wp2
  generalize ((w.alloc (.cells (M16 f) 70)).alloc (.cells #[Value.int .u16 0, Value.int .u16 0, Value.int .u16 0, Value.int .u16 0, Value.int .u16 0, Value.int .u16 0, Value.int .u16 0, Value.int .u16 0, Value.int .u16 0, Value.int .u16 0, Value.int .u16 0, Value.int .u16 0, Value.int .u16 0, Value.int .u16 0, Value.int .u16 0, Value.int .u16 0] 71)).alloc (.cells #[Value.int .u16 0, Value.int .u16 0, Value.int .u16 0, Value.int .u16 0, Value.int .u16 0, Value.int .u16 0, Value.int .u16 0, Value.int .u16 0, Value.int .u16 0, Value.int .u16 0, Value.int .u16 0, Value.int .u16 0, Value.int .u16 0, Value.int .u16 0, Value.int .u16 0, Value.int .u16 0] 71) = w1 at H0 H1 H2 HB ⊢
  have H2' : Hid (w1.heap[w.heap.size + 1 + 1]? = some (.cells (M16 (mixI zI f 0)) 71 (0, 0))) := Lib.hid (by rw [mixI_zero]; exact H2.out)
  clear H2
  go_loopw [4] (fun i wr => ∃ k : Nat, k ≤ 16 ∧ i = .int .i64 k ∧ wr.heap[w.heap.size + 1 + 1]? = some (.cells (M16 (mixI zI f k)) 71 (0, 0)) ∧ wr.heap[w.heap.size]? = some (.cells (M16 f) 70 (0, 0)) ∧ wr.heap[w.heap.size + 1]? = some (.cells #[Value.int .u16 0, Value.int .u16 0, Value.int .u16 0, Value.int .u16 0, Value.int .u16 0, Value.int .u16 0, Value.int .u16 0, Value.int .u16 0, Value.int .u16 0, Value.int .u16 0, Value.int .u16 0, Value.int .u16 0, Value.int .u16 0, Value.int .u16 0, Value.int .u16 0, Value.int .u16 0] 71 (0, 0)) ∧ Below w.heap.size w wr) (fun i _ => 16 - (intOf i).toNat)
  case atStart => exact ⟨0, Nat.zero_le _, rfl, H2'.out, H0.out, H1.out, HB.out⟩
  case round =>
    obtain ⟨k, hk, rfl, h2, h0, h1, hB⟩ := hrel
    have K2 := Lib.hid h2
    have K0 := Lib.hid h0
    have K1 := Lib.hid h1
    have KB := Lib.hid hB
    clear h2 h0 h1 hB H0 H1 H2' HB
    by_cases hlt : k < 16
    · have t1 : (k : Int) < 16 := by omega
      have HK := Lib.hid hlt
      have c0 : wr.cell? ⟨w.heap.size, k, none⟩ = some (.int .u16 (f k)) := (Lib.cell_of_heap K0.out k).trans (arr_get _ _ _ _ hlt)
      have c2 : wr.cell? ⟨w.heap.size + 1 + 1, k, none⟩ = some (.int .u16 (mixI zI f k k)) := (Lib.cell_of_heap K2.out k).trans (arr_get _ _ _ _ hlt)
      have f2 : wr.frozen? ⟨w.heap.size + 1 + 1, k, none⟩ = false := Lib.frozen_of_heap K2.out k
      generalize mixI zI f k k = v at c2
      clear hlt hk
      go_wp2
      go_roundw
      case rel => exact ⟨k + 1, by have := HK.out; omega, by go_num, by rw [mset_at K2.out, arr_set _ _ _ _ _ HK.out, mixI_step], by rw [mset_far (by omega)]; exact K0.out, by rw [mset_far (by omega)]; exact K1.out, KB.out.setCell (p := ⟨w.heap.size + 1 + 1, _, none⟩) (by simp; omega) _⟩
      case measure => have := HK.out; simp [intOf]; omega
    · obtain rfl : k = 16 := by omega
      have G2 : Hid (wr.heap[w.heap.size + 1 + 1]? = some (.cells (M16 f) 71 (0, 0))) := Lib.hid (by have := K2.out; rwa [show M16 (mixI zI f 16) = M16 f from arr_mix .u16 16 zI f] at this)
      clear K2 hk hlt
      go_wp2_with (first | (refine wpList_load_row rfl 71 _ rfl (w.heap.size + 1 + 1) rfl 71 _ _ _ G2.out Try.underlying71 rfl (mask_info _ (arr_size _ _ _)) ?_) | (refine wpList_store_row rfl 71 _ _ rfl (w.heap.size + 1) (M16 f) rfl rfl 71 _ K1.out (mask_info _ rfl) rfl (arr_cells _ _ _) ?_))
      refine bodyPost_ret (v := .agg (M16 f)) ?_ rfl ⟨rfl, ?_⟩
      · exact results_cell_row Try.results107 _ _ (w.heap.size + 1) _ _ _ _ rfl (setRow_heap _ _ _ _ _ _ K1.out) Try.underlying71 rfl (mask_info _ (arr_size _ _ _))
      · exact below_setRow KB.out (by omega) _
set_option maxRecDepth 20000 in
set_option maxHeartbeats 2000000 in
theorem eqMask_any (f g : Nat → Int) (h : M16 g = M16 f) (w : World) :
    Calls Try.prog 101 #[.agg (M16 f), .agg (M16 g)] w fun e w' => e = .returned (.bool true) ∧ Below w.heap.size w w' := by
  rw [h]
  clear h
  have R0 : Hid (((w.alloc (.cells (M16 f) 71)).alloc (.cells (M16 f) 71)).heap[w.heap.size]? = some (.cells (M16 f) 71 (0, 0))) := Lib.hid ((Below.heap_alloc _ _ _ (by simp)).trans (World.alloc_heap_new w _))
  have R1 : Hid (((w.alloc (.cells (M16 f) 71)).alloc (.cells (M16 f) 71)).heap[w.heap.size + 1]? = some (.cells (M16 f) 71 (0, 0))) := Lib.hid (by
    have := World.alloc_heap_new (w.alloc (.cells (M16 f) 71)) (.cells (M16 f) 71)
    rw [World.size_alloc] at this
    exact this)
  have BB : Hid (Below w.heap.size w ((w.alloc (.cells (M16 f) 71)).alloc (.cells (M16 f) 71))) := Lib.hid (((Below.refl _ w).alloc (Nat.le_refl _) _).alloc (by simp) _)
  go_enter Try.func101, Try.ntmps101
  go_wp2
  generalize (w.alloc (.cells (M16 f) 71)).alloc (.cells (M16 f) 71) = w1 at R0 R1 BB ⊢
  go_loopw [5] (fun i wr => ∃ k n : Nat, k ≤ 16 ∧ i = .int .i64 k ∧ wr = w1.drewN n) (fun i _ => 16 - (intOf i).toNat)
  case atStart => exact ⟨0, 0, by omega, rfl, rfl⟩
  case round =>
    obtain ⟨k, n, hk, rfl, hw⟩ := hrel
    have W := Lib.hid hw
    by_cases hlt : k < 16
    · have hlt' : (k : Int) < 16 := by omega
      have c1 : wr.cell? ⟨w.heap.size, k, none⟩ = some (.int .u16 (f k)) := by rw [hw]; exact (Lib.cell_of_heap R0.out k).trans (arr_get _ _ _ _ hlt)
      have c2 : wr.cell? ⟨w.heap.size + 1, k, none⟩ = some (.int .u16 (f k)) := by rw [hw]; exact (Lib.cell_of_heap R1.out k).trans (arr_get _ _ _ _ hlt)
      clear hw
      generalize f k = v at c1 c2
      go_wp2
      go_quiet (fail)
      go_wp2
      go_roundw
      case rel => exact ⟨k + 1, _, by omega, by go_num, by rw [W.out, World.drewN_drewN]⟩
      case measure => simp [intOf]; omega
    · obtain rfl : k = 16 := by omega
      have B : Hid (Below w.heap.size w wr) := Lib.hid (by rw [hw]; exact BB.out.trans ⟨rfl, rfl, rfl, Nat.le_refl _, fun _ _ => rfl⟩)
      clear hw W
      go_wp2
      go_ret
      exact ⟨rfl, B.out⟩
end Go.Proofs.Ythfmkejdpflpcaa
