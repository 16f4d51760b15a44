/-
  CONTRACTS: JoinMasks, MeetMasks, MinusMasks on both sides.
-/
import Derived.Test.YthfmkejdpflpcaaRw
namespace Go.Proofs.Ythfmkejdpflpcaa
open Go.ChangeShapes Go.WideShapes Go.ChangeAt Go.RowKit Go.Shelf
def JoinMasksG (a b : Nat → Int) : Nat → Int := rowF (fun x y => bits .or .u16 x y) a b
theorem JoinMasks1_any (x y : Int) (hx : 0 ≤ x ∧ x ≤ 65535) (hy : 0 ≤ y ∧ y ≤ 65535) (w : World) :
    Calls Try.prog 119 #[.int .u16 x, .int .u16 y] w fun e w' => e = .returned (.int .u16 (bits .or .u16 x y)) ∧ w = w' := by
  obtain ⟨x0, x1⟩ := hx
  obtain ⟨y0, y1⟩ := hy
  go_enter Try.func119, Try.ntmps119
  go_wp2
  go_ret
  exact ⟨rfl, rfl⟩
def JoinMasksPost (a b : Nat → Int) (w : World) (e : Ending) (w' : World) : Prop := e = .returned (.agg (M16 (JoinMasksG a b))) ∧ Below w.heap.size w w'
set_option maxRecDepth 20000 in
set_option maxHeartbeats 2000000 in
theorem iJoinMasks_any (a b : Nat → Int) (ha : MB a) (hb : MB b) (w : World) : Calls Try.prog 71 #[.agg (M16 a), .agg (M16 b)] w (JoinMasksPost a b w) := by
  unfold JoinMasksPost JoinMasksG
  have M : ∀ w, Calls Try.prog 118 #[.agg (M16 a), .agg (M16 b), .func (.func 119) #[] #[]] w fun e w' => e = .returned (.agg (M16 (rowF (fun x y => bits .or .u16 x y) a b))) ∧ Below w.heap.size w w' := fun w =>
    callsIn_wide.1 (rowBy_in Fence.wide rfl 3 (by omega) 119 (enters_of Try.func119 (by kernel_rfl) rfl) _ a b ha hb w fun x y hx hy W => JoinMasks1_any x y hx hy W)
  have HM := Lib.hid M
  clear M ha hb
  have S2 : (((w.alloc (.cells (M16 a) 71)).alloc (.cells (M16 b) 71)).alloc (.cells (M16 zI) 71)).heap[w.heap.size + 1 + 1]? = some (.cells (M16 zI) 71 (0, 0)) := by
    have := World.alloc_heap_new ((w.alloc (.cells (M16 a) 71)).alloc (.cells (M16 b) 71)) (.cells (M16 zI) 71)
    rw [World.size_alloc, World.size_alloc] at this
    exact this
  have S1 : (((w.alloc (.cells (M16 a) 71)).alloc (.cells (M16 b) 71)).alloc (.cells (M16 zI) 71)).heap[w.heap.size + 1]? = some (.cells (M16 b) 71 (0, 0)) := by
    refine (Below.heap_alloc _ _ _ (by simp)).trans ?_
    have := World.alloc_heap_new (w.alloc (.cells (M16 a) 71)) (.cells (M16 b) 71)
    rw [World.size_alloc] at this
    exact this
  have S0 : (((w.alloc (.cells (M16 a) 71)).alloc (.cells (M16 b) 71)).alloc (.cells (M16 zI) 71)).heap[w.heap.size]? = some (.cells (M16 a) 71 (0, 0)) := (Below.heap_alloc _ _ _ (by first | (simp; done) | (simp; omega))).trans ((Below.heap_alloc _ _ _ (by simp)).trans (World.alloc_heap_new w _))
  have SB : Below w.heap.size w (((w.alloc (.cells (M16 a) 71)).alloc (.cells (M16 b) 71)).alloc (.cells (M16 zI) 71)) := (((Below.refl _ w).alloc (Nat.le_refl _) _).alloc (by simp) _).alloc (by first | (simp; done) | (simp; omega)) _
  have SZ : w.heap.size + 1 + 1 < (((w.alloc (.cells (M16 a) 71)).alloc (.cells (M16 b) 71)).alloc (.cells (M16 zI) 71)).heap.size := by simp
  have Z : M16 zI = #[Value.int .u16 0, Value.int .u16 0, Value.int .u16 0, Value.int .u16 0, Value.int .u16 0, Value.int .u16 0, Value.int .u16 0, Value.int .u16 0, Value.int .u16 0, Value.int .u16 0, Value.int .u16 0, Value.int .u16 0, Value.int .u16 0, Value.int .u16 0, Value.int .u16 0, Value.int .u16 0] := rfl
  have H2 := Lib.hid S2
  have H1 := Lib.hid S1
  have H0 := Lib.hid S0
  have HB := Lib.hid SB
  have HZ := Lib.hid SZ
  clear S2 S1 S0 SB SZ
  rw [Z] at H2 H1 H0 HB HZ
  clear Z
  generalize rowF (fun x y => bits .or .u16 x y) a b = g at HM ⊢
  go_enter Try.func71, Try.ntmps71
  go_wp2_with (first | (refine wpList_load_row rfl 71 _ rfl w.heap.size rfl 71 _ _ _ H0.out Try.underlying71 rfl (mask_info _ (arr_size _ _ _)) ?_) | (refine wpList_load_row rfl 71 _ rfl (w.heap.size + 1) rfl 71 _ _ _ H1.out Try.underlying71 rfl (mask_info _ (arr_size _ _ _)) ?_))
  generalize ((w.alloc (.cells (M16 a) 71)).alloc (.cells (M16 b) 71)).alloc (.cells #[Value.int .u16 0, Value.int .u16 0, Value.int .u16 0, Value.int .u16 0, Value.int .u16 0, Value.int .u16 0, Value.int .u16 0, Value.int .u16 0, Value.int .u16 0, Value.int .u16 0, Value.int .u16 0, Value.int .u16 0, Value.int .u16 0, Value.int .u16 0, Value.int .u16 0, Value.int .u16 0] 71) = w1 at H2 H1 H0 HB HZ ⊢
  refine (HM.out _).mono ?_
  rintro e w2 ⟨rfl, b2⟩
  have G1 : Hid (w2.heap[w.heap.size + 1 + 1]? = some (.cells #[Value.int .u16 0, Value.int .u16 0, Value.int .u16 0, Value.int .u16 0, Value.int .u16 0, Value.int .u16 0, Value.int .u16 0, Value.int .u16 0, Value.int .u16 0, Value.int .u16 0, Value.int .u16 0, Value.int .u16 0, Value.int .u16 0, Value.int .u16 0, Value.int .u16 0, Value.int .u16 0] 71 (0, 0))) := Lib.hid ((b2.block _ HZ.out).trans H2.out)
  have GB : Hid (Below w.heap.size w w2) := Lib.hid (HB.out.trans (b2.mono (by have := HZ.out; omega)))
  clear b2
  go_wp2_with (refine wpList_store_row rfl 71 _ _ rfl (w.heap.size + 1 + 1) (M16 g) rfl rfl 71 _ G1.out (mask_info _ rfl) rfl (arr_cells _ _ _) ?_)
  refine bodyPost_ret (v := .agg (M16 g)) ?_ rfl ⟨rfl, ?_⟩
  · exact results_cell_row Try.results71 _ _ (w.heap.size + 1 + 1) _ _ _ _ rfl (setRow_heap _ _ _ _ _ _ G1.out) Try.underlying71 rfl (mask_info _ (arr_size _ _ _))
  · exact below_setRow GB.out (by omega) _
set_option maxRecDepth 20000 in
set_option maxHeartbeats 4000000 in
theorem sJoinMasks_any (a b : Nat → Int) (ha : MB a) (hb : MB b) (w : World) : Calls Try.prog 115 #[.agg (M16 a), .agg (M16 b)] w (JoinMasksPost a b w) := by
  unfold JoinMasksPost JoinMasksG
  have S2 : (((w.alloc (.cells (M16 a) 71)).alloc (.cells (M16 b) 71)).alloc (.cells (M16 zI) 71)).heap[w.heap.size + 1 + 1]? = some (.cells (M16 zI) 71 (0, 0)) := by
    have := World.alloc_heap_new ((w.alloc (.cells (M16 a) 71)).alloc (.cells (M16 b) 71)) (.cells (M16 zI) 71)
    rw [World.size_alloc, World.size_alloc] at this
    exact this
  have S1 : (((w.alloc (.cells (M16 a) 71)).alloc (.cells (M16 b) 71)).alloc (.cells (M16 zI) 71)).heap[w.heap.size + 1]? = some (.cells (M16 b) 71 (0, 0)) := by
    refine (Below.heap_alloc _ _ _ (by simp)).trans ?_
    have := World.alloc_heap_new (w.alloc (.cells (M16 a) 71)) (.cells (M16 b) 71)
    rw [World.size_alloc] at this
    exact this
  have S0 : (((w.alloc (.cells (M16 a) 71)).alloc (.cells (M16 b) 71)).alloc (.cells (M16 zI) 71)).heap[w.heap.size]? = some (.cells (M16 (mixI a (rowF (fun x y => bits .or .u16 x y) a b) 0)) 71 (0, 0)) := by rw [mixI_zero]; exact (Below.heap_alloc _ _ _ (by first | (simp; done) | (simp; omega))).trans ((Below.heap_alloc _ _ _ (by simp)).trans (World.alloc_heap_new w _))
  have SB : Below w.heap.size w (((w.alloc (.cells (M16 a) 71)).alloc (.cells (M16 b) 71)).alloc (.cells (M16 zI) 71)) := (((Below.refl _ w).alloc (Nat.le_refl _) _).alloc (by simp) _).alloc (by first | (simp; done) | (simp; omega)) _
  have Z : M16 zI = #[Value.int .u16 0, Value.int .u16 0, Value.int .u16 0, Value.int .u16 0, Value.int .u16 0, Value.int .u16 0, Value.int .u16 0, Value.int .u16 0, Value.int .u16 0, Value.int .u16 0, Value.int .u16 0, Value.int .u16 0, Value.int .u16 0, Value.int .u16 0, Value.int .u16 0, Value.int .u16 0] := rfl
  have H2 := Lib.hid S2
  have H1 := Lib.hid S1
  have H0 := Lib.hid S0
  have HB := Lib.hid SB
  have HA := Lib.hid ha
  have HBB := Lib.hid hb
  clear S2 S1 S0 SB ha hb
  rw [Z] at H2 H1 H0 HB
  clear Z
  go_enter Try.func115, Try.ntmps115
  go_wp2
  generalize ((w.alloc (.cells (M16 a) 71)).alloc (.cells (M16 b) 71)).alloc (.cells #[Value.int .u16 0, Value.int .u16 0, Value.int .u16 0, Value.int .u16 0, Value.int .u16 0, Value.int .u16 0, Value.int .u16 0, Value.int .u16 0, Value.int .u16 0, Value.int .u16 0, Value.int .u16 0, Value.int .u16 0, Value.int .u16 0, Value.int .u16 0, Value.int .u16 0, Value.int .u16 0] 71) = w1 at H2 H1 H0 HB ⊢
  go_loopw [5] (fun i wr => ∃ y : Nat, y ≤ 16 ∧ i = .int .i64 (y : Int) ∧ wr.heap[w.heap.size]? = some (.cells (M16 (mixI a (rowF (fun x y => bits .or .u16 x y) a b) y)) 71 (0, 0)) ∧ wr.heap[w.heap.size + 1]? = some (.cells (M16 b) 71 (0, 0)) ∧ wr.heap[w.heap.size + 1 + 1]? = some (.cells #[Value.int .u16 0, Value.int .u16 0, Value.int .u16 0, Value.int .u16 0, Value.int .u16 0, Value.int .u16 0, Value.int .u16 0, Value.int .u16 0, Value.int .u16 0, Value.int .u16 0, Value.int .u16 0, Value.int .u16 0, Value.int .u16 0, Value.int .u16 0, Value.int .u16 0, Value.int .u16 0] 71 (0, 0)) ∧ Below w.heap.size w wr) (fun i _ => 16 - (intOf i).toNat)
  case atStart => exact ⟨0, by omega, rfl, H0.out, H1.out, H2.out, HB.out⟩
  case round =>
    obtain ⟨y, hy, rfl, h0, h1, h2, hB⟩ := hrel
    have K0 := Lib.hid h0
    have K1 := Lib.hid h1
    have K2 := Lib.hid h2
    have KB := Lib.hid hB
    clear h0 h1 h2 hB H0 H1 H2 HB
    by_cases hlt : y < 16
    · have ty : (y : Int) < 16 := by omega
      have HY := Lib.hid hlt
      have c0 : wr.cell? ⟨w.heap.size, y, none⟩ = some (.int .u16 (a y)) := (Lib.cell_of_heap K0.out y).trans ((arr_get _ _ _ _ hlt).trans (by rw [mixI_at]))
      have f0 : wr.frozen? ⟨w.heap.size, y, none⟩ = false := Lib.frozen_of_heap K0.out y
      have c1 : wr.cell? ⟨w.heap.size + 1, y, none⟩ = some (.int .u16 (b y)) := (Lib.cell_of_heap K1.out y).trans (arr_get _ _ _ _ hlt)
      obtain ⟨a0, a1⟩ := HA.out y hlt
      obtain ⟨b0, b1⟩ := HBB.out y hlt
      have NX : Hid (updI (mixI a (rowF (fun x y => bits .or .u16 x y) a b) y) y (bits .or .u16 (a y) (b y)) = mixI a (rowF (fun x y => bits .or .u16 x y) a b) (y + 1)) := Lib.hid (mixI_step _ _ _)
      clear hlt hy
      go_wp2
      go_still_tail 8, (by kernel_rfl)
      change wpList _ _ _ _ _ wr.drew
      generalize a y = x1 at c0 NX a0 a1 ⊢
      generalize b y = x2 at c1 NX b0 b1 ⊢
      generalize bits .or .u16 x1 x2 = p at NX ⊢
      have L0 : Hid ((wr.drew.setCell ⟨w.heap.size, y, none⟩ (.int .u16 p)).heap[w.heap.size]? = some (.cells (M16 (mixI a (rowF (fun x y => bits .or .u16 x y) a b) (y + 1))) 71 (0, 0))) := Lib.hid (by rw [mset_at (w := wr.drew) K0.out, arr_set _ _ _ _ _ HY.out, NX.out])
      have L1 : Hid ((wr.drew.setCell ⟨w.heap.size, y, none⟩ (.int .u16 p)).heap[w.heap.size + 1]? = some (.cells (M16 b) 71 (0, 0))) := Lib.hid (by rw [mset_far (by omega)]; exact K1.out)
      have L2 : Hid ((wr.drew.setCell ⟨w.heap.size, y, none⟩ (.int .u16 p)).heap[w.heap.size + 1 + 1]? = some (.cells #[Value.int .u16 0, Value.int .u16 0, Value.int .u16 0, Value.int .u16 0, Value.int .u16 0, Value.int .u16 0, Value.int .u16 0, Value.int .u16 0, Value.int .u16 0, Value.int .u16 0, Value.int .u16 0, Value.int .u16 0, Value.int .u16 0, Value.int .u16 0, Value.int .u16 0, Value.int .u16 0] 71 (0, 0))) := Lib.hid (by rw [mset_far (by omega)]; exact K2.out)
      have LB : Hid (Below w.heap.size w (wr.drew.setCell ⟨w.heap.size, y, none⟩ (.int .u16 p))) := Lib.hid (KB.out.drew.setCell (p := ⟨w.heap.size, y, none⟩) (by simp) _)
      have c3 : wr.drew.cell? ⟨w.heap.size, y, none⟩ = some (.int .u16 x1) := c0
      have f3 : wr.drew.frozen? ⟨w.heap.size, y, none⟩ = false := f0
      clear c0 f0 c1 K0 K1 K2 KB
      generalize wr.drew = W1 at L0 L1 L2 LB c3 f3 ⊢
      go_wp2
      go_roundw
      case rel => exact ⟨y + 1, HY.out, by go_num, L0.out, L1.out, L2.out, LB.out⟩
      case measure => have := HY.out; simp [intOf]; omega
    · obtain rfl : y = 16 := by omega
      have G0 : Hid (wr.heap[w.heap.size]? = some (.cells (M16 (rowF (fun x y => bits .or .u16 x y) a b)) 71 (0, 0))) := Lib.hid (by have := K0.out; rwa [show M16 (mixI a (rowF (fun x y => bits .or .u16 x y) a b) 16) = M16 (rowF (fun x y => bits .or .u16 x y) a b) from arr_mix .u16 16 a _] at this)
      clear K0 hlt hy
      go_wp2_with (first | (refine wpList_load_row rfl 71 _ rfl w.heap.size rfl 71 _ _ _ G0.out Try.underlying71 rfl (mask_info _ (arr_size _ _ _)) ?_) | (refine wpList_store_row rfl 71 _ _ rfl (w.heap.size + 1 + 1) (M16 (rowF (fun x y => bits .or .u16 x y) a b)) rfl rfl 71 _ K2.out (mask_info _ rfl) (by rw [arr_size]; rfl) (arr_cells _ _ _) ?_))
      refine bodyPost_ret (v := .agg (M16 (rowF (fun x y => bits .or .u16 x y) a b))) ?_ rfl ⟨rfl, ?_⟩
      · exact results_cell_row Try.results115 _ _ (w.heap.size + 1 + 1) _ _ _ _ rfl (setRow_heap _ _ _ _ _ _ K2.out) Try.underlying71 rfl (mask_info _ (arr_size _ _ _))
      · exact below_setRow KB.out (by omega) _
def MeetMasksG (a b : Nat → Int) : Nat → Int := rowF (fun x y => bits .and .u16 x y) a b
theorem MeetMasks1_any (x y : Int) (hx : 0 ≤ x ∧ x ≤ 65535) (hy : 0 ≤ y ∧ y ≤ 65535) (w : World) :
    Calls Try.prog 120 #[.int .u16 x, .int .u16 y] w fun e w' => e = .returned (.int .u16 (bits .and .u16 x y)) ∧ w = w' := by
  obtain ⟨x0, x1⟩ := hx
  obtain ⟨y0, y1⟩ := hy
  go_enter Try.func120, Try.ntmps120
  go_wp2
  go_ret
  exact ⟨rfl, rfl⟩
def MeetMasksPost (a b : Nat → Int) (w : World) (e : Ending) (w' : World) : Prop := e = .returned (.agg (M16 (MeetMasksG a b))) ∧ Below w.heap.size w w'
set_option maxRecDepth 20000 in
set_option maxHeartbeats 2000000 in
theorem iMeetMasks_any (a b : Nat → Int) (ha : MB a) (hb : MB b) (w : World) : Calls Try.prog 74 #[.agg (M16 a), .agg (M16 b)] w (MeetMasksPost a b w) := by
  unfold MeetMasksPost MeetMasksG
  have M : ∀ w, Calls Try.prog 118 #[.agg (M16 a), .agg (M16 b), .func (.func 120) #[] #[]] w fun e w' => e = .returned (.agg (M16 (rowF (fun x y => bits .and .u16 x y) a b))) ∧ Below w.heap.size w w' := fun w =>
    callsIn_wide.1 (rowBy_in Fence.wide rfl 3 (by omega) 120 (enters_of Try.func120 (by kernel_rfl) rfl) _ a b ha hb w fun x y hx hy W => MeetMasks1_any x y hx hy W)
  have HM := Lib.hid M
  clear M ha hb
  have S2 : (((w.alloc (.cells (M16 a) 71)).alloc (.cells (M16 b) 71)).alloc (.cells (M16 zI) 71)).heap[w.heap.size + 1 + 1]? = some (.cells (M16 zI) 71 (0, 0)) := by
    have := World.alloc_heap_new ((w.alloc (.cells (M16 a) 71)).alloc (.cells (M16 b) 71)) (.cells (M16 zI) 71)
    rw [World.size_alloc, World.size_alloc] at this
    exact this
  have S1 : (((w.alloc (.cells (M16 a) 71)).alloc (.cells (M16 b) 71)).alloc (.cells (M16 zI) 71)).heap[w.heap.size + 1]? = some (.cells (M16 b) 71 (0, 0)) := by
    refine (Below.heap_alloc _ _ _ (by simp)).trans ?_
    have := World.alloc_heap_new (w.alloc (.cells (M16 a) 71)) (.cells (M16 b) 71)
    rw [World.size_alloc] at this
    exact this
  have S0 : (((w.alloc (.cells (M16 a) 71)).alloc (.cells (M16 b) 71)).alloc (.cells (M16 zI) 71)).heap[w.heap.size]? = some (.cells (M16 a) 71 (0, 0)) := (Below.heap_alloc _ _ _ (by first | (simp; done) | (simp; omega))).trans ((Below.heap_alloc _ _ _ (by simp)).trans (World.alloc_heap_new w _))
  have SB : Below w.heap.size w (((w.alloc (.cells (M16 a) 71)).alloc (.cells (M16 b) 71)).alloc (.cells (M16 zI) 71)) := (((Below.refl _ w).alloc (Nat.le_refl _) _).alloc (by simp) _).alloc (by first | (simp; done) | (simp; omega)) _
  have SZ : w.heap.size + 1 + 1 < (((w.alloc (.cells (M16 a) 71)).alloc (.cells (M16 b) 71)).alloc (.cells (M16 zI) 71)).heap.size := by simp
  have Z : M16 zI = #[Value.int .u16 0, Value.int .u16 0, Value.int .u16 0, Value.int .u16 0, Value.int .u16 0, Value.int .u16 0, Value.int .u16 0, Value.int .u16 0, Value.int .u16 0, Value.int .u16 0, Value.int .u16 0, Value.int .u16 0, Value.int .u16 0, Value.int .u16 0, Value.int .u16 0, Value.int .u16 0] := rfl
  have H2 := Lib.hid S2
  have H1 := Lib.hid S1
  have H0 := Lib.hid S0
  have HB := Lib.hid SB
  have HZ := Lib.hid SZ
  clear S2 S1 S0 SB SZ
  rw [Z] at H2 H1 H0 HB HZ
  clear Z
  generalize rowF (fun x y => bits .and .u16 x y) a b = g at HM ⊢
  go_enter Try.func74, Try.ntmps74
  go_wp2_with (first | (refine wpList_load_row rfl 71 _ rfl w.heap.size rfl 71 _ _ _ H0.out Try.underlying71 rfl (mask_info _ (arr_size _ _ _)) ?_) | (refine wpList_load_row rfl 71 _ rfl (w.heap.size + 1) rfl 71 _ _ _ H1.out Try.underlying71 rfl (mask_info _ (arr_size _ _ _)) ?_))
  generalize ((w.alloc (.cells (M16 a) 71)).alloc (.cells (M16 b) 71)).alloc (.cells #[Value.int .u16 0, Value.int .u16 0, Value.int .u16 0, Value.int .u16 0, Value.int .u16 0, Value.int .u16 0, Value.int .u16 0, Value.int .u16 0, Value.int .u16 0, Value.int .u16 0, Value.int .u16 0, Value.int .u16 0, Value.int .u16 0, Value.int .u16 0, Value.int .u16 0, Value.int .u16 0] 71) = w1 at H2 H1 H0 HB HZ ⊢
  refine (HM.out _).mono ?_
  rintro e w2 ⟨rfl, b2⟩
  have G1 : Hid (w2.heap[w.heap.size + 1 + 1]? = some (.cells #[Value.int .u16 0, Value.int .u16 0, Value.int .u16 0, Value.int .u16 0, Value.int .u16 0, Value.int .u16 0, Value.int .u16 0, Value.int .u16 0, Value.int .u16 0, Value.int .u16 0, Value.int .u16 0, Value.int .u16 0, Value.int .u16 0, Value.int .u16 0, Value.int .u16 0, Value.int .u16 0] 71 (0, 0))) := Lib.hid ((b2.block _ HZ.out).trans H2.out)
  have GB : Hid (Below w.heap.size w w2) := Lib.hid (HB.out.trans (b2.mono (by have := HZ.out; omega)))
  clear b2
  go_wp2_with (refine wpList_store_row rfl 71 _ _ rfl (w.heap.size + 1 + 1) (M16 g) rfl rfl 71 _ G1.out (mask_info _ rfl) rfl (arr_cells _ _ _) ?_)
  refine bodyPost_ret (v := .agg (M16 g)) ?_ rfl ⟨rfl, ?_⟩
  · exact results_cell_row Try.results74 _ _ (w.heap.size + 1 + 1) _ _ _ _ rfl (setRow_heap _ _ _ _ _ _ G1.out) Try.underlying71 rfl (mask_info _ (arr_size _ _ _))
  · exact below_setRow GB.out (by omega) _
set_option maxRecDepth 20000 in
set_option maxHeartbeats 4000000 in
theorem sMeetMasks_any (a b : Nat → Int) (ha : MB a) (hb : MB b) (w : World) : Calls Try.prog 72 #[.agg (M16 a), .agg (M16 b)] w (MeetMasksPost a b w) := by
  unfold MeetMasksPost MeetMasksG
  have S2 : (((w.alloc (.cells (M16 a) 71)).alloc (.cells (M16 b) 71)).alloc (.cells (M16 zI) 71)).heap[w.heap.size + 1 + 1]? = some (.cells (M16 zI) 71 (0, 0)) := by
    have := World.alloc_heap_new ((w.alloc (.cells (M16 a) 71)).alloc (.cells (M16 b) 71)) (.cells (M16 zI) 71)
    rw [World.size_alloc, World.size_alloc] at this
    exact this
  have S1 : (((w.alloc (.cells (M16 a) 71)).alloc (.cells (M16 b) 71)).alloc (.cells (M16 zI) 71)).heap[w.heap.size + 1]? = some (.cells (M16 b) 71 (0, 0)) := by
    refine (Below.heap_alloc _ _ _ (by simp)).trans ?_
    have := World.alloc_heap_new (w.alloc (.cells (M16 a) 71)) (.cells (M16 b) 71)
    rw [World.size_alloc] at this
    exact this
  have S0 : (((w.alloc (.cells (M16 a) 71)).alloc (.cells (M16 b) 71)).alloc (.cells (M16 zI) 71)).heap[w.heap.size]? = some (.cells (M16 (mixI a (rowF (fun x y => bits .and .u16 x y) a b) 0)) 71 (0, 0)) := by rw [mixI_zero]; exact (Below.heap_alloc _ _ _ (by first | (simp; done) | (simp; omega))).trans ((Below.heap_alloc _ _ _ (by simp)).trans (World.alloc_heap_new w _))
  have SB : Below w.heap.size w (((w.alloc (.cells (M16 a) 71)).alloc (.cells (M16 b) 71)).alloc (.cells (M16 zI) 71)) := (((Below.refl _ w).alloc (Nat.le_refl _) _).alloc (by simp) _).alloc (by first | (simp; done) | (simp; omega)) _
  have Z : M16 zI = #[Value.int .u16 0, Value.int .u16 0, Value.int .u16 0, Value.int .u16 0, Value.int .u16 0, Value.int .u16 0, Value.int .u16 0, Value.int .u16 0, Value.int .u16 0, Value.int .u16 0, Value.int .u16 0, Value.int .u16 0, Value.int .u16 0, Value.int .u16 0, Value.int .u16 0, Value.int .u16 0] := rfl
  have H2 := Lib.hid S2
  have H1 := Lib.hid S1
  have H0 := Lib.hid S0
  have HB := Lib.hid SB
  have HA := Lib.hid ha
  have HBB := Lib.hid hb
  clear S2 S1 S0 SB ha hb
  rw [Z] at H2 H1 H0 HB
  clear Z
  go_enter Try.func72, Try.ntmps72
  go_wp2
  generalize ((w.alloc (.cells (M16 a) 71)).alloc (.cells (M16 b) 71)).alloc (.cells #[Value.int .u16 0, Value.int .u16 0, Value.int .u16 0, Value.int .u16 0, Value.int .u16 0, Value.int .u16 0, Value.int .u16 0, Value.int .u16 0, Value.int .u16 0, Value.int .u16 0, Value.int .u16 0, Value.int .u16 0, Value.int .u16 0, Value.int .u16 0, Value.int .u16 0, Value.int .u16 0] 71) = w1 at H2 H1 H0 HB ⊢
  go_loopw [5] (fun i wr => ∃ y : Nat, y ≤ 16 ∧ i = .int .i64 (y : Int) ∧ wr.heap[w.heap.size]? = some (.cells (M16 (mixI a (rowF (fun x y => bits .and .u16 x y) a b) y)) 71 (0, 0)) ∧ wr.heap[w.heap.size + 1]? = some (.cells (M16 b) 71 (0, 0)) ∧ wr.heap[w.heap.size + 1 + 1]? = some (.cells #[Value.int .u16 0, Value.int .u16 0, Value.int .u16 0, Value.int .u16 0, Value.int .u16 0, Value.int .u16 0, Value.int .u16 0, Value.int .u16 0, Value.int .u16 0, Value.int .u16 0, Value.int .u16 0, Value.int .u16 0, Value.int .u16 0, Value.int .u16 0, Value.int .u16 0, Value.int .u16 0] 71 (0, 0)) ∧ Below w.heap.size w wr) (fun i _ => 16 - (intOf i).toNat)
  case atStart => exact ⟨0, by omega, rfl, H0.out, H1.out, H2.out, HB.out⟩
  case round =>
    obtain ⟨y, hy, rfl, h0, h1, h2, hB⟩ := hrel
    have K0 := Lib.hid h0
    have K1 := Lib.hid h1
    have K2 := Lib.hid h2
    have KB := Lib.hid hB
    clear h0 h1 h2 hB H0 H1 H2 HB
    by_cases hlt : y < 16
    · have ty : (y : Int) < 16 := by omega
      have HY := Lib.hid hlt
      have c0 : wr.cell? ⟨w.heap.size, y, none⟩ = some (.int .u16 (a y)) := (Lib.cell_of_heap K0.out y).trans ((arr_get _ _ _ _ hlt).trans (by rw [mixI_at]))
      have f0 : wr.frozen? ⟨w.heap.size, y, none⟩ = false := Lib.frozen_of_heap K0.out y
      have c1 : wr.cell? ⟨w.heap.size + 1, y, none⟩ = some (.int .u16 (b y)) := (Lib.cell_of_heap K1.out y).trans (arr_get _ _ _ _ hlt)
      obtain ⟨a0, a1⟩ := HA.out y hlt
      obtain ⟨b0, b1⟩ := HBB.out y hlt
      have NX : Hid (updI (mixI a (rowF (fun x y => bits .and .u16 x y) a b) y) y (bits .and .u16 (a y) (b y)) = mixI a (rowF (fun x y => bits .and .u16 x y) a b) (y + 1)) := Lib.hid (mixI_step _ _ _)
      clear hlt hy
      go_wp2
      go_still_tail 8, (by kernel_rfl)
      change wpList _ _ _ _ _ wr.drew
      generalize a y = x1 at c0 NX a0 a1 ⊢
      generalize b y = x2 at c1 NX b0 b1 ⊢
      generalize bits .and .u16 x1 x2 = p at NX ⊢
      have L0 : Hid ((wr.drew.setCell ⟨w.heap.size, y, none⟩ (.int .u16 p)).heap[w.heap.size]? = some (.cells (M16 (mixI a (rowF (fun x y => bits .and .u16 x y) a b) (y + 1))) 71 (0, 0))) := Lib.hid (by rw [mset_at (w := wr.drew) K0.out, arr_set _ _ _ _ _ HY.out, NX.out])
      have L1 : Hid ((wr.drew.setCell ⟨w.heap.size, y, none⟩ (.int .u16 p)).heap[w.heap.size + 1]? = some (.cells (M16 b) 71 (0, 0))) := Lib.hid (by rw [mset_far (by omega)]; exact K1.out)
      have L2 : Hid ((wr.drew.setCell ⟨w.heap.size, y, none⟩ (.int .u16 p)).heap[w.heap.size + 1 + 1]? = some (.cells #[Value.int .u16 0, Value.int .u16 0, Value.int .u16 0, Value.int .u16 0, Value.int .u16 0, Value.int .u16 0, Value.int .u16 0, Value.int .u16 0, Value.int .u16 0, Value.int .u16 0, Value.int .u16 0, Value.int .u16 0, Value.int .u16 0, Value.int .u16 0, Value.int .u16 0, Value.int .u16 0] 71 (0, 0))) := Lib.hid (by rw [mset_far (by omega)]; exact K2.out)
      have LB : Hid (Below w.heap.size w (wr.drew.setCell ⟨w.heap.size, y, none⟩ (.int .u16 p))) := Lib.hid (KB.out.drew.setCell (p := ⟨w.heap.size, y, none⟩) (by simp) _)
      have c3 : wr.drew.cell? ⟨w.heap.size, y, none⟩ = some (.int .u16 x1) := c0
      have f3 : wr.drew.frozen? ⟨w.heap.size, y, none⟩ = false := f0
      clear c0 f0 c1 K0 K1 K2 KB
      generalize wr.drew = W1 at L0 L1 L2 LB c3 f3 ⊢
      go_wp2
      go_roundw
      case rel => exact ⟨y + 1, HY.out, by go_num, L0.out, L1.out, L2.out, LB.out⟩
      case measure => have := HY.out; simp [intOf]; omega
    · obtain rfl : y = 16 := by omega
      have G0 : Hid (wr.heap[w.heap.size]? = some (.cells (M16 (rowF (fun x y => bits .and .u16 x y) a b)) 71 (0, 0))) := Lib.hid (by have := K0.out; rwa [show M16 (mixI a (rowF (fun x y => bits .and .u16 x y) a b) 16) = M16 (rowF (fun x y => bits .and .u16 x y) a b) from arr_mix .u16 16 a _] at this)
      clear K0 hlt hy
      go_wp2_with (first | (refine wpList_load_row rfl 71 _ rfl w.heap.size rfl 71 _ _ _ G0.out Try.underlying71 rfl (mask_info _ (arr_size _ _ _)) ?_) | (refine wpList_store_row rfl 71 _ _ rfl (w.heap.size + 1 + 1) (M16 (rowF (fun x y => bits .and .u16 x y) a b)) rfl rfl 71 _ K2.out (mask_info _ rfl) (by rw [arr_size]; rfl) (arr_cells _ _ _) ?_))
      refine bodyPost_ret (v := .agg (M16 (rowF (fun x y => bits .and .u16 x y) a b))) ?_ rfl ⟨rfl, ?_⟩
      · exact results_cell_row Try.results72 _ _ (w.heap.size + 1 + 1) _ _ _ _ rfl (setRow_heap _ _ _ _ _ _ K2.out) Try.underlying71 rfl (mask_info _ (arr_size _ _ _))
      · exact below_setRow KB.out (by omega) _
def MinusMasksG (a b : Nat → Int) : Nat → Int := rowF (fun x y => bits .andNot .u16 x y) a b
theorem MinusMasks1_any (x y : Int) (hx : 0 ≤ x ∧ x ≤ 65535) (hy : 0 ≤ y ∧ y ≤ 65535) (w : World) :
    Calls Try.prog 121 #[.int .u16 x, .int .u16 y] w fun e w' => e = .returned (.int .u16 (bits .andNot .u16 x y)) ∧ w = w' := by
  obtain ⟨x0, x1⟩ := hx
  obtain ⟨y0, y1⟩ := hy
  go_enter Try.func121, Try.ntmps121
  go_wp2
  go_ret
  exact ⟨rfl, rfl⟩
def MinusMasksPost (a b : Nat → Int) (w : World) (e : Ending) (w' : World) : Prop := e = .returned (.agg (M16 (MinusMasksG a b))) ∧ Below w.heap.size w w'
set_option maxRecDepth 20000 in
set_option maxHeartbeats 2000000 in
theorem iMinusMasks_any (a b : Nat → Int) (ha : MB a) (hb : MB b) (w : World) : Calls Try.prog 76 #[.agg (M16 a), .agg (M16 b)] w (MinusMasksPost a b w) := by
  unfold MinusMasksPost MinusMasksG
  have M : ∀ w, Calls Try.prog 118 #[.agg (M16 a), .agg (M16 b), .func (.func 121) #[] #[]] w fun e w' => e = .returned (.agg (M16 (rowF (fun x y => bits .andNot .u16 x y) a b))) ∧ Below w.heap.size w w' := fun w =>
    callsIn_wide.1 (rowBy_in Fence.wide rfl 3 (by omega) 121 (enters_of Try.func121 (by kernel_rfl) rfl) _ a b ha hb w fun x y hx hy W => MinusMasks1_any x y hx hy W)
  have HM := Lib.hid M
  clear M ha hb
  have S2 : (((w.alloc (.cells (M16 a) 71)).alloc (.cells (M16 b) 71)).alloc (.cells (M16 zI) 71)).heap[w.heap.size + 1 + 1]? = some (.cells (M16 zI) 71 (0, 0)) := by
    have := World.alloc_heap_new ((w.alloc (.cells (M16 a) 71)).alloc (.cells (M16 b) 71)) (.cells (M16 zI) 71)
    rw [World.size_alloc, World.size_alloc] at this
    exact this
  have S1 : (((w.alloc (.cells (M16 a) 71)).alloc (.cells (M16 b) 71)).alloc (.cells (M16 zI) 71)).heap[w.heap.size + 1]? = some (.cells (M16 b) 71 (0, 0)) := by
    refine (Below.heap_alloc _ _ _ (by simp)).trans ?_
    have := World.alloc_heap_new (w.alloc (.cells (M16 a) 71)) (.cells (M16 b) 71)
    rw [World.size_alloc] at this
    exact this
  have S0 : (((w.alloc (.cells (M16 a) 71)).alloc (.cells (M16 b) 71)).alloc (.cells (M16 zI) 71)).heap[w.heap.size]? = some (.cells (M16 a) 71 (0, 0)) := (Below.heap_alloc _ _ _ (by first | (simp; done) | (simp; omega))).trans ((Below.heap_alloc _ _ _ (by simp)).trans (World.alloc_heap_new w _))
  have SB : Below w.heap.size w (((w.alloc (.cells (M16 a) 71)).alloc (.cells (M16 b) 71)).alloc (.cells (M16 zI) 71)) := (((Below.refl _ w).alloc (Nat.le_refl _) _).alloc (by simp) _).alloc (by first | (simp; done) | (simp; omega)) _
  have SZ : w.heap.size + 1 + 1 < (((w.alloc (.cells (M16 a) 71)).alloc (.cells (M16 b) 71)).alloc (.cells (M16 zI) 71)).heap.size := by simp
  have Z : M16 zI = #[Value.int .u16 0, Value.int .u16 0, Value.int .u16 0, Value.int .u16 0, Value.int .u16 0, Value.int .u16 0, Value.int .u16 0, Value.int .u16 0, Value.int .u16 0, Value.int .u16 0, Value.int .u16 0, Value.int .u16 0, Value.int .u16 0, Value.int .u16 0, Value.int .u16 0, Value.int .u16 0] := rfl
  have H2 := Lib.hid S2
  have H1 := Lib.hid S1
  have H0 := Lib.hid S0
  have HB := Lib.hid SB
  have HZ := Lib.hid SZ
  clear S2 S1 S0 SB SZ
  rw [Z] at H2 H1 H0 HB HZ
  clear Z
  generalize rowF (fun x y => bits .andNot .u16 x y) a b = g at HM ⊢
  go_enter Try.func76, Try.ntmps76
  go_wp2_with (first | (refine wpList_load_row rfl 71 _ rfl w.heap.size rfl 71 _ _ _ H0.out Try.underlying71 rfl (mask_info _ (arr_size _ _ _)) ?_) | (refine wpList_load_row rfl 71 _ rfl (w.heap.size + 1) rfl 71 _ _ _ H1.out Try.underlying71 rfl (mask_info _ (arr_size _ _ _)) ?_))
  generalize ((w.alloc (.cells (M16 a) 71)).alloc (.cells (M16 b) 71)).alloc (.cells #[Value.int .u16 0, Value.int .u16 0, Value.int .u16 0, Value.int .u16 0, Value.int .u16 0, Value.int .u16 0, Value.int .u16 0, Value.int .u16 0, Value.int .u16 0, Value.int .u16 0, Value.int .u16 0, Value.int .u16 0, Value.int .u16 0, Value.int .u16 0, Value.int .u16 0, Value.int .u16 0] 71) = w1 at H2 H1 H0 HB HZ ⊢
  refine (HM.out _).mono ?_
  rintro e w2 ⟨rfl, b2⟩
  have G1 : Hid (w2.heap[w.heap.size + 1 + 1]? = some (.cells #[Value.int .u16 0, Value.int .u16 0, Value.int .u16 0, Value.int .u16 0, Value.int .u16 0, Value.int .u16 0, Value.int .u16 0, Value.int .u16 0, Value.int .u16 0, Value.int .u16 0, Value.int .u16 0, Value.int .u16 0, Value.int .u16 0, Value.int .u16 0, Value.int .u16 0, Value.int .u16 0] 71 (0, 0))) := Lib.hid ((b2.block _ HZ.out).trans H2.out)
  have GB : Hid (Below w.heap.size w w2) := Lib.hid (HB.out.trans (b2.mono (by have := HZ.out; omega)))
  clear b2
  go_wp2_with (refine wpList_store_row rfl 71 _ _ rfl (w.heap.size + 1 + 1) (M16 g) rfl rfl 71 _ G1.out (mask_info _ rfl) rfl (arr_cells _ _ _) ?_)
  refine bodyPost_ret (v := .agg (M16 g)) ?_ rfl ⟨rfl, ?_⟩
  · exact results_cell_row Try.results76 _ _ (w.heap.size + 1 + 1) _ _ _ _ rfl (setRow_heap _ _ _ _ _ _ G1.out) Try.underlying71 rfl (mask_info _ (arr_size _ _ _))
  · exact below_setRow GB.out (by omega) _
set_option maxRecDepth 20000 in
set_option maxHeartbeats 4000000 in
theorem sMinusMasks_any (a b : Nat → Int) (ha : MB a) (hb : MB b) (w : World) : Calls Try.prog 75 #[.agg (M16 a), .agg (M16 b)] w (MinusMasksPost a b w) := by
  unfold MinusMasksPost MinusMasksG
  have S2 : (((w.alloc (.cells (M16 a) 71)).alloc (.cells (M16 b) 71)).alloc (.cells (M16 zI) 71)).heap[w.heap.size + 1 + 1]? = some (.cells (M16 zI) 71 (0, 0)) := by
    have := World.alloc_heap_new ((w.alloc (.cells (M16 a) 71)).alloc (.cells (M16 b) 71)) (.cells (M16 zI) 71)
    rw [World.size_alloc, World.size_alloc] at this
    exact this
  have S1 : (((w.alloc (.cells (M16 a) 71)).alloc (.cells (M16 b) 71)).alloc (.cells (M16 zI) 71)).heap[w.heap.size + 1]? = some (.cells (M16 b) 71 (0, 0)) := by
    refine (Below.heap_alloc _ _ _ (by simp)).trans ?_
    have := World.alloc_heap_new (w.alloc (.cells (M16 a) 71)) (.cells (M16 b) 71)
    rw [World.size_alloc] at this
    exact this
  have S0 : (((w.alloc (.cells (M16 a) 71)).alloc (.cells (M16 b) 71)).alloc (.cells (M16 zI) 71)).heap[w.heap.size]? = some (.cells (M16 (mixI a (rowF (fun x y => bits .andNot .u16 x y) a b) 0)) 71 (0, 0)) := by rw [mixI_zero]; exact (Below.heap_alloc _ _ _ (by first | (simp; done) | (simp; omega))).trans ((Below.heap_alloc _ _ _ (by simp)).trans (World.alloc_heap_new w _))
  have SB : Below w.heap.size w (((w.alloc (.cells (M16 a) 71)).alloc (.cells (M16 b) 71)).alloc (.cells (M16 zI) 71)) := (((Below.refl _ w).alloc (Nat.le_refl _) _).alloc (by simp) _).alloc (by first | (simp; done) | (simp; omega)) _
  have Z : M16 zI = #[Value.int .u16 0, Value.int .u16 0, Value.int .u16 0, Value.int .u16 0, Value.int .u16 0, Value.int .u16 0, Value.int .u16 0, Value.int .u16 0, Value.int .u16 0, Value.int .u16 0, Value.int .u16 0, Value.int .u16 0, Value.int .u16 0, Value.int .u16 0, Value.int .u16 0, Value.int .u16 0] := rfl
  have H2 := Lib.hid S2
  have H1 := Lib.hid S1
  have H0 := Lib.hid S0
  have HB := Lib.hid SB
  have HA := Lib.hid ha
  have HBB := Lib.hid hb
  clear S2 S1 S0 SB ha hb
  rw [Z] at H2 H1 H0 HB
  clear Z
  go_enter Try.func75, Try.ntmps75
  go_wp2
  generalize ((w.alloc (.cells (M16 a) 71)).alloc (.cells (M16 b) 71)).alloc (.cells #[Value.int .u16 0, Value.int .u16 0, Value.int .u16 0, Value.int .u16 0, Value.int .u16 0, Value.int .u16 0, Value.int .u16 0, Value.int .u16 0, Value.int .u16 0, Value.int .u16 0, Value.int .u16 0, Value.int .u16 0, Value.int .u16 0, Value.int .u16 0, Value.int .u16 0, Value.int .u16 0] 71) = w1 at H2 H1 H0 HB ⊢
  go_loopw [5] (fun i wr => ∃ y : Nat, y ≤ 16 ∧ i = .int .i64 (y : Int) ∧ wr.heap[w.heap.size]? = some (.cells (M16 (mixI a (rowF (fun x y => bits .andNot .u16 x y) a b) y)) 71 (0, 0)) ∧ wr.heap[w.heap.size + 1]? = some (.cells (M16 b) 71 (0, 0)) ∧ wr.heap[w.heap.size + 1 + 1]? = some (.cells #[Value.int .u16 0, Value.int .u16 0, Value.int .u16 0, Value.int .u16 0, Value.int .u16 0, Value.int .u16 0, Value.int .u16 0, Value.int .u16 0, Value.int .u16 0, Value.int .u16 0, Value.int .u16 0, Value.int .u16 0, Value.int .u16 0, Value.int .u16 0, Value.int .u16 0, Value.int .u16 0] 71 (0, 0)) ∧ Below w.heap.size w wr) (fun i _ => 16 - (intOf i).toNat)
  case atStart => exact ⟨0, by omega, rfl, H0.out, H1.out, H2.out, HB.out⟩
  case round =>
    obtain ⟨y, hy, rfl, h0, h1, h2, hB⟩ := hrel
    have K0 := Lib.hid h0
    have K1 := Lib.hid h1
    have K2 := Lib.hid h2
    have KB := Lib.hid hB
    clear h0 h1 h2 hB H0 H1 H2 HB
    by_cases hlt : y < 16
    · have ty : (y : Int) < 16 := by omega
      have HY := Lib.hid hlt
      have c0 : wr.cell? ⟨w.heap.size, y, none⟩ = some (.int .u16 (a y)) := (Lib.cell_of_heap K0.out y).trans ((arr_get _ _ _ _ hlt).trans (by rw [mixI_at]))
      have f0 : wr.frozen? ⟨w.heap.size, y, none⟩ = false := Lib.frozen_of_heap K0.out y
      have c1 : wr.cell? ⟨w.heap.size + 1, y, none⟩ = some (.int .u16 (b y)) := (Lib.cell_of_heap K1.out y).trans (arr_get _ _ _ _ hlt)
      obtain ⟨a0, a1⟩ := HA.out y hlt
      obtain ⟨b0, b1⟩ := HBB.out y hlt
      have NX : Hid (updI (mixI a (rowF (fun x y => bits .andNot .u16 x y) a b) y) y (bits .andNot .u16 (a y) (b y)) = mixI a (rowF (fun x y => bits .andNot .u16 x y) a b) (y + 1)) := Lib.hid (mixI_step _ _ _)
      clear hlt hy
      go_wp2
      go_still_tail 8, (by kernel_rfl)
      change wpList _ _ _ _ _ wr.drew
      generalize a y = x1 at c0 NX a0 a1 ⊢
      generalize b y = x2 at c1 NX b0 b1 ⊢
      generalize bits .andNot .u16 x1 x2 = p at NX ⊢
      have L0 : Hid ((wr.drew.setCell ⟨w.heap.size, y, none⟩ (.int .u16 p)).heap[w.heap.size]? = some (.cells (M16 (mixI a (rowF (fun x y => bits .andNot .u16 x y) a b) (y + 1))) 71 (0, 0))) := Lib.hid (by rw [mset_at (w := wr.drew) K0.out, arr_set _ _ _ _ _ HY.out, NX.out])
      have L1 : Hid ((wr.drew.setCell ⟨w.heap.size, y, none⟩ (.int .u16 p)).heap[w.heap.size + 1]? = some (.cells (M16 b) 71 (0, 0))) := Lib.hid (by rw [mset_far (by omega)]; exact K1.out)
      have L2 : Hid ((wr.drew.setCell ⟨w.heap.size, y, none⟩ (.int .u16 p)).heap[w.heap.size + 1 + 1]? = some (.cells #[Value.int .u16 0, Value.int .u16 0, Value.int .u16 0, Value.int .u16 0, Value.int .u16 0, Value.int .u16 0, Value.int .u16 0, Value.int .u16 0, Value.int .u16 0, Value.int .u16 0, Value.int .u16 0, Value.int .u16 0, Value.int .u16 0, Value.int .u16 0, Value.int .u16 0, Value.int .u16 0] 71 (0, 0))) := Lib.hid (by rw [mset_far (by omega)]; exact K2.out)
      have LB : Hid (Below w.heap.size w (wr.drew.setCell ⟨w.heap.size, y, none⟩ (.int .u16 p))) := Lib.hid (KB.out.drew.setCell (p := ⟨w.heap.size, y, none⟩) (by simp) _)
      have c3 : wr.drew.cell? ⟨w.heap.size, y, none⟩ = some (.int .u16 x1) := c0
      have f3 : wr.drew.frozen? ⟨w.heap.size, y, none⟩ = false := f0
      clear c0 f0 c1 K0 K1 K2 KB
      generalize wr.drew = W1 at L0 L1 L2 LB c3 f3 ⊢
      go_wp2
      go_roundw
      case rel => exact ⟨y + 1, HY.out, by go_num, L0.out, L1.out, L2.out, LB.out⟩
      case measure => have := HY.out; simp [intOf]; omega
    · obtain rfl : y = 16 := by omega
      have G0 : Hid (wr.heap[w.heap.size]? = some (.cells (M16 (rowF (fun x y => bits .andNot .u16 x y) a b)) 71 (0, 0))) := Lib.hid (by have := K0.out; rwa [show M16 (mixI a (rowF (fun x y => bits .andNot .u16 x y) a b) 16) = M16 (rowF (fun x y => bits .andNot .u16 x y) a b) from arr_mix .u16 16 a _] at this)
      clear K0 hlt hy
      go_wp2_with (first | (refine wpList_load_row rfl 71 _ rfl w.heap.size rfl 71 _ _ _ G0.out Try.underlying71 rfl (mask_info _ (arr_size _ _ _)) ?_) | (refine wpList_store_row rfl 71 _ _ rfl (w.heap.size + 1 + 1) (M16 (rowF (fun x y => bits .andNot .u16 x y) a b)) rfl rfl 71 _ K2.out (mask_info _ rfl) (by rw [arr_size]; rfl) (arr_cells _ _ _) ?_))
      refine bodyPost_ret (v := .agg (M16 (rowF (fun x y => bits .andNot .u16 x y) a b))) ?_ rfl ⟨rfl, ?_⟩
      · exact results_cell_row Try.results75 _ _ (w.heap.size + 1 + 1) _ _ _ _ rfl (setRow_heap _ _ _ _ _ _ K2.out) Try.underlying71 rfl (mask_info _ (arr_size _ _ _))
      · exact below_setRow KB.out (by omega) _
end Go.Proofs.Ythfmkejdpflpcaa
