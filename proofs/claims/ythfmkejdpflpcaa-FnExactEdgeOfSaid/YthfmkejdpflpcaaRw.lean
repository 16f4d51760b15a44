/-
  CONTRACTS: rowByRow of the program; JoinMasks, MeetMasks, MinusMasks on both sides.
-/
import Derived.Test.YthfmkejdpflpcaaIt
import Derived.Test.YthfmkejdpflpcaaQt
namespace Go.Proofs.Ythfmkejdpflpcaa
open Go.ChangeShapes Go.WideShapes Go.ChangeAt Go.RowKit Go.Shelf
attribute [local go_sem] Oper.semAt_some
def rowF (op : Int → Int → Int) (a b : Nat → Int) : Nat → Int := fun y => op (a y) (b y)
abbrev rfT : TypeId := 144
set_option maxRecDepth 100000 in
set_option maxHeartbeats 8000000 in
theorem rowBy_in (F : Fence) (hF : F = Fence.wide) (n : Nat) (hn : 3 ≤ n) (tf : Nat) (eg : ∀ args w, (callFunc tf args).run Try.prog w = .ok (.enter tf args) w) (op : Int → Int → Int) (a b : Nat → Int) (ha : MB a) (hb : MB b) (w : World)
    (TO : ∀ (x y : Int), 0 ≤ x ∧ x ≤ 65535 → 0 ≤ y ∧ y ≤ 65535 → ∀ W, Calls Try.prog tf #[.int .u16 x, .int .u16 y] W fun e W' => e = .returned (.int .u16 (op x y)) ∧ W = W') :
    CallsIn F n Try.prog 118 #[.agg (M16 a), .agg (M16 b), .func (.func tf) #[] #[]] w fun e w' => e = .returned (.agg (M16 (rowF op a b))) ∧ Below w.heap.size w w' := by
  have h0 : F.fn 118 := by rw [hF]; trivial
  have h5 : F.fn tf := by rw [hF]; trivial
  have hro : F.round = none := by rw [hF]; rfl
  have hmx : Try.prog.follows .mixedOrders = true := by kernel_rfl
  have S0 : ((((w.alloc (.cells (M16 a) 71)).alloc (.cells (M16 b) 71)).alloc (.cells (M16 zI) 71)).alloc (.cells (M16 zI) 71)).heap[w.heap.size]? = some (.cells (M16 a) 71 (0, 0)) :=
    (Below.heap_alloc _ _ _ (by first | (simp; done) | (simp; omega))).trans ((Below.heap_alloc _ _ _ (by first | (simp; done) | (simp; omega))).trans ((Below.heap_alloc _ _ _ (by simp)).trans (World.alloc_heap_new w _)))
  have S1 : ((((w.alloc (.cells (M16 a) 71)).alloc (.cells (M16 b) 71)).alloc (.cells (M16 zI) 71)).alloc (.cells (M16 zI) 71)).heap[w.heap.size + 1]? = some (.cells (M16 b) 71 (0, 0)) := by
    refine (Below.heap_alloc _ _ _ (by first | (simp; done) | (simp; omega))).trans ((Below.heap_alloc _ _ _ (by simp)).trans ?_)
    have := World.alloc_heap_new (w.alloc (.cells (M16 a) 71)) (.cells (M16 b) 71)
    rw [World.size_alloc] at this
    exact this
  have S2 : ((((w.alloc (.cells (M16 a) 71)).alloc (.cells (M16 b) 71)).alloc (.cells (M16 zI) 71)).alloc (.cells (M16 zI) 71)).heap[w.heap.size + 1 + 1]? = some (.cells (M16 zI) 71 (0, 0)) := by
    refine (Below.heap_alloc _ _ _ (by simp)).trans ?_
    have := World.alloc_heap_new ((w.alloc (.cells (M16 a) 71)).alloc (.cells (M16 b) 71)) (.cells (M16 zI) 71)
    rw [World.size_alloc, World.size_alloc] at this
    exact this
  have S3 : ((((w.alloc (.cells (M16 a) 71)).alloc (.cells (M16 b) 71)).alloc (.cells (M16 zI) 71)).alloc (.cells (M16 zI) 71)).heap[w.heap.size + 1 + 1 + 1]? = some (.cells (M16 zI) 71 (0, 0)) := by
    have := World.alloc_heap_new (((w.alloc (.cells (M16 a) 71)).alloc (.cells (M16 b) 71)).alloc (.cells (M16 zI) 71)) (.cells (M16 zI) 71)
    rw [World.size_alloc, World.size_alloc, World.size_alloc] at this
    exact this
  have SB : Below w.heap.size w ((((w.alloc (.cells (M16 a) 71)).alloc (.cells (M16 b) 71)).alloc (.cells (M16 zI) 71)).alloc (.cells (M16 zI) 71)) := ((((Below.refl _ w).alloc (Nat.le_refl _) _).alloc (by simp) _).alloc (by first | (simp; done) | (simp; omega)) _).alloc (by first | (simp; done) | (simp; omega)) _
  have Z : M16 zI = #[Value.int .u16 0, Value.int .u16 0, Value.int .u16 0, Value.int .u16 0, Value.int .u16 0, Value.int .u16 0, Value.int .u16 0, Value.int .u16 0, Value.int .u16 0, Value.int .u16 0, Value.int .u16 0, Value.int .u16 0, Value.int .u16 0, Value.int .u16 0, Value.int .u16 0, Value.int .u16 0] := rfl
  have H0 := Lib.hid S0
  have H1 := Lib.hid S1
  have H2 := Lib.hid S2
  have H3 := Lib.hid S3
  have HB := Lib.hid SB
  have HTO := Lib.hid fun (x y : Int) (hx : 0 ≤ x ∧ x ≤ 65535) (hy : 0 ≤ y ∧ y ≤ 65535) (W : World) (m : Nat) => (show CallsIn F m Try.prog tf #[.int .u16 x, .int .u16 y] W (fun e W' => e = .returned (.int .u16 (op x y)) ∧ W' = W) from by rw [hF]; exact callsIn_wide.2 ((TO x y hx hy W).mono fun _ _ h => ⟨h.1, h.2.symm⟩))
  have HEG := Lib.hid eg
  have HA := Lib.hid ha
  have HBB := Lib.hid hb
  clear S0 S1 S2 S3 SB TO eg hF ha hb
  rw [Z] at H0 H1 H2 H3 HB
  clear Z
  refine callsIn_of_wp Try.func118 rfl h0 ?_ hro
  simp only [Try.ntmps118, List.size_toArray, List.length_cons, List.length_nil, Nat.reduceAdd, Nat.reduceSub, Array.replicate_succ, Array.replicate_zero, List.push_toArray, List.append_toArray, List.nil_append, List.cons_append]
  gi_wp2
  generalize (((w.alloc (.cells (M16 a) 71)).alloc (.cells (M16 b) 71)).alloc (.cells #[Value.int .u16 0, Value.int .u16 0, Value.int .u16 0, Value.int .u16 0, Value.int .u16 0, Value.int .u16 0, Value.int .u16 0, Value.int .u16 0, Value.int .u16 0, Value.int .u16 0, Value.int .u16 0, Value.int .u16 0, Value.int .u16 0, Value.int .u16 0, Value.int .u16 0, Value.int .u16 0] 71)).alloc (.cells #[Value.int .u16 0, Value.int .u16 0, Value.int .u16 0, Value.int .u16 0, Value.int .u16 0, Value.int .u16 0, Value.int .u16 0, Value.int .u16 0, Value.int .u16 0, Value.int .u16 0, Value.int .u16 0, Value.int .u16 0, Value.int .u16 0, Value.int .u16 0, Value.int .u16 0, Value.int .u16 0] 71) = w1 at H0 H1 H2 H3 HB ⊢
  gi_loopw [9] (fun i wr => ∃ y : Nat, y ≤ 16 ∧ i = .int .i64 (y : Int) ∧ wr.heap[w.heap.size + 1 + 1 + 1]? = some (.cells (M16 (mixI zI (rowF op a b) y)) 71 (0, 0)) ∧ wr.heap[w.heap.size]? = some (.cells (M16 a) 71 (0, 0)) ∧ wr.heap[w.heap.size + 1]? = some (.cells (M16 b) 71 (0, 0)) ∧ wr.heap[w.heap.size + 1 + 1]? = some (.cells #[Value.int .u16 0, Value.int .u16 0, Value.int .u16 0, Value.int .u16 0, Value.int .u16 0, Value.int .u16 0, Value.int .u16 0, Value.int .u16 0, Value.int .u16 0, Value.int .u16 0, Value.int .u16 0, Value.int .u16 0, Value.int .u16 0, Value.int .u16 0, Value.int .u16 0, Value.int .u16 0] 71 (0, 0)) ∧ Below w.heap.size w wr) (fun i _ => 16 - (intOf i).toNat)
  case atStart => exact ⟨0, by omega, rfl, by rw [mixI_zero]; exact H3.out, H0.out, H1.out, H2.out, HB.out⟩
  case round =>
    obtain ⟨y, hy, rfl, h3, hh0, hh1, h2, hB⟩ := hrel
    have K3 := Lib.hid h3
    have K0 := Lib.hid hh0
    have K1 := Lib.hid hh1
    have K2 := Lib.hid h2
    have KB := Lib.hid hB
    clear h3 hh0 hh1 h2 hB H0 H1 H2 H3 HB
    by_cases hlt : y < 16
    · have ty : (y : Int) < 16 := by omega
      have HY := Lib.hid hlt
      have hd : 1 ≤ n := by omega
      have eg := HEG.out
      have c0 : wr.cell? ⟨w.heap.size, y, none⟩ = some (.int .u16 (a y)) := (Lib.cell_of_heap K0.out y).trans (arr_get _ _ _ _ hlt)
      have c1 : wr.cell? ⟨w.heap.size + 1, y, none⟩ = some (.int .u16 (b y)) := (Lib.cell_of_heap K1.out y).trans (arr_get _ _ _ _ hlt)
      have TC := Lib.hid (HTO.out (a y) (b y) (HA.out y hlt) (HBB.out y hlt))
      obtain ⟨p, hp⟩ : ∃ p, op (a y) (b y) = p := ⟨_, rfl⟩
      have NX : Hid (updI (mixI zI (rowF op a b) y) y p = mixI zI (rowF op a b) (y + 1)) := Lib.hid (by rw [← hp]; exact mixI_step _ _ _)
      rw [hp] at TC
      clear hp
      generalize a y = x1 at c0 TC
      generalize b y = x2 at c1 TC
      clear hlt hy
      gi_wp2
      refine wpIn_region_quiet_tail_r 10 hmx (by kernel_rfl) ?_
      simp only [List.take_succ_cons, List.take_zero, List.drop_succ_cons, List.drop_zero]
      repeat (gi_big_quiet_step (exact CallsIn.quiet_of_same (TC.out _ _)))
      refine wpQuietIn_nil ?_
      intro _ hw'
      obtain ⟨q1, hw''⟩ := hw'
      subst hw''
      have L3 : Hid (((wr.drewN q1).setCell ⟨w.heap.size + 1 + 1 + 1, y, none⟩ (.int .u16 p)).heap[w.heap.size + 1 + 1 + 1]? = some (.cells (M16 (mixI zI (rowF op a b) (y + 1))) 71 (0, 0))) := Lib.hid (by rw [mset_at (w := wr.drewN q1) K3.out, arr_set _ _ _ _ _ HY.out, NX.out])
      have L0 : Hid (((wr.drewN q1).setCell ⟨w.heap.size + 1 + 1 + 1, y, none⟩ (.int .u16 p)).heap[w.heap.size]? = some (.cells (M16 a) 71 (0, 0))) := Lib.hid (by rw [mset_far (by omega)]; exact K0.out)
      have L1 : Hid (((wr.drewN q1).setCell ⟨w.heap.size + 1 + 1 + 1, y, none⟩ (.int .u16 p)).heap[w.heap.size + 1]? = some (.cells (M16 b) 71 (0, 0))) := Lib.hid (by rw [mset_far (by omega)]; exact K1.out)
      have L2 : Hid (((wr.drewN q1).setCell ⟨w.heap.size + 1 + 1 + 1, y, none⟩ (.int .u16 p)).heap[w.heap.size + 1 + 1]? = some (.cells #[Value.int .u16 0, Value.int .u16 0, Value.int .u16 0, Value.int .u16 0, Value.int .u16 0, Value.int .u16 0, Value.int .u16 0, Value.int .u16 0, Value.int .u16 0, Value.int .u16 0, Value.int .u16 0, Value.int .u16 0, Value.int .u16 0, Value.int .u16 0, Value.int .u16 0, Value.int .u16 0] 71 (0, 0))) := Lib.hid (by rw [mset_far (by omega)]; exact K2.out)
      have LB : Hid (Below w.heap.size w ((wr.drewN q1).setCell ⟨w.heap.size + 1 + 1 + 1, y, none⟩ (.int .u16 p))) := Lib.hid ((mdrewN KB.out q1).setCell (p := ⟨w.heap.size + 1 + 1 + 1, y, none⟩) (by simp; omega) _)
      have c3 : (wr.drewN q1).cell? ⟨w.heap.size + 1 + 1 + 1, y, none⟩ = some (.int .u16 (mixI zI (rowF op a b) y y)) := (Lib.cell_of_heap (w := wr.drewN q1) K3.out y).trans (arr_get _ _ _ _ HY.out)
      have f3 : (wr.drewN q1).frozen? ⟨w.heap.size + 1 + 1 + 1, y, none⟩ = false := Lib.frozen_of_heap (w := wr.drewN q1) K3.out y
      generalize wr.drewN q1 = W1 at L3 L0 L1 L2 LB c3 f3 ⊢
      clear c0 c1 eg
      gi_wp2
      go_roundw
      case rel => exact ⟨y + 1, HY.out, by go_num, L3.out, L0.out, L1.out, L2.out, LB.out⟩
      case measure => have := HY.out; simp [intOf]; omega
    · obtain rfl : y = 16 := by omega
      have G3 : Hid (wr.heap[w.heap.size + 1 + 1 + 1]? = some (.cells (M16 (rowF op a b)) 71 (0, 0))) := Lib.hid (by have := K3.out; rwa [show M16 (mixI zI (rowF op a b) 16) = M16 (rowF op a b) from arr_mix .u16 16 zI _] at this)
      clear K3 hlt hy
      gi_wp2_with (first | (refine wpListIn_load_row rfl 71 _ rfl (w.heap.size + 1 + 1 + 1) rfl 71 _ _ _ G3.out Try.underlying71 rfl (mask_info _ (arr_size _ _ _)) ?_) | (refine wpListIn_store_row rfl 71 _ _ rfl (w.heap.size + 1 + 1) (M16 (rowF op a b)) rfl rfl 71 _ K2.out (mask_info _ rfl) (by rw [arr_size]; rfl) (arr_cells _ _ _) ?_))
      refine bodyPost_ret (v := .agg (M16 (rowF op a b))) ?_ rfl ⟨rfl, ?_⟩
      · exact results_cell_row Try.results118 _ _ (w.heap.size + 1 + 1) _ _ _ _ rfl (setRow_heap _ _ _ _ _ _ K2.out) Try.underlying71 rfl (mask_info _ (arr_size _ _ _))
      · exact below_setRow KB.out (by omega) _
end Go.Proofs.Ythfmkejdpflpcaa
