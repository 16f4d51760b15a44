/-
  THE WALK of the law, whole.
-/
import Derived.Test.YtandgjjfiniboaaJm
import Derived.Test.YtandgjjfiniboaaRi
namespace Go.Proofs.Ytandgjjfiniboaa
open Go.ChangeShapes Go.WideShapes Go.ChangeAt Go.RowKit
set_option maxRecDepth 20000 in
set_option maxHeartbeats 8000000 in
theorem fnExactJoinMasks_walk (a : Nat → Int) (hwa : ∀ i, i < 16 → (Lit.int .u16 (a i)).wf = true) (b : Nat → Int) (hwb : ∀ i, i < 16 → (Lit.int .u16 (b i)).wf = true) (w : World) :
    Calls Try.prog 8 #[.agg (arr .u16 16 a), .agg (arr .u16 16 b)] w fun e w' => e = .returned (.bool true) ∧ Below w.heap.size w w' := by
  have ha := MB.of_wf hwa
  have hb := MB.of_wf hwb
  clear hwa hwb
  have h1 := Lib.hid (fun w => sJoinMasks_any a b ha hb w)
  have h2 := Lib.hid (fun w => iJoinMasks_any a b ha hb w)
  have ht := Lib.hid (fun f w => toMask_any f w)
  unfold JoinMasksPost at h1 h2
  clear ha hb
  generalize JoinMasksG a b = g at h1 h2
  have S0 : ((w.alloc (.cells (M16 a) 25)).alloc (.cells (M16 b) 25)).heap[w.heap.size]? = some (.cells (M16 a) 25 (0, 0)) := (Below.heap_alloc _ _ _ (by simp)).trans (World.alloc_heap_new w _)
  have S1 : ((w.alloc (.cells (M16 a) 25)).alloc (.cells (M16 b) 25)).heap[w.heap.size + 1]? = some (.cells (M16 b) 25 (0, 0)) := by
    have := World.alloc_heap_new (w.alloc (.cells (M16 a) 25)) (.cells (M16 b) 25)
    rw [World.size_alloc] at this
    exact this
  have SB : Below w.heap.size w ((w.alloc (.cells (M16 a) 25)).alloc (.cells (M16 b) 25)) := ((Below.refl _ w).alloc (Nat.le_refl _) _).alloc (by simp) _
  have SZ : w.heap.size + 1 < ((w.alloc (.cells (M16 a) 25)).alloc (.cells (M16 b) 25)).heap.size := by simp
  have CA0 := Lib.hid S0
  have CB0 := Lib.hid S1
  have B0 := Lib.hid SB
  have P0 := Lib.hid SZ
  clear S0 S1 SB SZ
  go_enter Try.func8, Try.ntmps8
  go_wp2
  generalize (w.alloc (.cells (M16 a) 25)).alloc (.cells (M16 b) 25) = w0 at CA0 CB0 B0 P0 ⊢
  refine wp_region_inv (by kernel_rfl) (fun listed act W => listed.size = 7 ∧ Below w0.heap.size w0 W ∧ ∃ x5 x7 x8 x9 x10 x11, act = { tmps := #[.agg (M16 a), .agg (M16 b), .pointer (some ⟨w.heap.size, 0, none⟩), .pointer (some ⟨w.heap.size + 1, 0, none⟩), .bool false, x5, undef, x7, x8, x9, x10, x11, undef, undef, undef, undef, undef, undef, undef, undef, undef], defers := [] } ∧ (listed.getD 0 false = true → x7 = .agg (M16 a)) ∧ (listed.getD 1 false = true → x8 = .agg (M16 a)) ∧ (listed.getD 2 false = true → x9 = .agg (M16 b)) ∧ (listed.getD 3 false = true → x10 = .agg (M16 b)) ∧ (listed.getD 4 false = true → x11 = .agg (M16 g)) ∧ (listed.getD 5 false = true → ∃ bb C, x5 = .pointer (some ⟨bb, 0, none⟩) ∧ w0.heap.size ≤ bb ∧ W.heap[bb]? = some (.cells C 26 (0, 0)) ∧ C.size = 16 ∧ (listed.getD 6 false = true → C = M16 g)) ∧ (listed.getD 6 false = true → listed.getD 5 false = true)) (by kernel_rfl) ?h01 (fun _ _ _ h => h.1) ?hstep1 ?hend1
  case h01 =>
    refine ⟨rfl, (Below.refl _ _).drew, _, _, _, _, _, _, rfl, ?_, ?_, ?_, ?_, ?_, ?_, ?_⟩ <;> (intro h; exact absurd h (by decide))
  case hstep1 =>
    rintro listed act W i o ⟨hs, hB, x5, x7, x8, x9, x10, x11, rfl, e0, e1, e2, e3, e4, e5, e6⟩ hun hio hpre
    have HB := Lib.hid hB
    have CA : Hid (W.heap[w.heap.size]? = some (.cells (M16 a) 25 (0, 0))) := Lib.hid ((hB.block _ (by have := P0.out; omega)).trans CA0.out)
    have CB : Hid (W.heap[w.heap.size + 1]? = some (.cells (M16 b) 25 (0, 0))) := Lib.hid ((hB.block _ (by have := P0.out; omega)).trans CB0.out)
    have E0 := Lib.hid e0
    have E1 := Lib.hid e1
    have E2 := Lib.hid e2
    have E3 := Lib.hid e3
    have E4 := Lib.hid e4
    have E5 := Lib.hid e5
    have E6 := Lib.hid e6
    have HS := Lib.hid hs
    have HU := Lib.hid hun
    have PRE := Lib.hid hpre
    clear e0 e1 e2 e3 e4 e5 e6 hs hpre hB hun
    match i, hio with
    | 0, hio =>
      clear hio
      refine wpOp_by rfl fun K HK => ?_
      go_wp2_with (refine wpList_load_row rfl 25 _ rfl w.heap.size rfl 25 _ _ _ CA.out Try.underlying25 rfl (a16_info _ (arr_size _ _ _)) ?_)
      have E6' : ∀ {i : Nat}, listed.getD 6 false = true → (listed.setIfInBounds i true).getD 5 false = true := fun h => listed_keep (E6.out h)
      exact HK.out _ _ ⟨by rw [Array.size_setIfInBounds, HS.out], HB.out, _, _, _, _, _, _, rfl, fun _ => rfl, fun h => E1.out ((listed_set h).resolve_left (by decide)), fun h => E2.out ((listed_set h).resolve_left (by decide)), fun h => E3.out ((listed_set h).resolve_left (by decide)), fun h => E4.out ((listed_set h).resolve_left (by decide)), fun h => by obtain ⟨bb, C, q1, q2, q3, q4, q5⟩ := E5.out ((listed_set h).resolve_left (by decide)); exact ⟨bb, C, q1, q2, q3, q4, fun h6 => q5 ((listed_set h6).resolve_left (by decide))⟩, fun h => E6' ((listed_set h).resolve_left (by decide))⟩
    | 1, hio =>
      simp only [List.getElem?_toArray, List.getElem?_cons_succ, List.getElem?_cons_zero, Option.some.injEq] at hio
      subst hio
      have p0 := PRE.out ⟨0, .data⟩ (by simp) rfl
      obtain rfl := E0.out p0
      refine wpOp_by rfl fun K HK => ?_
      go_wp2_with fail
      refine (ht.out _ _).mono ?_
      rintro e W' ⟨rfl, hb⟩
      go_wp2
      have E6' : ∀ {i : Nat}, listed.getD 6 false = true → (listed.setIfInBounds i true).getD 5 false = true := fun h => listed_keep (E6.out h)
      exact HK.out _ _ ⟨by rw [Array.size_setIfInBounds, HS.out], HB.out.trans (hb.mono HB.out.size), _, _, _, _, _, _, rfl, fun _ => rfl, fun _ => rfl, fun h => E2.out ((listed_set h).resolve_left (by decide)), fun h => E3.out ((listed_set h).resolve_left (by decide)), fun h => E4.out ((listed_set h).resolve_left (by decide)), fun h => by obtain ⟨bb, C, q1, q2, q3, q4, q5⟩ := E5.out ((listed_set h).resolve_left (by decide)); exact ⟨bb, C, q1, q2, (hb.block bb (Array.getElem?_eq_some_iff.1 q3).1).trans q3, q4, fun h6 => q5 ((listed_set h6).resolve_left (by decide))⟩, fun h => E6' ((listed_set h).resolve_left (by decide))⟩
    | 2, hio =>
      clear hio
      refine wpOp_by rfl fun K HK => ?_
      go_wp2_with (refine wpList_load_row rfl 25 _ rfl (w.heap.size + 1) rfl 25 _ _ _ CB.out Try.underlying25 rfl (a16_info _ (arr_size _ _ _)) ?_)
      have E6' : ∀ {i : Nat}, listed.getD 6 false = true → (listed.setIfInBounds i true).getD 5 false = true := fun h => listed_keep (E6.out h)
      exact HK.out _ _ ⟨by rw [Array.size_setIfInBounds, HS.out], HB.out, _, _, _, _, _, _, rfl, fun h => E0.out ((listed_set h).resolve_left (by decide)), fun h => E1.out ((listed_set h).resolve_left (by decide)), fun _ => rfl, fun h => E3.out ((listed_set h).resolve_left (by decide)), fun h => E4.out ((listed_set h).resolve_left (by decide)), fun h => by obtain ⟨bb, C, q1, q2, q3, q4, q5⟩ := E5.out ((listed_set h).resolve_left (by decide)); exact ⟨bb, C, q1, q2, q3, q4, fun h6 => q5 ((listed_set h6).resolve_left (by decide))⟩, fun h => E6' ((listed_set h).resolve_left (by decide))⟩
    | 3, hio =>
      simp only [List.getElem?_toArray, List.getElem?_cons_succ, List.getElem?_cons_zero, Option.some.injEq] at hio
      subst hio
      have p2 := PRE.out ⟨2, .data⟩ (by simp) rfl
      obtain rfl := E2.out p2
      refine wpOp_by rfl fun K HK => ?_
      go_wp2_with fail
      refine (ht.out _ _).mono ?_
      rintro e W' ⟨rfl, hb⟩
      go_wp2
      have E6' : ∀ {i : Nat}, listed.getD 6 false = true → (listed.setIfInBounds i true).getD 5 false = true := fun h => listed_keep (E6.out h)
      exact HK.out _ _ ⟨by rw [Array.size_setIfInBounds, HS.out], HB.out.trans (hb.mono HB.out.size), _, _, _, _, _, _, rfl, fun h => E0.out ((listed_set h).resolve_left (by decide)), fun h => E1.out ((listed_set h).resolve_left (by decide)), fun _ => rfl, fun _ => rfl, fun h => E4.out ((listed_set h).resolve_left (by decide)), fun h => by obtain ⟨bb, C, q1, q2, q3, q4, q5⟩ := E5.out ((listed_set h).resolve_left (by decide)); exact ⟨bb, C, q1, q2, (hb.block bb (Array.getElem?_eq_some_iff.1 q3).1).trans q3, q4, fun h6 => q5 ((listed_set h6).resolve_left (by decide))⟩, fun h => E6' ((listed_set h).resolve_left (by decide))⟩
    | 4, hio =>
      simp only [List.getElem?_toArray, List.getElem?_cons_succ, List.getElem?_cons_zero, Option.some.injEq] at hio
      subst hio
      have p1 := PRE.out ⟨1, .data⟩ (by simp) rfl
      have p3 := PRE.out ⟨3, .data⟩ (by simp) rfl
      obtain rfl := E1.out p1
      obtain rfl := E3.out p3
      refine wpOp_by rfl fun K HK => ?_
      go_wp2_with fail
      refine (h1.out _).mono ?_
      rintro e W' ⟨rfl, hb⟩
      go_wp2
      have E6' : ∀ {i : Nat}, listed.getD 6 false = true → (listed.setIfInBounds i true).getD 5 false = true := fun h => listed_keep (E6.out h)
      exact HK.out _ _ ⟨by rw [Array.size_setIfInBounds, HS.out], HB.out.trans (hb.mono HB.out.size), _, _, _, _, _, _, rfl, fun h => E0.out ((listed_set h).resolve_left (by decide)), fun _ => rfl, fun h => E2.out ((listed_set h).resolve_left (by decide)), fun _ => rfl, fun _ => rfl, fun h => by obtain ⟨bb, C, q1, q2, q3, q4, q5⟩ := E5.out ((listed_set h).resolve_left (by decide)); exact ⟨bb, C, q1, q2, (hb.block bb (Array.getElem?_eq_some_iff.1 q3).1).trans q3, q4, fun h6 => q5 ((listed_set h6).resolve_left (by decide))⟩, fun h => E6' ((listed_set h).resolve_left (by decide))⟩
    | 5, hio =>
      clear hio
      have hw := World.alloc_heap_new W (.cells #[Value.int .u16 0, Value.int .u16 0, Value.int .u16 0, Value.int .u16 0, Value.int .u16 0, Value.int .u16 0, Value.int .u16 0, Value.int .u16 0, Value.int .u16 0, Value.int .u16 0, Value.int .u16 0, Value.int .u16 0, Value.int .u16 0, Value.int .u16 0, Value.int .u16 0, Value.int .u16 0] 26)
      have HW := Lib.hid hw
      clear hw
      refine wpOp_by rfl fun K HK => ?_
      go_wp2
      have E6' : ∀ {i : Nat}, listed.getD 6 false = true → (listed.setIfInBounds i true).getD 5 false = true := fun h => listed_keep (E6.out h)
      exact HK.out _ _ ⟨by rw [Array.size_setIfInBounds, HS.out], HB.out.alloc HB.out.size _, _, _, _, _, _, _, rfl, fun h => E0.out ((listed_set h).resolve_left (by decide)), fun h => E1.out ((listed_set h).resolve_left (by decide)), fun h => E2.out ((listed_set h).resolve_left (by decide)), fun h => E3.out ((listed_set h).resolve_left (by decide)), fun h => E4.out ((listed_set h).resolve_left (by decide)), fun _ => ⟨W.heap.size, _, rfl, HB.out.size, HW.out, rfl, fun h6 => absurd (E6.out ((listed_set h6).resolve_left (by decide))) (by rw [unlisted HU.out]; simp)⟩, fun h => listed_new (by rw [HS.out]; decide)⟩
    | 6, hio =>
      simp only [List.getElem?_toArray, List.getElem?_cons_succ, List.getElem?_cons_zero, Option.some.injEq] at hio
      subst hio
      have p4 := PRE.out ⟨4, .data⟩ (by simp) rfl
      have p5 := PRE.out ⟨5, .data⟩ (by simp) rfl
      obtain rfl := E4.out p4
      obtain ⟨bb, C, rfl, q2, q3, q4, q5⟩ := E5.out p5
      have Q3 := Lib.hid q3
      clear q3
      refine wpOp_by rfl fun K HK => ?_
      go_wp2_with (refine wpList_store_row rfl 26 _ _ rfl bb (M16 g) rfl rfl 26 _ Q3.out (mask_info _ rfl) (by rw [arr_size, q4]) (arr_cells _ _ _) ?_)
      have E6' : ∀ {i : Nat}, listed.getD 6 false = true → (listed.setIfInBounds i true).getD 5 false = true := fun h => listed_keep (E6.out h)
      exact HK.out _ _ ⟨by rw [Array.size_setIfInBounds, HS.out], below_setRow HB.out q2 _, _, _, _, _, _, _, rfl, fun h => E0.out ((listed_set h).resolve_left (by decide)), fun h => E1.out ((listed_set h).resolve_left (by decide)), fun h => E2.out ((listed_set h).resolve_left (by decide)), fun h => E3.out ((listed_set h).resolve_left (by decide)), fun _ => rfl, fun _ => ⟨bb, M16 g, rfl, q2, setRow_heap _ _ _ _ _ _ Q3.out, arr_size _ _ _, fun _ => rfl⟩, fun h => listed_keep p5⟩
    | k + 7, hio => simp at hio
  case hend1 =>
    rintro listed act W1 ⟨hs, hB, x5, x7, x8, x9, x10, x11, rfl, e0, e1, e2, e3, e4, e5, e6⟩ hall
    obtain rfl := e0 (hall 0 (by decide))
    obtain rfl := e1 (hall 1 (by decide))
    obtain rfl := e2 (hall 2 (by decide))
    obtain rfl := e3 (hall 3 (by decide))
    obtain rfl := e4 (hall 4 (by decide))
    obtain ⟨bb1, C, rfl, q2, q3, q4, q5⟩ := e5 (hall 5 (by decide))
    obtain rfl := q5 (hall 6 (by decide))
    clear e0 e1 e2 e3 e4 e5 e6 hs hall q4 q5
    have M1 := Lib.hid q3
    have Z1 : Hid (w.heap.size < W1.heap.size) := Lib.hid (by have := hB.size; have := P0.out; omega)
    have P1 : Hid (w.heap.size + 1 < W1.heap.size) := Lib.hid (by have := hB.size; have := P0.out; omega)
    have CA1 := Lib.hid ((hB.block w.heap.size (by have := P0.out; omega)).trans CA0.out)
    have CB1 := Lib.hid ((hB.block (w.heap.size + 1) P0.out).trans CB0.out)
    have B1 : Hid (Below w.heap.size w W1) := Lib.hid (B0.out.trans (hB.mono (by have := P0.out; omega)))
    clear q3 hB q2 CA0 CB0
    go_wp2
    refine wp_region_inv (by kernel_rfl) (fun listed act W => listed.size = 7 ∧ Below W1.heap.size W1 W ∧ ∃ x5 x7 x8 x9 x10 x11, act = { tmps := #[.agg (M16 a), .agg (M16 b), .pointer (some ⟨w.heap.size, 0, none⟩), .pointer (some ⟨w.heap.size + 1, 0, none⟩), .bool false, .pointer (some ⟨bb1, 0, none⟩), x5, .agg (M16 a), .agg (M16 a), .agg (M16 b), .agg (M16 b), .agg (M16 g), x7, x8, x9, x10, x11, undef, undef, undef, undef], defers := [] } ∧ (listed.getD 0 false = true → x7 = .agg (M16 a)) ∧ (listed.getD 1 false = true → x8 = .agg (M16 a)) ∧ (listed.getD 2 false = true → x9 = .agg (M16 b)) ∧ (listed.getD 3 false = true → x10 = .agg (M16 b)) ∧ (listed.getD 4 false = true → x11 = .agg (M16 g)) ∧ (listed.getD 5 false = true → ∃ bb C, x5 = .pointer (some ⟨bb, 0, none⟩) ∧ W1.heap.size ≤ bb ∧ W.heap[bb]? = some (.cells C 26 (0, 0)) ∧ C.size = 16 ∧ (listed.getD 6 false = true → C = M16 g)) ∧ (listed.getD 6 false = true → listed.getD 5 false = true)) (by kernel_rfl) ?h02 (fun _ _ _ h => h.1) ?hstep2 ?hend2
    case h02 =>
      refine ⟨rfl, (Below.refl _ _).drew, _, _, _, _, _, _, rfl, ?_, ?_, ?_, ?_, ?_, ?_, ?_⟩ <;> (intro h; exact absurd h (by decide))
    case hstep2 =>
      rintro listed act W i o ⟨hs, hB, x5, x7, x8, x9, x10, x11, rfl, e0, e1, e2, e3, e4, e5, e6⟩ hun hio hpre
      have HB := Lib.hid hB
      have CA : Hid (W.heap[w.heap.size]? = some (.cells (M16 a) 25 (0, 0))) := Lib.hid ((hB.block _ (by have := P1.out; omega)).trans CA1.out)
      have CB : Hid (W.heap[w.heap.size + 1]? = some (.cells (M16 b) 25 (0, 0))) := Lib.hid ((hB.block _ (by have := P1.out; omega)).trans CB1.out)
      have E0 := Lib.hid e0
      have E1 := Lib.hid e1
      have E2 := Lib.hid e2
      have E3 := Lib.hid e3
      have E4 := Lib.hid e4
      have E5 := Lib.hid e5
      have E6 := Lib.hid e6
      have HS := Lib.hid hs
      have HU := Lib.hid hun
      have PRE := Lib.hid hpre
      clear e0 e1 e2 e3 e4 e5 e6 hs hpre hB hun
      match i, hio with
      | 0, hio =>
        clear hio
        refine wpOp_by rfl fun K HK => ?_
        go_wp2_with (refine wpList_load_row rfl 25 _ rfl w.heap.size rfl 25 _ _ _ CA.out Try.underlying25 rfl (a16_info _ (arr_size _ _ _)) ?_)
        have E6' : ∀ {i : Nat}, listed.getD 6 false = true → (listed.setIfInBounds i true).getD 5 false = true := fun h => listed_keep (E6.out h)
        exact HK.out _ _ ⟨by rw [Array.size_setIfInBounds, HS.out], HB.out, _, _, _, _, _, _, rfl, fun _ => rfl, fun h => E1.out ((listed_set h).resolve_left (by decide)), fun h => E2.out ((listed_set h).resolve_left (by decide)), fun h => E3.out ((listed_set h).resolve_left (by decide)), fun h => E4.out ((listed_set h).resolve_left (by decide)), fun h => by obtain ⟨bb, C, q1, q2, q3, q4, q5⟩ := E5.out ((listed_set h).resolve_left (by decide)); exact ⟨bb, C, q1, q2, q3, q4, fun h6 => q5 ((listed_set h6).resolve_left (by decide))⟩, fun h => E6' ((listed_set h).resolve_left (by decide))⟩
      | 1, hio =>
        simp only [List.getElem?_toArray, List.getElem?_cons_succ, List.getElem?_cons_zero, Option.some.injEq] at hio
        subst hio
        have p0 := PRE.out ⟨0, .data⟩ (by simp) rfl
        obtain rfl := E0.out p0
        refine wpOp_by rfl fun K HK => ?_
        go_wp2_with fail
        refine (ht.out _ _).mono ?_
        rintro e W' ⟨rfl, hb⟩
        go_wp2
        have E6' : ∀ {i : Nat}, listed.getD 6 false = true → (listed.setIfInBounds i true).getD 5 false = true := fun h => listed_keep (E6.out h)
        exact HK.out _ _ ⟨by rw [Array.size_setIfInBounds, HS.out], HB.out.trans (hb.mono HB.out.size), _, _, _, _, _, _, rfl, fun _ => rfl, fun _ => rfl, fun h => E2.out ((listed_set h).resolve_left (by decide)), fun h => E3.out ((listed_set h).resolve_left (by decide)), fun h => E4.out ((listed_set h).resolve_left (by decide)), fun h => by obtain ⟨bb, C, q1, q2, q3, q4, q5⟩ := E5.out ((listed_set h).resolve_left (by decide)); exact ⟨bb, C, q1, q2, (hb.block bb (Array.getElem?_eq_some_iff.1 q3).1).trans q3, q4, fun h6 => q5 ((listed_set h6).resolve_left (by decide))⟩, fun h => E6' ((listed_set h).resolve_left (by decide))⟩
      | 2, hio =>
        clear hio
        refine wpOp_by rfl fun K HK => ?_
        go_wp2_with (refine wpList_load_row rfl 25 _ rfl (w.heap.size + 1) rfl 25 _ _ _ CB.out Try.underlying25 rfl (a16_info _ (arr_size _ _ _)) ?_)
        have E6' : ∀ {i : Nat}, listed.getD 6 false = true → (listed.setIfInBounds i true).getD 5 false = true := fun h => listed_keep (E6.out h)
        exact HK.out _ _ ⟨by rw [Array.size_setIfInBounds, HS.out], HB.out, _, _, _, _, _, _, rfl, fun h => E0.out ((listed_set h).resolve_left (by decide)), fun h => E1.out ((listed_set h).resolve_left (by decide)), fun _ => rfl, fun h => E3.out ((listed_set h).resolve_left (by decide)), fun h => E4.out ((listed_set h).resolve_left (by decide)), fun h => by obtain ⟨bb, C, q1, q2, q3, q4, q5⟩ := E5.out ((listed_set h).resolve_left (by decide)); exact ⟨bb, C, q1, q2, q3, q4, fun h6 => q5 ((listed_set h6).resolve_left (by decide))⟩, fun h => E6' ((listed_set h).resolve_left (by decide))⟩
      | 3, hio =>
        simp only [List.getElem?_toArray, List.getElem?_cons_succ, List.getElem?_cons_zero, Option.some.injEq] at hio
        subst hio
        have p2 := PRE.out ⟨2, .data⟩ (by simp) rfl
        obtain rfl := E2.out p2
        refine wpOp_by rfl fun K HK => ?_
        go_wp2_with fail
        refine (ht.out _ _).mono ?_
        rintro e W' ⟨rfl, hb⟩
        go_wp2
        have E6' : ∀ {i : Nat}, listed.getD 6 false = true → (listed.setIfInBounds i true).getD 5 false = true := fun h => listed_keep (E6.out h)
        exact HK.out _ _ ⟨by rw [Array.size_setIfInBounds, HS.out], HB.out.trans (hb.mono HB.out.size), _, _, _, _, _, _, rfl, fun h => E0.out ((listed_set h).resolve_left (by decide)), fun h => E1.out ((listed_set h).resolve_left (by decide)), fun _ => rfl, fun _ => rfl, fun h => E4.out ((listed_set h).resolve_left (by decide)), fun h => by obtain ⟨bb, C, q1, q2, q3, q4, q5⟩ := E5.out ((listed_set h).resolve_left (by decide)); exact ⟨bb, C, q1, q2, (hb.block bb (Array.getElem?_eq_some_iff.1 q3).1).trans q3, q4, fun h6 => q5 ((listed_set h6).resolve_left (by decide))⟩, fun h => E6' ((listed_set h).resolve_left (by decide))⟩
      | 4, hio =>
        simp only [List.getElem?_toArray, List.getElem?_cons_succ, List.getElem?_cons_zero, Option.some.injEq] at hio
        subst hio
        have p1 := PRE.out ⟨1, .data⟩ (by simp) rfl
        have p3 := PRE.out ⟨3, .data⟩ (by simp) rfl
        obtain rfl := E1.out p1
        obtain rfl := E3.out p3
        refine wpOp_by rfl fun K HK => ?_
        go_wp2_with fail
        refine (h2.out _).mono ?_
        rintro e W' ⟨rfl, hb⟩
        go_wp2
        have E6' : ∀ {i : Nat}, listed.getD 6 false = true → (listed.setIfInBounds i true).getD 5 false = true := fun h => listed_keep (E6.out h)
        exact HK.out _ _ ⟨by rw [Array.size_setIfInBounds, HS.out], HB.out.trans (hb.mono HB.out.size), _, _, _, _, _, _, rfl, fun h => E0.out ((listed_set h).resolve_left (by decide)), fun _ => rfl, fun h => E2.out ((listed_set h).resolve_left (by decide)), fun _ => rfl, fun _ => rfl, fun h => by obtain ⟨bb, C, q1, q2, q3, q4, q5⟩ := E5.out ((listed_set h).resolve_left (by decide)); exact ⟨bb, C, q1, q2, (hb.block bb (Array.getElem?_eq_some_iff.1 q3).1).trans q3, q4, fun h6 => q5 ((listed_set h6).resolve_left (by decide))⟩, fun h => E6' ((listed_set h).resolve_left (by decide))⟩
      | 5, hio =>
        clear hio
        have hw := World.alloc_heap_new W (.cells #[Value.int .u16 0, Value.int .u16 0, Value.int .u16 0, Value.int .u16 0, Value.int .u16 0, Value.int .u16 0, Value.int .u16 0, Value.int .u16 0, Value.int .u16 0, Value.int .u16 0, Value.int .u16 0, Value.int .u16 0, Value.int .u16 0, Value.int .u16 0, Value.int .u16 0, Value.int .u16 0] 26)
        have HW := Lib.hid hw
        clear hw
        refine wpOp_by rfl fun K HK => ?_
        go_wp2
        have E6' : ∀ {i : Nat}, listed.getD 6 false = true → (listed.setIfInBounds i true).getD 5 false = true := fun h => listed_keep (E6.out h)
        exact HK.out _ _ ⟨by rw [Array.size_setIfInBounds, HS.out], HB.out.alloc HB.out.size _, _, _, _, _, _, _, rfl, fun h => E0.out ((listed_set h).resolve_left (by decide)), fun h => E1.out ((listed_set h).resolve_left (by decide)), fun h => E2.out ((listed_set h).resolve_left (by decide)), fun h => E3.out ((listed_set h).resolve_left (by decide)), fun h => E4.out ((listed_set h).resolve_left (by decide)), fun _ => ⟨W.heap.size, _, rfl, HB.out.size, HW.out, rfl, fun h6 => absurd (E6.out ((listed_set h6).resolve_left (by decide))) (by rw [unlisted HU.out]; simp)⟩, fun h => listed_new (by rw [HS.out]; decide)⟩
      | 6, hio =>
        simp only [List.getElem?_toArray, List.getElem?_cons_succ, List.getElem?_cons_zero, Option.some.injEq] at hio
        subst hio
        have p4 := PRE.out ⟨4, .data⟩ (by simp) rfl
        have p5 := PRE.out ⟨5, .data⟩ (by simp) rfl
        obtain rfl := E4.out p4
        obtain ⟨bb, C, rfl, q2, q3, q4, q5⟩ := E5.out p5
        have Q3 := Lib.hid q3
        clear q3
        refine wpOp_by rfl fun K HK => ?_
        go_wp2_with (refine wpList_store_row rfl 26 _ _ rfl bb (M16 g) rfl rfl 26 _ Q3.out (mask_info _ rfl) (by rw [arr_size, q4]) (arr_cells _ _ _) ?_)
        have E6' : ∀ {i : Nat}, listed.getD 6 false = true → (listed.setIfInBounds i true).getD 5 false = true := fun h => listed_keep (E6.out h)
        exact HK.out _ _ ⟨by rw [Array.size_setIfInBounds, HS.out], below_setRow HB.out q2 _, _, _, _, _, _, _, rfl, fun h => E0.out ((listed_set h).resolve_left (by decide)), fun h => E1.out ((listed_set h).resolve_left (by decide)), fun h => E2.out ((listed_set h).resolve_left (by decide)), fun h => E3.out ((listed_set h).resolve_left (by decide)), fun _ => rfl, fun _ => ⟨bb, M16 g, rfl, q2, setRow_heap _ _ _ _ _ _ Q3.out, arr_size _ _ _, fun _ => rfl⟩, fun h => listed_keep p5⟩
      | k + 7, hio => simp at hio
    case hend2 =>
      rintro listed act W2 ⟨hs, hB, x5, x7, x8, x9, x10, x11, rfl, e0, e1, e2, e3, e4, e5, e6⟩ hall
      obtain rfl := e0 (hall 0 (by decide))
      obtain rfl := e1 (hall 1 (by decide))
      obtain rfl := e2 (hall 2 (by decide))
      obtain rfl := e3 (hall 3 (by decide))
      obtain rfl := e4 (hall 4 (by decide))
      obtain ⟨bb2, C, rfl, q2, q3, q4, q5⟩ := e5 (hall 5 (by decide))
      obtain rfl := q5 (hall 6 (by decide))
      clear e0 e1 e2 e3 e4 e5 e6 hs hall q4 q5
      have Q1 : Hid (W2.heap[bb1]? = some (.cells (M16 g) 26 (0, 0))) := Lib.hid ((hB.block _ (Array.getElem?_eq_some_iff.1 M1.out).1).trans M1.out)
      have Q2 := Lib.hid q3
      have B2 : Hid (Below w.heap.size w W2) := Lib.hid (B1.out.trans (hB.mono (by have := Z1.out; omega)))
      have Z2 : Hid (w.heap.size < W2.heap.size) := Lib.hid (Nat.lt_of_lt_of_le Z1.out hB.size)
      clear q3 hB q2
      go_wp2_with (first | (refine wpList_load_row rfl 26 _ rfl bb2 rfl 26 _ _ _ Q2.out Try.underlying26 rfl (mask_info _ (arr_size _ _ _)) ?_) | (refine wpList_load_row rfl 26 _ rfl bb1 rfl 26 _ _ _ Q1.out Try.underlying26 rfl (mask_info _ (arr_size _ _ _)) ?_))
      refine (eqMask_any g g rfl _).mono ?_
      rintro e w7 ⟨rfl, b7⟩
      have B7 := Lib.hid (B2.out.trans (b7.mono (Nat.le_of_lt Z2.out)))
      clear b7
      go_wp2
      go_ret
      exact ⟨rfl, B7.out⟩
end Go.Proofs.Ytandgjjfiniboaa
