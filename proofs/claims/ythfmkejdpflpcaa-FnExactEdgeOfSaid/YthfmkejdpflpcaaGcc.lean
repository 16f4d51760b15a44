/-
  SEVERAL TEXTS IN ONE: XJo,XJp,XJq,XJr
-/
import Derived.Test.YthfmkejdpflpcaaJj
import Derived.Sort.Grow
import Derived.Shelf.SlSortCmp.InsertionK
/-
  compareRows once more: what it leaves is what it found, some draws on, with blocks behind.
-/
namespace Go.Proofs.Ythfmkejdpflpcaa
open Go.ChangeShapes Go.WideShapes Go.ChangeAt Go.RowKit Go.Shelf
structure BelD (B : Nat) (a w : World) : Prop extends Go.RowKit.Below B a w where
  drawn : a.drawn ≤ w.drawn
theorem BelD.refl (B : Nat) (w : World) : BelD B w w := ⟨Below.refl B w, Nat.le_refl _⟩
theorem BelD.trans {B : Nat} {a b c : World} (h : BelD B a b) (k : BelD B b c) : BelD B a c := ⟨h.toBelow.trans k.toBelow, Nat.le_trans h.drawn k.drawn⟩
theorem BelD.mono {B B' : Nat} {a b : World} (h : BelD B a b) (hb : B' ≤ B) : BelD B' a b := ⟨h.toBelow.mono hb, h.drawn⟩
theorem BelD.alloc {B : Nat} {a b : World} (h : BelD B a b) (hb : B ≤ b.heap.size) (o : Obj) : BelD B a (b.alloc o) := ⟨h.toBelow.alloc hb o, h.drawn⟩
theorem BelD.drew {B : Nat} {a b : World} (h : BelD B a b) : BelD B a b.drew := ⟨h.toBelow.drew, Nat.le_succ_of_le h.drawn⟩
theorem BelD.grown {w w' : World} (h : BelD w.heap.size w w') : ∃ q os, w' = Go.Sort.grow (w.drewN q) os := by
  refine ⟨w'.drawn - w.drawn, w'.heap.extract w.heap.size w'.heap.size, ?_⟩
  have h1 := h.os
  have h2 := h.tape
  have h3 := h.output
  have h4 := h.drawn
  have h5 := h.size
  have h6 := h.block
  have hh : w'.heap = w.heap ++ w'.heap.extract w.heap.size w'.heap.size := by
    apply Array.ext_getElem?
    intro k
    rw [Array.getElem?_append]
    by_cases hk : k < w.heap.size
    · rw [if_pos hk]
      exact h6 k hk
    · rw [if_neg hk, Array.getElem?_extract]
      by_cases hk2 : k < w'.heap.size
      · rw [if_pos (by omega)]
        congr 1
        omega
      · rw [if_neg (by omega), Array.getElem?_eq_none (by omega)]
  clear h5 h6 h
  obtain ⟨hp, tp, dr, oo, ou⟩ := w'
  show World.mk hp tp dr oo ou = World.mk _ _ _ _ _
  rw [World.mk.injEq]
  refine ⟨hh, h2, ?_, h1, h3⟩
  have h7 : w.drawn ≤ dr := h4
  show dr = w.drawn + (dr - w.drawn)
  omega
set_option maxRecDepth 20000 in
set_option maxHeartbeats 4000000 in
theorem cmpRows_bel (p q p' q' : Int) (w : World) :
    Calls Try.prog 100 #[.agg #[.int .i32 p, .int .i32 q], .agg #[.int .i32 p', .int .i32 q']] w fun e w' => e = .returned (.int .i64 (cmpR p q p' q')) ∧ BelD w.heap.size w w' := by
  obtain ⟨W0, hW0⟩ : ∃ W0, (w.alloc (.cells #[Value.int .i32 p, .int .i32 q] 45)).alloc (.cells #[Value.int .i32 p', .int .i32 q'] 45) = W0 := ⟨_, rfl⟩
  have A0 : W0.heap[w.heap.size]? = some (.cells #[Value.int .i32 p, .int .i32 q] 45 (0, 0)) := by rw [← hW0]; exact (Below.heap_alloc _ _ _ (by simp)).trans (World.alloc_heap_new w _)
  have A1 : W0.heap[w.heap.size + 1]? = some (.cells #[Value.int .i32 p', .int .i32 q'] 45 (0, 0)) := by
    rw [← hW0]
    have := World.alloc_heap_new (w.alloc (.cells #[Value.int .i32 p, .int .i32 q] 45)) (.cells #[Value.int .i32 p', .int .i32 q'] 45)
    rw [World.size_alloc] at this
    exact this
  have C0 : Hid (W0.cell? ⟨w.heap.size, 0, none⟩ = some (.int .i32 p)) := Lib.hid (Lib.cell_of_heap A0 0)
  have C1 : Hid (W0.cell? ⟨w.heap.size, 1, none⟩ = some (.int .i32 q)) := Lib.hid (Lib.cell_of_heap A0 1)
  have C2 : Hid (W0.cell? ⟨w.heap.size + 1, 0, none⟩ = some (.int .i32 p')) := Lib.hid (Lib.cell_of_heap A1 0)
  have C3 : Hid (W0.cell? ⟨w.heap.size + 1, 1, none⟩ = some (.int .i32 q')) := Lib.hid (Lib.cell_of_heap A1 1)
  have AB : Hid (BelD w.heap.size w W0) := Lib.hid (by rw [← hW0]; exact ((BelD.refl _ w).alloc (Nat.le_refl _) _).alloc (by simp) _)
  have Z0 : Hid (W0.heap.size = w.heap.size + 1 + 1) := Lib.hid (by rw [← hW0]; simp)
  have CM : Hid (∀ a b w, Calls Try.prog 135 #[.int .i32 a, .int .i32 b] w fun e w' => e = .returned (.int .i64 (sg a b)) ∧ BelD w.heap.size w w') := Lib.hid fun a b w => (compare_any a b w).mono fun e w' h => ⟨h.1, h.2 ▸ BelD.refl _ _⟩
  have OR : Hid (∀ (a b : Int) (g : Nat) (w : World), w.cell? ⟨g, 0, none⟩ = some (.int .i64 a) → w.cell? ⟨g, 1, none⟩ = some (.int .i64 b) → Calls Try.prog 130 #[.slice (some ⟨g, 0, none⟩) 2 2] w fun e w' => e = .returned (.int .i64 (orI a b)) ∧ BelD w.heap.size w w') := Lib.hid fun a b g w h0 h1 => (or_any a b g w h0 h1).mono fun e w' h => ⟨h.1, h.2 ▸ BelD.refl _ _⟩
  clear A0 A1
  go_enter Try.func100, Try.ntmps100
  go_wp2
  clear hW0
  refine wp_region_inv (by kernel_rfl) (fun listed act W => listed.size = 13 ∧ BelD W0.heap.size W0 W ∧ ∃ x0 x1 x2 x3 x4 x5 x6 x7 x8 x9 x10 x11 x12, act = { tmps := #[.agg #[.int .i32 p, .int .i32 q], .agg #[.int .i32 p', .int .i32 q'], .pointer (some ⟨w.heap.size, 0, none⟩), .pointer (some ⟨w.heap.size + 1, 0, none⟩), x12, x0, x1, x2, x3, x4, x5, x6, x7, x8, x9, x10, x11], defers := [] } ∧ (listed.getD 0 false = true → x0 = .pointer (some ⟨w.heap.size, 1, none⟩)) ∧ (listed.getD 1 false = true → x1 = .int .i32 q) ∧ (listed.getD 2 false = true → x2 = .pointer (some ⟨w.heap.size + 1, 1, none⟩)) ∧ (listed.getD 3 false = true → x3 = .int .i32 q') ∧ (listed.getD 4 false = true → x4 = .int .i64 (sg q q')) ∧ (listed.getD 5 false = true → x5 = .pointer (some ⟨w.heap.size, 0, none⟩)) ∧ (listed.getD 6 false = true → x6 = .int .i32 p) ∧ (listed.getD 7 false = true → x7 = .pointer (some ⟨w.heap.size + 1, 0, none⟩)) ∧ (listed.getD 8 false = true → x8 = .int .i32 p') ∧ (listed.getD 9 false = true → x9 = .int .i64 (sg p p')) ∧ (listed.getD 10 false = true → (∃ g, x10 = .slice (some ⟨g, 0, none⟩) 2 2 ∧ W.cell? ⟨g, 0, none⟩ = some (.int .i64 (sg q q')) ∧ W.cell? ⟨g, 1, none⟩ = some (.int .i64 (sg p p')))) ∧ (listed.getD 11 false = true → x11 = .int .i64 (cmpR p q p' q')) ∧ (listed.getD 12 false = true → x12 = .int .i64 (cmpR p q p' q'))) (by kernel_rfl) ?h01 (fun _ _ _ h => h.1) ?hstep1 ?hend1
  case h01 =>
    refine ⟨rfl, (BelD.refl _ _).drew, _, _, _, _, _, _, _, _, _, _, _, _, _, rfl, ?_, ?_, ?_, ?_, ?_, ?_, ?_, ?_, ?_, ?_, ?_, ?_, ?_⟩ <;> (intro h; exact absurd h (by decide))
  case hstep1 =>
    rintro listed act W i o ⟨hs, hB, x0, x1, x2, x3, x4, x5, x6, x7, x8, x9, x10, x11, x12, rfl, e0, e1, e2, e3, e4, e5, e6, e7, e8, e9, e10, e11, e12⟩ hun hio hpre
    have HB := Lib.hid hB
    have E0 := Lib.hid e0
    have E1 := Lib.hid e1
    have E2 := Lib.hid e2
    have E3 := Lib.hid e3
    have E4 := Lib.hid e4
    have E5 := Lib.hid e5
    have E6 := Lib.hid e6
    have E7 := Lib.hid e7
    have E8 := Lib.hid e8
    have E9 := Lib.hid e9
    have E10 := Lib.hid e10
    have E11 := Lib.hid e11
    have E12 := Lib.hid e12
    have HS := Lib.hid hs
    have HU := Lib.hid hun
    have PRE := Lib.hid hpre
    clear e0 e1 e2 e3 e4 e5 e6 e7 e8 e9 e10 e11 e12 hs hpre hB hun
    have d0 : W.cell? ⟨w.heap.size, 0, none⟩ = some (.int .i32 p) := (HB.out.cell (p := ⟨w.heap.size, 0, none⟩) (by have := Z0.out; show w.heap.size < _; omega)).trans C0.out
    have d1 : W.cell? ⟨w.heap.size, 1, none⟩ = some (.int .i32 q) := (HB.out.cell (p := ⟨w.heap.size, 1, none⟩) (by have := Z0.out; show w.heap.size < _; omega)).trans C1.out
    have d2 : W.cell? ⟨w.heap.size + 1, 0, none⟩ = some (.int .i32 p') := (HB.out.cell (p := ⟨w.heap.size + 1, 0, none⟩) (by have := Z0.out; show w.heap.size + 1 < _; omega)).trans C2.out
    have d3 : W.cell? ⟨w.heap.size + 1, 1, none⟩ = some (.int .i32 q') := (HB.out.cell (p := ⟨w.heap.size + 1, 1, none⟩) (by have := Z0.out; show w.heap.size + 1 < _; omega)).trans C3.out
    match i, hio with
    | 0, hio =>
      clear hio
      refine wpOp_by rfl fun K HK => ?_
      go_wp2_with (fail)
      exact HK.out _ _ ⟨by rw [Array.size_setIfInBounds, HS.out], HB.out, _, _, _, _, _, _, _, _, _, _, _, _, _, rfl, fun _ => rfl, fun h => E1.out ((listed_set h).resolve_left (by decide)), fun h => E2.out ((listed_set h).resolve_left (by decide)), fun h => E3.out ((listed_set h).resolve_left (by decide)), fun h => E4.out ((listed_set h).resolve_left (by decide)), fun h => E5.out ((listed_set h).resolve_left (by decide)), fun h => E6.out ((listed_set h).resolve_left (by decide)), fun h => E7.out ((listed_set h).resolve_left (by decide)), fun h => E8.out ((listed_set h).resolve_left (by decide)), fun h => E9.out ((listed_set h).resolve_left (by decide)), fun h => (E10.out ((listed_set h).resolve_left (by decide))), fun h => E11.out ((listed_set h).resolve_left (by decide)), fun h => E12.out ((listed_set h).resolve_left (by decide))⟩
    | 1, hio =>
      simp only [List.getElem?_toArray, List.getElem?_cons_succ, List.getElem?_cons_zero, Option.some.injEq] at hio
      subst hio
      have p0 := PRE.out ⟨0, .data⟩ (by simp) rfl
      obtain rfl := E0.out p0
      refine wpOp_by rfl fun K HK => ?_
      go_wp2_with (fail)
      exact HK.out _ _ ⟨by rw [Array.size_setIfInBounds, HS.out], HB.out, _, _, _, _, _, _, _, _, _, _, _, _, _, rfl, fun _ => rfl, fun _ => rfl, fun h => E2.out ((listed_set h).resolve_left (by decide)), fun h => E3.out ((listed_set h).resolve_left (by decide)), fun h => E4.out ((listed_set h).resolve_left (by decide)), fun h => E5.out ((listed_set h).resolve_left (by decide)), fun h => E6.out ((listed_set h).resolve_left (by decide)), fun h => E7.out ((listed_set h).resolve_left (by decide)), fun h => E8.out ((listed_set h).resolve_left (by decide)), fun h => E9.out ((listed_set h).resolve_left (by decide)), fun h => (E10.out ((listed_set h).resolve_left (by decide))), fun h => E11.out ((listed_set h).resolve_left (by decide)), fun h => E12.out ((listed_set h).resolve_left (by decide))⟩
    | 2, hio =>
      clear hio
      refine wpOp_by rfl fun K HK => ?_
      go_wp2_with (fail)
      exact HK.out _ _ ⟨by rw [Array.size_setIfInBounds, HS.out], HB.out, _, _, _, _, _, _, _, _, _, _, _, _, _, rfl, fun h => E0.out ((listed_set h).resolve_left (by decide)), fun h => E1.out ((listed_set h).resolve_left (by decide)), fun _ => rfl, fun h => E3.out ((listed_set h).resolve_left (by decide)), fun h => E4.out ((listed_set h).resolve_left (by decide)), fun h => E5.out ((listed_set h).resolve_left (by decide)), fun h => E6.out ((listed_set h).resolve_left (by decide)), fun h => E7.out ((listed_set h).resolve_left (by decide)), fun h => E8.out ((listed_set h).resolve_left (by decide)), fun h => E9.out ((listed_set h).resolve_left (by decide)), fun h => (E10.out ((listed_set h).resolve_left (by decide))), fun h => E11.out ((listed_set h).resolve_left (by decide)), fun h => E12.out ((listed_set h).resolve_left (by decide))⟩
    | 3, hio =>
      simp only [List.getElem?_toArray, List.getElem?_cons_succ, List.getElem?_cons_zero, Option.some.injEq] at hio
      subst hio
      have p2 := PRE.out ⟨2, .data⟩ (by simp) rfl
      obtain rfl := E2.out p2
      refine wpOp_by rfl fun K HK => ?_
      go_wp2_with (fail)
      exact HK.out _ _ ⟨by rw [Array.size_setIfInBounds, HS.out], HB.out, _, _, _, _, _, _, _, _, _, _, _, _, _, rfl, fun h => E0.out ((listed_set h).resolve_left (by decide)), fun h => E1.out ((listed_set h).resolve_left (by decide)), fun _ => rfl, fun _ => rfl, fun h => E4.out ((listed_set h).resolve_left (by decide)), fun h => E5.out ((listed_set h).resolve_left (by decide)), fun h => E6.out ((listed_set h).resolve_left (by decide)), fun h => E7.out ((listed_set h).resolve_left (by decide)), fun h => E8.out ((listed_set h).resolve_left (by decide)), fun h => E9.out ((listed_set h).resolve_left (by decide)), fun h => (E10.out ((listed_set h).resolve_left (by decide))), fun h => E11.out ((listed_set h).resolve_left (by decide)), fun h => E12.out ((listed_set h).resolve_left (by decide))⟩
    | 4, hio =>
      simp only [List.getElem?_toArray, List.getElem?_cons_succ, List.getElem?_cons_zero, Option.some.injEq] at hio
      subst hio
      have p1 := PRE.out ⟨1, .data⟩ (by simp) rfl
      have p3 := PRE.out ⟨3, .data⟩ (by simp) rfl
      obtain rfl := E1.out p1
      obtain rfl := E3.out p3
      refine wpOp_by rfl fun K HK => ?_
      go_wp2_with fail
      refine (CM.out q q' W).mono ?_
      rintro e W' ⟨rfl, hb⟩
      go_wp2
      exact HK.out _ _ ⟨by rw [Array.size_setIfInBounds, HS.out], HB.out.trans (hb.mono HB.out.size), _, _, _, _, _, _, _, _, _, _, _, _, _, rfl, fun h => E0.out ((listed_set h).resolve_left (by decide)), fun _ => rfl, fun h => E2.out ((listed_set h).resolve_left (by decide)), fun _ => rfl, fun _ => rfl, fun h => E5.out ((listed_set h).resolve_left (by decide)), fun h => E6.out ((listed_set h).resolve_left (by decide)), fun h => E7.out ((listed_set h).resolve_left (by decide)), fun h => E8.out ((listed_set h).resolve_left (by decide)), fun h => E9.out ((listed_set h).resolve_left (by decide)), fun h => (by obtain ⟨g, e1, e2, e3⟩ := (E10.out ((listed_set h).resolve_left (by decide))); exact ⟨g, e1, (hb.cell (World.block_lt_of_cell? _ _ e2)).trans e2, (hb.cell (World.block_lt_of_cell? _ _ e3)).trans e3⟩), fun h => E11.out ((listed_set h).resolve_left (by decide)), fun h => E12.out ((listed_set h).resolve_left (by decide))⟩
    | 5, hio =>
      clear hio
      refine wpOp_by rfl fun K HK => ?_
      go_wp2_with (fail)
      exact HK.out _ _ ⟨by rw [Array.size_setIfInBounds, HS.out], HB.out, _, _, _, _, _, _, _, _, _, _, _, _, _, rfl, fun h => E0.out ((listed_set h).resolve_left (by decide)), fun h => E1.out ((listed_set h).resolve_left (by decide)), fun h => E2.out ((listed_set h).resolve_left (by decide)), fun h => E3.out ((listed_set h).resolve_left (by decide)), fun h => E4.out ((listed_set h).resolve_left (by decide)), fun _ => rfl, fun h => E6.out ((listed_set h).resolve_left (by decide)), fun h => E7.out ((listed_set h).resolve_left (by decide)), fun h => E8.out ((listed_set h).resolve_left (by decide)), fun h => E9.out ((listed_set h).resolve_left (by decide)), fun h => (E10.out ((listed_set h).resolve_left (by decide))), fun h => E11.out ((listed_set h).resolve_left (by decide)), fun h => E12.out ((listed_set h).resolve_left (by decide))⟩
    | 6, hio =>
      simp only [List.getElem?_toArray, List.getElem?_cons_succ, List.getElem?_cons_zero, Option.some.injEq] at hio
      subst hio
      have p5 := PRE.out ⟨5, .data⟩ (by simp) rfl
      obtain rfl := E5.out p5
      refine wpOp_by rfl fun K HK => ?_
      go_wp2_with (fail)
      exact HK.out _ _ ⟨by rw [Array.size_setIfInBounds, HS.out], HB.out, _, _, _, _, _, _, _, _, _, _, _, _, _, rfl, fun h => E0.out ((listed_set h).resolve_left (by decide)), fun h => E1.out ((listed_set h).resolve_left (by decide)), fun h => E2.out ((listed_set h).resolve_left (by decide)), fun h => E3.out ((listed_set h).resolve_left (by decide)), fun h => E4.out ((listed_set h).resolve_left (by decide)), fun _ => rfl, fun _ => rfl, fun h => E7.out ((listed_set h).resolve_left (by decide)), fun h => E8.out ((listed_set h).resolve_left (by decide)), fun h => E9.out ((listed_set h).resolve_left (by decide)), fun h => (E10.out ((listed_set h).resolve_left (by decide))), fun h => E11.out ((listed_set h).resolve_left (by decide)), fun h => E12.out ((listed_set h).resolve_left (by decide))⟩
    | 7, hio =>
      clear hio
      refine wpOp_by rfl fun K HK => ?_
      go_wp2_with (fail)
      exact HK.out _ _ ⟨by rw [Array.size_setIfInBounds, HS.out], HB.out, _, _, _, _, _, _, _, _, _, _, _, _, _, rfl, fun h => E0.out ((listed_set h).resolve_left (by decide)), fun h => E1.out ((listed_set h).resolve_left (by decide)), fun h => E2.out ((listed_set h).resolve_left (by decide)), fun h => E3.out ((listed_set h).resolve_left (by decide)), fun h => E4.out ((listed_set h).resolve_left (by decide)), fun h => E5.out ((listed_set h).resolve_left (by decide)), fun h => E6.out ((listed_set h).resolve_left (by decide)), fun _ => rfl, fun h => E8.out ((listed_set h).resolve_left (by decide)), fun h => E9.out ((listed_set h).resolve_left (by decide)), fun h => (E10.out ((listed_set h).resolve_left (by decide))), fun h => E11.out ((listed_set h).resolve_left (by decide)), fun h => E12.out ((listed_set h).resolve_left (by decide))⟩
    | 8, hio =>
      simp only [List.getElem?_toArray, List.getElem?_cons_succ, List.getElem?_cons_zero, Option.some.injEq] at hio
      subst hio
      have p7 := PRE.out ⟨7, .data⟩ (by simp) rfl
      obtain rfl := E7.out p7
      refine wpOp_by rfl fun K HK => ?_
      go_wp2_with (fail)
      exact HK.out _ _ ⟨by rw [Array.size_setIfInBounds, HS.out], HB.out, _, _, _, _, _, _, _, _, _, _, _, _, _, rfl, fun h => E0.out ((listed_set h).resolve_left (by decide)), fun h => E1.out ((listed_set h).resolve_left (by decide)), fun h => E2.out ((listed_set h).resolve_left (by decide)), fun h => E3.out ((listed_set h).resolve_left (by decide)), fun h => E4.out ((listed_set h).resolve_left (by decide)), fun h => E5.out ((listed_set h).resolve_left (by decide)), fun h => E6.out ((listed_set h).resolve_left (by decide)), fun _ => rfl, fun _ => rfl, fun h => E9.out ((listed_set h).resolve_left (by decide)), fun h => (E10.out ((listed_set h).resolve_left (by decide))), fun h => E11.out ((listed_set h).resolve_left (by decide)), fun h => E12.out ((listed_set h).resolve_left (by decide))⟩
    | 9, hio =>
      simp only [List.getElem?_toArray, List.getElem?_cons_succ, List.getElem?_cons_zero, Option.some.injEq] at hio
      subst hio
      have p6 := PRE.out ⟨6, .data⟩ (by simp) rfl
      have p8 := PRE.out ⟨8, .data⟩ (by simp) rfl
      obtain rfl := E6.out p6
      obtain rfl := E8.out p8
      refine wpOp_by rfl fun K HK => ?_
      go_wp2_with fail
      refine (CM.out p p' W).mono ?_
      rintro e W' ⟨rfl, hb⟩
      go_wp2
      exact HK.out _ _ ⟨by rw [Array.size_setIfInBounds, HS.out], HB.out.trans (hb.mono HB.out.size), _, _, _, _, _, _, _, _, _, _, _, _, _, rfl, fun h => E0.out ((listed_set h).resolve_left (by decide)), fun h => E1.out ((listed_set h).resolve_left (by decide)), fun h => E2.out ((listed_set h).resolve_left (by decide)), fun h => E3.out ((listed_set h).resolve_left (by decide)), fun h => E4.out ((listed_set h).resolve_left (by decide)), fun h => E5.out ((listed_set h).resolve_left (by decide)), fun _ => rfl, fun h => E7.out ((listed_set h).resolve_left (by decide)), fun _ => rfl, fun _ => rfl, fun h => (by obtain ⟨g, e1, e2, e3⟩ := (E10.out ((listed_set h).resolve_left (by decide))); exact ⟨g, e1, (hb.cell (World.block_lt_of_cell? _ _ e2)).trans e2, (hb.cell (World.block_lt_of_cell? _ _ e3)).trans e3⟩), fun h => E11.out ((listed_set h).resolve_left (by decide)), fun h => E12.out ((listed_set h).resolve_left (by decide))⟩
    | 10, hio =>
      simp only [List.getElem?_toArray, List.getElem?_cons_succ, List.getElem?_cons_zero, Option.some.injEq] at hio
      subst hio
      have p4 := PRE.out ⟨4, .data⟩ (by simp) rfl
      have p9 := PRE.out ⟨9, .data⟩ (by simp) rfl
      obtain rfl := E4.out p4
      obtain rfl := E9.out p9
      refine wpOp_by rfl fun K HK => ?_
      go_wp2_with (fail)
      exact HK.out _ _ ⟨by rw [Array.size_setIfInBounds, HS.out], HB.out.alloc (HB.out.size) _, _, _, _, _, _, _, _, _, _, _, _, _, _, rfl, fun h => E0.out ((listed_set h).resolve_left (by decide)), fun h => E1.out ((listed_set h).resolve_left (by decide)), fun h => E2.out ((listed_set h).resolve_left (by decide)), fun h => E3.out ((listed_set h).resolve_left (by decide)), fun _ => rfl, fun h => E5.out ((listed_set h).resolve_left (by decide)), fun h => E6.out ((listed_set h).resolve_left (by decide)), fun h => E7.out ((listed_set h).resolve_left (by decide)), fun h => E8.out ((listed_set h).resolve_left (by decide)), fun _ => rfl, fun _ => ⟨_, rfl, (Lib.cell_of_heap (World.alloc_heap_new _ _) 0), (Lib.cell_of_heap (World.alloc_heap_new _ _) 1)⟩, fun h => E11.out ((listed_set h).resolve_left (by decide)), fun h => E12.out ((listed_set h).resolve_left (by decide))⟩
    | 11, hio =>
      simp only [List.getElem?_toArray, List.getElem?_cons_succ, List.getElem?_cons_zero, Option.some.injEq] at hio
      subst hio
      have p10 := PRE.out ⟨10, .data⟩ (by simp) rfl
      obtain ⟨g7, rfl, hg7, hg8⟩ := E10.out p10
      refine wpOp_by rfl fun K HK => ?_
      go_wp2_with fail
      refine (OR.out (sg q q') (sg p p') g7 W hg7 hg8).mono ?_
      rintro e W' ⟨rfl, hb⟩
      go_wp2
      exact HK.out _ _ ⟨by rw [Array.size_setIfInBounds, HS.out], HB.out.trans (hb.mono HB.out.size), _, _, _, _, _, _, _, _, _, _, _, _, _, rfl, fun h => E0.out ((listed_set h).resolve_left (by decide)), fun h => E1.out ((listed_set h).resolve_left (by decide)), fun h => E2.out ((listed_set h).resolve_left (by decide)), fun h => E3.out ((listed_set h).resolve_left (by decide)), fun h => E4.out ((listed_set h).resolve_left (by decide)), fun h => E5.out ((listed_set h).resolve_left (by decide)), fun h => E6.out ((listed_set h).resolve_left (by decide)), fun h => E7.out ((listed_set h).resolve_left (by decide)), fun h => E8.out ((listed_set h).resolve_left (by decide)), fun h => E9.out ((listed_set h).resolve_left (by decide)), fun _ => ⟨g7, rfl, (hb.cell (World.block_lt_of_cell? _ _ hg7)).trans hg7, (hb.cell (World.block_lt_of_cell? _ _ hg8)).trans hg8⟩, fun _ => rfl, fun h => E12.out ((listed_set h).resolve_left (by decide))⟩
    | 12, hio =>
      simp only [List.getElem?_toArray, List.getElem?_cons_succ, List.getElem?_cons_zero, Option.some.injEq] at hio
      subst hio
      have p11 := PRE.out ⟨11, .data⟩ (by simp) rfl
      obtain rfl := E11.out p11
      refine wpOp_by rfl fun K HK => ?_
      go_wp2_with (fail)
      exact HK.out _ _ ⟨by rw [Array.size_setIfInBounds, HS.out], HB.out, _, _, _, _, _, _, _, _, _, _, _, _, _, rfl, fun h => E0.out ((listed_set h).resolve_left (by decide)), fun h => E1.out ((listed_set h).resolve_left (by decide)), fun h => E2.out ((listed_set h).resolve_left (by decide)), fun h => E3.out ((listed_set h).resolve_left (by decide)), fun h => E4.out ((listed_set h).resolve_left (by decide)), fun h => E5.out ((listed_set h).resolve_left (by decide)), fun h => E6.out ((listed_set h).resolve_left (by decide)), fun h => E7.out ((listed_set h).resolve_left (by decide)), fun h => E8.out ((listed_set h).resolve_left (by decide)), fun h => E9.out ((listed_set h).resolve_left (by decide)), fun h => (E10.out ((listed_set h).resolve_left (by decide))), fun _ => rfl, fun _ => rfl⟩
    | k + 13, hio => simp at hio
  case hend1 =>
    rintro listed act W1 ⟨hs, hB, x0, x1, x2, x3, x4, x5, x6, x7, x8, x9, x10, x11, x12, rfl, e0, e1, e2, e3, e4, e5, e6, e7, e8, e9, e10, e11, e12⟩ hall
    obtain rfl := e0 (hall 0 (by decide))
    obtain rfl := e1 (hall 1 (by decide))
    obtain rfl := e2 (hall 2 (by decide))
    obtain rfl := e3 (hall 3 (by decide))
    obtain rfl := e4 (hall 4 (by decide))
    obtain rfl := e5 (hall 5 (by decide))
    obtain rfl := e6 (hall 6 (by decide))
    obtain rfl := e7 (hall 7 (by decide))
    obtain rfl := e8 (hall 8 (by decide))
    obtain rfl := e9 (hall 9 (by decide))
    obtain ⟨g7, rfl, hg7, hg8⟩ := e10 (hall 10 (by decide))
    obtain rfl := e11 (hall 11 (by decide))
    obtain rfl := e12 (hall 12 (by decide))
    clear hs hall
    have HB1 := Lib.hid (AB.out.trans (hB.mono AB.out.size))
    clear hB
    go_wp2
    go_ret
    exact ⟨rfl, HB1.out⟩

end Go.Proofs.Ythfmkejdpflpcaa
/-
  THE SORT OF POINTS: from the shelf's words to rows that the call owns.
-/
namespace Go.Proofs.Ythfmkejdpflpcaa
open Go.ChangeShapes Go.WideShapes Go.ChangeAt Go.RowKit Go.Proofs
def encP (c : Int × Int) : List Value := two c.1 c.2
def cfP (a b : Int × Int) : Int := cmpR a.1 a.2 b.1 b.2
theorem ltP_cf (a b : Int × Int) : Go.Proofs.ltOf cfP a b = true ↔ ltP a b := by
  unfold Go.Proofs.ltOf cfP ltP
  rw [decide_eq_true_iff, cmpR_less]
  unfold lessB
  simp only [Bool.or_eq_true, Bool.and_eq_true, decide_eq_true_eq]
theorem swoP : Go.Sort.SWO (Go.Proofs.ltOf cfP) where
  irrefl x := by
    cases h : Go.Proofs.ltOf cfP x x with
    | false => rfl
    | true => rw [ltP_cf] at h; unfold ltP at h; omega
  trans x y z h1 h2 := by rw [ltP_cf] at *; unfold ltP at *; omega
  ntrans x y z h1 h2 := by
    cases h : Go.Proofs.ltOf cfP x z with
    | false => rfl
    | true =>
      have e1 : ¬ ltP x y := fun h => by rw [← ltP_cf, h1] at h; cases h
      have e2 : ¬ ltP y z := fun h => by rw [← ltP_cf, h2] at h; cases h
      rw [ltP_cf] at h
      unfold ltP at *
      omega
theorem ptsV_len (L : List (Int × Int)) : (ptsV L).length = 2 * L.length := by
  induction L with
  | nil => rfl
  | cons c L ih =>
    show (two c.1 c.2 ++ ptsV L).length = _
    rw [List.length_append, ih]
    simp [two]
    omega
theorem ptsV_at : ∀ (L : List (Int × Int)) (t : Nat), t < 2 * L.length → (ptsV L)[t]? = some ((encP L.toArray[t / 2]!)[t % 2]!)
  | [], t, h => absurd h (by simp)
  | c :: L, t, h => by
    show (two c.1 c.2 ++ ptsV L)[t]? = _
    match t, h with
    | 0, _ => rfl
    | 1, _ => rfl
    | t + 2, h =>
      rw [List.getElem?_append_right (by simp [two])]
      have e : t + 2 - (two c.1 c.2).length = t := by simp [two]
      rw [e, ptsV_at L t (by simp at h; omega)]
      have e1 : (t + 2) / 2 = t / 2 + 1 := by omega
      have e2 : (t + 2) % 2 = t % 2 := by omega
      have e3 : t / 2 < L.length := by simp at h; omega
      rw [e1, e2]
      simp [e3]
theorem flatK_pts (L : List (Int × Int)) : (Go.Sort.flatK encP 2 L.toArray).toList = ptsV L := by
  apply List.ext_getElem?
  intro t
  by_cases ht : t < 2 * L.length
  · rw [ptsV_at L t ht]
    have h1 : t < (Go.Sort.flatK encP 2 L.toArray).size := by simp; omega
    have h2 := Go.Sort.get_flatK encP 2 L.toArray t (by simp; omega)
    rw [getElem!_pos _ t h1] at h2
    rw [Array.getElem?_toList, Array.getElem?_eq_getElem h1, h2]
  · rw [List.getElem?_eq_none (by simp; omega), List.getElem?_eq_none (by rw [ptsV_len]; omega)]
end Go.Proofs.Ythfmkejdpflpcaa
/-
  THE SORT OF POINTS, given the shelf's contract of slices.SortFunc.
-/
namespace Go.Proofs.Ythfmkejdpflpcaa
open Go.ChangeShapes Go.WideShapes Go.ChangeAt Go.RowKit Go.Proofs
def SF0 : Prop := ∀ (blk cap : Nat) (d : Array (Int × Int)) (w : World), CmpLays Try.prog 100 #[] encP 2 cfP blk 0 d.size w → Go.Sort.HoldsK encP 2 w blk 0 d → blk < w.heap.size → d.size < 4611686018427387904 →
  Calls Try.prog 112 #[.slice (some ⟨blk, 0, none⟩) d.size cap, .func (.func 100) #[] #[]] w fun e w' => e = .returned (.tuple #[]) ∧ ∃ d' n os, Go.Sort.PermIn 0 d.size d d' ∧ Go.Sort.SortedIn (Go.Proofs.ltOf cfP) 0 d.size d' ∧ w' = sortWorldK encP 2 w blk 0 n d' os
def SFN : Prop := ∀ w, Calls Try.prog 112 #[.slice none 0 0, .func (.func 100) #[] #[]] w fun e w' => e = .returned (.tuple #[]) ∧ w' = w
theorem cmpLaysP (blk n : Nat) (w : World) : CmpLays Try.prog 100 #[] encP 2 cfP blk 0 n w := fun _ _ _ _ x y =>
  (cmpRows_bel x.1 x.2 y.1 y.2 _).mono fun _ _ h => ⟨h.1, h.2.grown⟩
theorem take_put (F cur : Array Value) (h : F.size ≤ cur.size) : (Go.Sort.putCells id 0 F cur).toList.take F.size = F.toList := by
  apply List.ext_getElem?
  intro t
  by_cases ht : t < F.size
  · rw [List.getElem?_take_of_lt ht, Array.getElem?_toList, Array.getElem?_toList]
    unfold Go.Sort.putCells
    rw [Array.getElem?_mapIdx, Array.getElem?_eq_getElem (by omega : t < cur.size), Array.getElem?_eq_getElem ht]
    simp [ht]
  · rw [List.getElem?_eq_none (by simp; omega), List.getElem?_eq_none (by simp; omega)]
theorem heap_sorted {W : World} {g : Nat} {cur : Array Value} {t : TypeId} {fr : Nat × Nat} (hg : W.heap[g]? = some (.cells cur t fr)) (n : Nat) (d' : Array (Int × Int)) (os : Array Obj) : (sortWorldK encP 2 W g 0 n d' os).heap[g]? = some (.cells (Go.Sort.putCells id 0 (Go.Sort.flatK encP 2 d') cur) t fr) := by
  have hl := (Array.getElem?_eq_some_iff.1 hg).1
  show ((W.heap.modify g (Go.Sort.onCells (Go.Sort.putCells id 0 (Go.Sort.flatK encP 2 d')))) ++ os)[g]? = _
  rw [Array.getElem?_append_left (by simpa using hl), Array.getElem?_modify, if_pos rfl, hg]
  rfl
theorem heap_sorted_far {W : World} {g k : Nat} (hk : k < W.heap.size) (hne : k ≠ g) (n : Nat) (d' : Array (Int × Int)) (os : Array Obj) : (sortWorldK encP 2 W g 0 n d' os).heap[k]? = W.heap[k]? := by
  show ((W.heap.modify g (Go.Sort.onCells (Go.Sort.putCells id 0 (Go.Sort.flatK encP 2 d')))) ++ os)[k]? = _
  rw [Array.getElem?_append_left (by simpa using hk), Array.getElem?_modify, if_neg (fun e => hne e.symm)]
theorem ext_all {α : Type} [Inhabited α] (d : Array α) : (d.extract 0 d.size).toList = d.toList := by simp
theorem sortsP_of (h0 : SF0) (hN : SFN) : SortsP := by
  intro B v L W hB hL ho
  obtain ⟨hlen, ⟨rfl, hz⟩ | ⟨g, cap, cur, rfl, hbg, hg, hnc, hcm, hcs, htk⟩⟩ := ho
  · have hL0 : L = [] := List.eq_nil_of_length_eq_zero hz
    subst hL0
    refine (hN W).mono ?_
    rintro e w' ⟨rfl, rfl⟩
    exact ⟨rfl, [], List.Perm.refl _, List.Pairwise.nil, World.ownsRow_nil _ _ _ _, ⟨rfl, rfl, rfl, Nat.le_refl _, fun _ _ _ => rfl⟩⟩
  · have hgl := (Array.getElem?_eq_some_iff.1 hg).1
    have hH : Go.Sort.HoldsK encP 2 W g 0 L.toArray := by
      intro j hj
      have hj2 : j < L.length * 2 := by simpa using hj
      refine ⟨?_, ?_⟩
      · rw [Nat.zero_add, Lib.cell_of_heap hg]
        have e1 : cur[j]? = (cur.toList.take (L.length * 2))[j]? := by rw [List.getElem?_take_of_lt hj2, Array.getElem?_toList]
        rw [e1, htk, ← flatK_pts, Array.getElem?_toList, Array.getElem?_eq_getElem hj, getElem!_pos _ j hj]
        rfl
      · simp [World.frozen?, hg]
    have hsz : L.toArray.size = L.length := by simp
    have hc := h0 g cap L.toArray W (cmpLaysP g _ W) hH hgl (by rw [hsz]; omega)
    rw [hsz] at hc
    refine hc.mono ?_
    rintro e w' ⟨rfl, d', n, os, hp, hs, rfl⟩
    have hd : d'.size = L.length := by rw [hp.1, hsz]
    have hperm : d'.toList.Perm L := by
      have := hp.2.2
      rw [← hd] at this
      rw [ext_all] at this
      have e2 : (L.toArray.extract 0 d'.size).toList = L := by rw [hd]; simp
      rwa [e2] at this
    have hF : Go.Sort.flatK encP 2 d' = Go.Sort.flatK encP 2 d'.toList.toArray := by simp
    refine ⟨rfl, d'.toList, hperm, ?_, ⟨by rw [ptsV_len]; simp; omega, .inr ⟨g, cap, _, by simp [hd], hbg, heap_sorted hg n d' os, by simp [hd]; exact hnc, hcm, by simp [Go.Sort.putCells]; exact hcs, ?_⟩⟩, ⟨rfl, rfl, rfl, ?_, fun k hk hne => ?_⟩⟩
    · rw [List.pairwise_iff_getElem]
      intro i j hi hj hij hlt
      have h3 := hs i j (Nat.zero_le _) hij (by simpa [hd] using hj)
      rw [getElem!_pos _ j (by simpa using hj), getElem!_pos _ i (by simpa using hi)] at h3
      rw [← ltP_cf] at hlt
      simp only [Array.getElem_toList] at hlt
      rw [hlt] at h3
      cases h3
    · have h4 := take_put (Go.Sort.flatK encP 2 d') cur (by simp [hd]; rw [hcs]; exact Nat.mul_le_mul hnc (Nat.le_refl _))
      have h5 : (Go.Sort.flatK encP 2 d').size = d'.toList.length * 2 := by simp
      rw [h5] at h4
      rw [h4, hF, flatK_pts]
    · show W.heap.size ≤ ((W.heap.modify g _) ++ os).size
      simp
    · exact heap_sorted_far hk (fun e => hne (by rw [e]; rfl)) n d' os
end Go.Proofs.Ythfmkejdpflpcaa
/-
  THE SORT OF POINTS AT A nil SLICE (given math/bits.Len at 0).
-/
namespace Go.Proofs.Ythfmkejdpflpcaa
open Go.ChangeShapes Go.WideShapes Go.ChangeAt Go.RowKit Go.Proofs
theorem ins_none (fv : Value) (w : World) : Calls Try.prog 167 #[.slice none 0 0, .int .i64 0, .int .i64 0, fv] w fun e w' => e = .returned (.tuple #[]) ∧ w' = w := by
  go_enter Try.func167, Try.ntmps167
  go_wp2
  refine wp_loop_rounds 1 ?_
  rw [rounds_succ]
  go_wp2
  go_end0
  exact ⟨rfl, rfl⟩
set_option maxRecDepth 20000 in
set_option maxHeartbeats 2000000 in
theorem pdq_none (lim : Int) (fv : Value) (w : World) : Calls Try.prog 140 #[.slice none 0 0, .int .i64 0, .int .i64 0, .int .i64 lim, fv] w fun e w' => e = .returned (.tuple #[]) ∧ w' = w := by
  have hi := fun W => ins_none fv W
  go_enter Try.func140, Try.ntmps140
  go_wp2
  refine wp_loop_rounds 1 ?_
  rw [rounds_succ]
  go_wp2_with (go_at_call 167; refine (hi _).mono ?_; rintro e w' ⟨rfl, rfl⟩)
  (try simp only [Exit.inBlock, Exit.then]); refine bodyPost_ret (results_none rfl _ _ _) rfl ?_
  exact ⟨rfl, rfl⟩
theorem sfn_of (hl : ∀ W, Calls Try.prog 134 #[.int .u64 0] W fun e w' => (∃ n, e = .returned (.int .i64 n)) ∧ w' = W) : SFN := by
  intro w
  have hp := fun lim W => pdq_none lim (.func (.func 100) #[] #[]) W
  go_enter Try.func112, Try.ntmps112
  go_wp2_with (first | (go_at_call 134; refine (hl _).mono ?_; rintro e w' ⟨⟨lim, rfl⟩, rfl⟩) | (go_at_call 140; refine (hp _ _).mono ?_; rintro e w' ⟨rfl, rfl⟩))
  go_end0
  exact ⟨rfl, rfl⟩
end Go.Proofs.Ythfmkejdpflpcaa
