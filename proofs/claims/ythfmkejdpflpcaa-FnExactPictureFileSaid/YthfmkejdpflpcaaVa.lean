/-
  BLOCKS OF PICTURES, the program's: outOfMask, isEmpty, compareRows.
-/
import Derived.Test.YthfmkejdpflpcaaTe
import Derived.Test.YthfmkejdpflpcaaGpa
import Derived.Test.YthfmkejdpflpcaaCs
namespace Go.Proofs.Ythfmkejdpflpcaa
open Go.ChangeShapes Go.WideShapes Go.ChangeAt Go.RowKit
def emptyF (f : Nat → Int) : Bool := (List.range 16).all fun i => f i == zI i
theorem eql_mask (f : Nat → Int) (w : World) : (binOp .eql 71 (.agg (M16 f)) (.agg (M16 zI))).run Try.prog w = .ok (.bool (emptyF f)) w := by
  rw [run_eql_struct]
  have := eqArrI (P := Try.prog) (t := 71) (e := 69) (n := 16) (q := .u16) f zI Try.underlying71 Try.underlying69 (by kernel_rfl) w
  have e : M16 f = arr .u16 16 f := rfl
  have e2 : M16 zI = arr .u16 16 zI := rfl
  rw [e, e2, this]
  rfl
theorem zero_mask : (#[Value.int .u16 0, Value.int .u16 0, Value.int .u16 0, Value.int .u16 0, Value.int .u16 0, Value.int .u16 0, Value.int .u16 0, Value.int .u16 0, Value.int .u16 0, Value.int .u16 0, Value.int .u16 0, Value.int .u16 0, Value.int .u16 0, Value.int .u16 0, Value.int .u16 0, Value.int .u16 0] : Array Value) = M16 zI := rfl
theorem isEmpty_any (f : Nat → Int) (w : World) :
    Calls Try.prog 97 #[.agg (M16 f)] w fun e w' => e = .returned (.bool (emptyF f)) ∧ Below w.heap.size w w' := by
  have H0 : Hid ((w.alloc (.cells (M16 f) 71)).heap[w.heap.size]? = some (.cells (M16 f) 71 (0, 0))) := Lib.hid (World.alloc_heap_new w _)
  have B0 : Hid (Below w.heap.size w (w.alloc (.cells (M16 f) 71))) := Lib.hid ((Below.refl _ _).alloc (Nat.le_refl _) _)
  have hop := eql_mask f
  rw [← zero_mask] at hop
  have hsz : (M16 f).size = 16 := arr_size _ _ _
  generalize emptyF f = r at hop ⊢
  generalize M16 f = A at *
  go_enter Try.func97, Try.ntmps97
  go_wp2_with (refine wpList_load_row rfl 71 _ rfl w.heap.size rfl 71 _ _ _ H0.out Try.underlying71 rfl (mask_info _ hsz) ?_)
  go_ret
  exact ⟨rfl, B0.out⟩
def I32 (p : Int) : Prop := -2147483648 ≤ p ∧ p ≤ 2147483647
theorem outM_any (p q : Int) (hp : I32 p) (hq : I32 q) (f : Nat → Int) (x y : Nat) (hx : x < 16) (hy : y < 16) (w : World) :
    Calls Try.prog 111 #[.agg (bl p q f), .int .i64 (x : Int), .int .i64 (y : Int)] w fun e w' => e = .returned (.tuple #[.int .i64 (16 * p + x), .int .i64 (16 * q + y)]) ∧ Below w.heap.size w w' := by
  obtain ⟨hp1, hp2⟩ := hp
  obtain ⟨hq1, hq2⟩ := hq
  have c0 : (w.alloc (.cells (bl p q f) 73)).cell? ⟨w.heap.size, 0, none⟩ = some (.int .i32 p) := (Lib.cell_of_heap (World.alloc_heap_new w _) 0).trans (bl_co p q f 0 _ rfl)
  have c1 : (w.alloc (.cells (bl p q f) 73)).cell? ⟨w.heap.size, 1, none⟩ = some (.int .i32 q) := (Lib.cell_of_heap (World.alloc_heap_new w _) 1).trans (bl_co p q f 1 _ rfl)
  have B0 : Hid (Below w.heap.size w (w.alloc (.cells (bl p q f) 73))) := Lib.hid ((Below.refl _ _).alloc (Nat.le_refl _) _)
  have hx' : (x : Int) < 16 := by omega
  have hy' : (y : Int) < 16 := by omega
  have x0 : (0 : Int) ≤ (x : Int) := by omega
  have y0 : (0 : Int) ≤ (y : Int) := by omega
  have ep : IntKind.i64.wrap p = p := by rw [IntKind.wrap_i64]; omega
  have eq : IntKind.i64.wrap q = q := by rw [IntKind.wrap_i64]; omega
  generalize bl p q f = A at c0 c1 B0 ⊢
  go_enter Try.func111, Try.ntmps111
  go_wp2
  generalize w.alloc (.cells A 73) = w0 at c0 c1 B0 ⊢
  go_quiet (fail)
  go_wp2
  go_ret2
  exact ⟨rfl, by repeat (first | exact B0.out | apply belowB)⟩
/-- the order of two numbers -/
def sg (a b : Int) : Int := if a < b then -1 else if b < a then 1 else 0
theorem isNaN_any (a : Int) (w : World) : Calls Try.prog 166 #[.int .i32 a] w fun e w' => e = .returned (.bool false) ∧ w = w' := by
  go_enter Try.func166, Try.ntmps166
  go_wp2
  go_ret
  exact ⟨by simp, rfl⟩
theorem compare_any (a b : Int) (w : World) : Calls Try.prog 135 #[.int .i32 a, .int .i32 b] w fun e w' => e = .returned (.int .i64 (sg a b)) ∧ w = w' := by
  have NA := Lib.hid isNaN_any
  unfold sg
  by_cases h : a < b
  · rw [if_pos h]
    go_enter Try.func135, Try.ntmps135
    go_wp2_with (go_at_call 166; refine (NA.out _ _).mono ?_; rintro e w' ⟨rfl, rfl⟩)
    go_ret
    exact ⟨rfl, rfl⟩
  · rw [if_neg h]
    by_cases h2 : b < a
    · rw [if_pos h2]
      go_enter Try.func135, Try.ntmps135
      go_wp2_with (go_at_call 166; refine (NA.out _ _).mono ?_; rintro e w' ⟨rfl, rfl⟩)
      go_ret
      exact ⟨rfl, rfl⟩
    · rw [if_neg h2]
      go_enter Try.func135, Try.ntmps135
      go_wp2_with (go_at_call 166; refine (NA.out _ _).mono ?_; rintro e w' ⟨rfl, rfl⟩)
      go_ret
      exact ⟨rfl, rfl⟩
def orI (a b : Int) : Int := if a = 0 then b else a
theorem or_any (a b : Int) (g : Nat) (w : World) (h0 : w.cell? ⟨g, 0, none⟩ = some (.int .i64 a)) (h1 : w.cell? ⟨g, 1, none⟩ = some (.int .i64 b)) :
    Calls Try.prog 130 #[.slice (some ⟨g, 0, none⟩) 2 2] w fun e w' => e = .returned (.int .i64 (orI a b)) ∧ w = w' := by
  unfold orI
  by_cases ha : a = 0
  · rw [if_pos ha]
    subst ha
    by_cases hb : b = 0
    · subst hb
      go_enter Try.func130, Try.ntmps130
      go_wp2
      refine wp_loop_rounds 3 ?_
      rw [rounds_succ]
      go_wp2
      rw [rounds_succ]
      go_wp2
      rw [rounds_succ]
      go_wp2
      go_ret
      exact ⟨rfl, rfl⟩
    · have hb' : (b != 0) = true := by simpa using hb
      go_enter Try.func130, Try.ntmps130
      go_wp2
      refine wp_loop_rounds 3 ?_
      rw [rounds_succ]
      go_wp2
      rw [rounds_succ]
      go_wp2
      go_ret
      exact ⟨rfl, rfl⟩
  · rw [if_neg ha]
    have ha' : (a != 0) = true := by simpa using ha
    go_enter Try.func130, Try.ntmps130
    go_wp2
    refine wp_loop_rounds 3 ?_
    rw [rounds_succ]
    go_wp2
    go_ret
    exact ⟨rfl, rfl⟩
/-- rows first, then columns -/
def cmpR (p q p' q' : Int) : Int := orI (sg q q') (sg p p')
set_option maxRecDepth 20000 in
set_option maxHeartbeats 4000000 in
theorem cmpRows_any (p q p' q' : Int) (w : World) :
    Calls Try.prog 100 #[.agg #[.int .i32 p, .int .i32 q], .agg #[.int .i32 p', .int .i32 q']] w fun e w' => e = .returned (.int .i64 (cmpR p q p' q')) ∧ Below w.heap.size w w' := by
  obtain ⟨W0, hW0⟩ : ∃ W0, (w.alloc (.cells #[Value.int .i32 p, .int .i32 q] 45)).alloc (.cells #[Value.int .i32 p', .int .i32 q'] 45) = W0 := ⟨_, rfl⟩
  have A0 : W0.heap[w.heap.size]? = some (.cells #[Value.int .i32 p, .int .i32 q] 45 (0, 0)) := by rw [← hW0]; exact (Below.heap_alloc _ _ _ (by simp)).trans (World.alloc_heap_new w _)
  have A1 : W0.heap[w.heap.size + 1]? = some (.cells #[Value.int .i32 p', .int .i32 q'] 45 (0, 0)) := by
    rw [← hW0]
    have := World.alloc_heap_new (w.alloc (.cells #[Value.int .i32 p, .int .i32 q] 45)) (.cells #[Value.int .i32 p', .int .i32 q'] 45)
    rw [World.size_alloc] at this
    exact this
  have C0 : Hid (W0.cell? ⟨w.heap.size, 0, none⟩ = some (.int .i32 p)) := Lib.hid (Lib.cell_of_heap A0 0)
  have C1 : Hid (W0.cell? ⟨w.heap.size, 1, none⟩ = some (.int .i32 q)) := Lib.hid (Lib.cell_of_heap A0 1)
  have C2 : Hid (W0.cell? ⟨w.heap.size + 1, 0, none⟩ = some (.int .i32 p')) := Lib.hid (Lib.cell_of_heap A1 0)
  have C3 : Hid (W0.cell? ⟨w.heap.size + 1, 1, none⟩ = some (.int .i32 q')) := Lib.hid (Lib.cell_of_heap A1 1)
  have AB : Hid (Below w.heap.size w W0) := Lib.hid (by rw [← hW0]; exact ((Below.refl _ w).alloc (Nat.le_refl _) _).alloc (by simp) _)
  have Z0 : Hid (W0.heap.size = w.heap.size + 1 + 1) := Lib.hid (by rw [← hW0]; simp)
  have CM : Hid (∀ a b w, Calls Try.prog 135 #[.int .i32 a, .int .i32 b] w fun e w' => e = .returned (.int .i64 (sg a b)) ∧ Below w.heap.size w w') := Lib.hid fun a b w => (compare_any a b w).mono fun e w' h => ⟨h.1, h.2 ▸ Below.refl _ _⟩
  have OR : Hid (∀ (a b : Int) (g : Nat) (w : World), w.cell? ⟨g, 0, none⟩ = some (.int .i64 a) → w.cell? ⟨g, 1, none⟩ = some (.int .i64 b) → Calls Try.prog 130 #[.slice (some ⟨g, 0, none⟩) 2 2] w fun e w' => e = .returned (.int .i64 (orI a b)) ∧ Below w.heap.size w w') := Lib.hid fun a b g w h0 h1 => (or_any a b g w h0 h1).mono fun e w' h => ⟨h.1, h.2 ▸ Below.refl _ _⟩
  clear A0 A1
  go_enter Try.func100, Try.ntmps100
  go_wp2
  clear hW0
  refine wp_region_inv (by kernel_rfl) (fun listed act W => listed.size = 13 ∧ Below W0.heap.size W0 W ∧ ∃ x0 x1 x2 x3 x4 x5 x6 x7 x8 x9 x10 x11 x12, act = { tmps := #[.agg #[.int .i32 p, .int .i32 q], .agg #[.int .i32 p', .int .i32 q'], .pointer (some ⟨w.heap.size, 0, none⟩), .pointer (some ⟨w.heap.size + 1, 0, none⟩), x12, x0, x1, x2, x3, x4, x5, x6, x7, x8, x9, x10, x11], defers := [] } ∧ (listed.getD 0 false = true → x0 = .pointer (some ⟨w.heap.size, 1, none⟩)) ∧ (listed.getD 1 false = true → x1 = .int .i32 q) ∧ (listed.getD 2 false = true → x2 = .pointer (some ⟨w.heap.size + 1, 1, none⟩)) ∧ (listed.getD 3 false = true → x3 = .int .i32 q') ∧ (listed.getD 4 false = true → x4 = .int .i64 (sg q q')) ∧ (listed.getD 5 false = true → x5 = .pointer (some ⟨w.heap.size, 0, none⟩)) ∧ (listed.getD 6 false = true → x6 = .int .i32 p) ∧ (listed.getD 7 false = true → x7 = .pointer (some ⟨w.heap.size + 1, 0, none⟩)) ∧ (listed.getD 8 false = true → x8 = .int .i32 p') ∧ (listed.getD 9 false = true → x9 = .int .i64 (sg p p')) ∧ (listed.getD 10 false = true → (∃ g, x10 = .slice (some ⟨g, 0, none⟩) 2 2 ∧ W.cell? ⟨g, 0, none⟩ = some (.int .i64 (sg q q')) ∧ W.cell? ⟨g, 1, none⟩ = some (.int .i64 (sg p p')))) ∧ (listed.getD 11 false = true → x11 = .int .i64 (cmpR p q p' q')) ∧ (listed.getD 12 false = true → x12 = .int .i64 (cmpR p q p' q'))) (by kernel_rfl) ?h01 (fun _ _ _ h => h.1) ?hstep1 ?hend1
  case h01 =>
    refine ⟨rfl, (Below.refl _ _).drew, _, _, _, _, _, _, _, _, _, _, _, _, _, rfl, ?_, ?_, ?_, ?_, ?_, ?_, ?_, ?_, ?_, ?_, ?_, ?_, ?_⟩ <;> (intro h; exact absurd h (by decide))
  case hstep1 =>
    rintro listed act W i o ⟨hs, hB, x0, x1, x2, x3, x4, x5, x6, x7, x8, x9, x10, x11, x12, rfl, e0, e1, e2, e3, e4, e5, e6, e7, e8, e9, e10, e11, e12⟩ hun hio hpre
    have HB := Lib.hid hB
    have E0 := Lib.hid e0
    have E1 := Lib.hid e1
    have E2 := Lib.hid e2
    have E3 := Lib.hid e3
    have E4 := Lib.hid e4
    have E5 := Lib.hid e5
    have E6 := Lib.hid e6
    have E7 := Lib.hid e7
    have E8 := Lib.hid e8
    have E9 := Lib.hid e9
    have E10 := Lib.hid e10
    have E11 := Lib.hid e11
    have E12 := Lib.hid e12
    have HS := Lib.hid hs
    have HU := Lib.hid hun
    have PRE := Lib.hid hpre
    clear e0 e1 e2 e3 e4 e5 e6 e7 e8 e9 e10 e11 e12 hs hpre hB hun
    have d0 : W.cell? ⟨w.heap.size, 0, none⟩ = some (.int .i32 p) := (HB.out.cell (p := ⟨w.heap.size, 0, none⟩) (by have := Z0.out; show w.heap.size < _; omega)).trans C0.out
    have d1 : W.cell? ⟨w.heap.size, 1, none⟩ = some (.int .i32 q) := (HB.out.cell (p := ⟨w.heap.size, 1, none⟩) (by have := Z0.out; show w.heap.size < _; omega)).trans C1.out
    have d2 : W.cell? ⟨w.heap.size + 1, 0, none⟩ = some (.int .i32 p') := (HB.out.cell (p := ⟨w.heap.size + 1, 0, none⟩) (by have := Z0.out; show w.heap.size + 1 < _; omega)).trans C2.out
    have d3 : W.cell? ⟨w.heap.size + 1, 1, none⟩ = some (.int .i32 q') := (HB.out.cell (p := ⟨w.heap.size + 1, 1, none⟩) (by have := Z0.out; show w.heap.size + 1 < _; omega)).trans C3.out
    match i, hio with
    | 0, hio =>
      clear hio
      refine wpOp_by rfl fun K HK => ?_
      go_wp2_with (fail)
      exact HK.out _ _ ⟨by rw [Array.size_setIfInBounds, HS.out], HB.out, _, _, _, _, _, _, _, _, _, _, _, _, _, rfl, fun _ => rfl, fun h => E1.out ((listed_set h).resolve_left (by decide)), fun h => E2.out ((listed_set h).resolve_left (by decide)), fun h => E3.out ((listed_set h).resolve_left (by decide)), fun h => E4.out ((listed_set h).resolve_left (by decide)), fun h => E5.out ((listed_set h).resolve_left (by decide)), fun h => E6.out ((listed_set h).resolve_left (by decide)), fun h => E7.out ((listed_set h).resolve_left (by decide)), fun h => E8.out ((listed_set h).resolve_left (by decide)), fun h => E9.out ((listed_set h).resolve_left (by decide)), fun h => (E10.out ((listed_set h).resolve_left (by decide))), fun h => E11.out ((listed_set h).resolve_left (by decide)), fun h => E12.out ((listed_set h).resolve_left (by decide))⟩
    | 1, hio =>
      simp only [List.getElem?_toArray, List.getElem?_cons_succ, List.getElem?_cons_zero, Option.some.injEq] at hio
      subst hio
      have p0 := PRE.out ⟨0, .data⟩ (by simp) rfl
      obtain rfl := E0.out p0
      refine wpOp_by rfl fun K HK => ?_
      go_wp2_with (fail)
      exact HK.out _ _ ⟨by rw [Array.size_setIfInBounds, HS.out], HB.out, _, _, _, _, _, _, _, _, _, _, _, _, _, rfl, fun _ => rfl, fun _ => rfl, fun h => E2.out ((listed_set h).resolve_left (by decide)), fun h => E3.out ((listed_set h).resolve_left (by decide)), fun h => E4.out ((listed_set h).resolve_left (by decide)), fun h => E5.out ((listed_set h).resolve_left (by decide)), fun h => E6.out ((listed_set h).resolve_left (by decide)), fun h => E7.out ((listed_set h).resolve_left (by decide)), fun h => E8.out ((listed_set h).resolve_left (by decide)), fun h => E9.out ((listed_set h).resolve_left (by decide)), fun h => (E10.out ((listed_set h).resolve_left (by decide))), fun h => E11.out ((listed_set h).resolve_left (by decide)), fun h => E12.out ((listed_set h).resolve_left (by decide))⟩
    | 2, hio =>
      clear hio
      refine wpOp_by rfl fun K HK => ?_
      go_wp2_with (fail)
      exact HK.out _ _ ⟨by rw [Array.size_setIfInBounds, HS.out], HB.out, _, _, _, _, _, _, _, _, _, _, _, _, _, rfl, fun h => E0.out ((listed_set h).resolve_left (by decide)), fun h => E1.out ((listed_set h).resolve_left (by decide)), fun _ => rfl, fun h => E3.out ((listed_set h).resolve_left (by decide)), fun h => E4.out ((listed_set h).resolve_left (by decide)), fun h => E5.out ((listed_set h).resolve_left (by decide)), fun h => E6.out ((listed_set h).resolve_left (by decide)), fun h => E7.out ((listed_set h).resolve_left (by decide)), fun h => E8.out ((listed_set h).resolve_left (by decide)), fun h => E9.out ((listed_set h).resolve_left (by decide)), fun h => (E10.out ((listed_set h).resolve_left (by decide))), fun h => E11.out ((listed_set h).resolve_left (by decide)), fun h => E12.out ((listed_set h).resolve_left (by decide))⟩
    | 3, hio =>
      simp only [List.getElem?_toArray, List.getElem?_cons_succ, List.getElem?_cons_zero, Option.some.injEq] at hio
      subst hio
      have p2 := PRE.out ⟨2, .data⟩ (by simp) rfl
      obtain rfl := E2.out p2
      refine wpOp_by rfl fun K HK => ?_
      go_wp2_with (fail)
      exact HK.out _ _ ⟨by rw [Array.size_setIfInBounds, HS.out], HB.out, _, _, _, _, _, _, _, _, _, _, _, _, _, rfl, fun h => E0.out ((listed_set h).resolve_left (by decide)), fun h => E1.out ((listed_set h).resolve_left (by decide)), fun _ => rfl, fun _ => rfl, fun h => E4.out ((listed_set h).resolve_left (by decide)), fun h => E5.out ((listed_set h).resolve_left (by decide)), fun h => E6.out ((listed_set h).resolve_left (by decide)), fun h => E7.out ((listed_set h).resolve_left (by decide)), fun h => E8.out ((listed_set h).resolve_left (by decide)), fun h => E9.out ((listed_set h).resolve_left (by decide)), fun h => (E10.out ((listed_set h).resolve_left (by decide))), fun h => E11.out ((listed_set h).resolve_left (by decide)), fun h => E12.out ((listed_set h).resolve_left (by decide))⟩
    | 4, hio =>
      simp only [List.getElem?_toArray, List.getElem?_cons_succ, List.getElem?_cons_zero, Option.some.injEq] at hio
      subst hio
      have p1 := PRE.out ⟨1, .data⟩ (by simp) rfl
      have p3 := PRE.out ⟨3, .data⟩ (by simp) rfl
      obtain rfl := E1.out p1
      obtain rfl := E3.out p3
      refine wpOp_by rfl fun K HK => ?_
      go_wp2_with fail
      refine (CM.out q q' W).mono ?_
      rintro e W' ⟨rfl, hb⟩
      go_wp2
      exact HK.out _ _ ⟨by rw [Array.size_setIfInBounds, HS.out], HB.out.trans (hb.mono HB.out.size), _, _, _, _, _, _, _, _, _, _, _, _, _, rfl, fun h => E0.out ((listed_set h).resolve_left (by decide)), fun _ => rfl, fun h => E2.out ((listed_set h).resolve_left (by decide)), fun _ => rfl, fun _ => rfl, fun h => E5.out ((listed_set h).resolve_left (by decide)), fun h => E6.out ((listed_set h).resolve_left (by decide)), fun h => E7.out ((listed_set h).resolve_left (by decide)), fun h => E8.out ((listed_set h).resolve_left (by decide)), fun h => E9.out ((listed_set h).resolve_left (by decide)), fun h => (by obtain ⟨g, e1, e2, e3⟩ := (E10.out ((listed_set h).resolve_left (by decide))); exact ⟨g, e1, (hb.cell (World.block_lt_of_cell? _ _ e2)).trans e2, (hb.cell (World.block_lt_of_cell? _ _ e3)).trans e3⟩), fun h => E11.out ((listed_set h).resolve_left (by decide)), fun h => E12.out ((listed_set h).resolve_left (by decide))⟩
    | 5, hio =>
      clear hio
      refine wpOp_by rfl fun K HK => ?_
      go_wp2_with (fail)
      exact HK.out _ _ ⟨by rw [Array.size_setIfInBounds, HS.out], HB.out, _, _, _, _, _, _, _, _, _, _, _, _, _, rfl, fun h => E0.out ((listed_set h).resolve_left (by decide)), fun h => E1.out ((listed_set h).resolve_left (by decide)), fun h => E2.out ((listed_set h).resolve_left (by decide)), fun h => E3.out ((listed_set h).resolve_left (by decide)), fun h => E4.out ((listed_set h).resolve_left (by decide)), fun _ => rfl, fun h => E6.out ((listed_set h).resolve_left (by decide)), fun h => E7.out ((listed_set h).resolve_left (by decide)), fun h => E8.out ((listed_set h).resolve_left (by decide)), fun h => E9.out ((listed_set h).resolve_left (by decide)), fun h => (E10.out ((listed_set h).resolve_left (by decide))), fun h => E11.out ((listed_set h).resolve_left (by decide)), fun h => E12.out ((listed_set h).resolve_left (by decide))⟩
    | 6, hio =>
      simp only [List.getElem?_toArray, List.getElem?_cons_succ, List.getElem?_cons_zero, Option.some.injEq] at hio
      subst hio
      have p5 := PRE.out ⟨5, .data⟩ (by simp) rfl
      obtain rfl := E5.out p5
      refine wpOp_by rfl fun K HK => ?_
      go_wp2_with (fail)
      exact HK.out _ _ ⟨by rw [Array.size_setIfInBounds, HS.out], HB.out, _, _, _, _, _, _, _, _, _, _, _, _, _, rfl, fun h => E0.out ((listed_set h).resolve_left (by decide)), fun h => E1.out ((listed_set h).resolve_left (by decide)), fun h => E2.out ((listed_set h).resolve_left (by decide)), fun h => E3.out ((listed_set h).resolve_left (by decide)), fun h => E4.out ((listed_set h).resolve_left (by decide)), fun _ => rfl, fun _ => rfl, fun h => E7.out ((listed_set h).resolve_left (by decide)), fun h => E8.out ((listed_set h).resolve_left (by decide)), fun h => E9.out ((listed_set h).resolve_left (by decide)), fun h => (E10.out ((listed_set h).resolve_left (by decide))), fun h => E11.out ((listed_set h).resolve_left (by decide)), fun h => E12.out ((listed_set h).resolve_left (by decide))⟩
    | 7, hio =>
      clear hio
      refine wpOp_by rfl fun K HK => ?_
      go_wp2_with (fail)
      exact HK.out _ _ ⟨by rw [Array.size_setIfInBounds, HS.out], HB.out, _, _, _, _, _, _, _, _, _, _, _, _, _, rfl, fun h => E0.out ((listed_set h).resolve_left (by decide)), fun h => E1.out ((listed_set h).resolve_left (by decide)), fun h => E2.out ((listed_set h).resolve_left (by decide)), fun h => E3.out ((listed_set h).resolve_left (by decide)), fun h => E4.out ((listed_set h).resolve_left (by decide)), fun h => E5.out ((listed_set h).resolve_left (by decide)), fun h => E6.out ((listed_set h).resolve_left (by decide)), fun _ => rfl, fun h => E8.out ((listed_set h).resolve_left (by decide)), fun h => E9.out ((listed_set h).resolve_left (by decide)), fun h => (E10.out ((listed_set h).resolve_left (by decide))), fun h => E11.out ((listed_set h).resolve_left (by decide)), fun h => E12.out ((listed_set h).resolve_left (by decide))⟩
    | 8, hio =>
      simp only [List.getElem?_toArray, List.getElem?_cons_succ, List.getElem?_cons_zero, Option.some.injEq] at hio
      subst hio
      have p7 := PRE.out ⟨7, .data⟩ (by simp) rfl
      obtain rfl := E7.out p7
      refine wpOp_by rfl fun K HK => ?_
      go_wp2_with (fail)
      exact HK.out _ _ ⟨by rw [Array.size_setIfInBounds, HS.out], HB.out, _, _, _, _, _, _, _, _, _, _, _, _, _, rfl, fun h => E0.out ((listed_set h).resolve_left (by decide)), fun h => E1.out ((listed_set h).resolve_left (by decide)), fun h => E2.out ((listed_set h).resolve_left (by decide)), fun h => E3.out ((listed_set h).resolve_left (by decide)), fun h => E4.out ((listed_set h).resolve_left (by decide)), fun h => E5.out ((listed_set h).resolve_left (by decide)), fun h => E6.out ((listed_set h).resolve_left (by decide)), fun _ => rfl, fun _ => rfl, fun h => E9.out ((listed_set h).resolve_left (by decide)), fun h => (E10.out ((listed_set h).resolve_left (by decide))), fun h => E11.out ((listed_set h).resolve_left (by decide)), fun h => E12.out ((listed_set h).resolve_left (by decide))⟩
    | 9, hio =>
      simp only [List.getElem?_toArray, List.getElem?_cons_succ, List.getElem?_cons_zero, Option.some.injEq] at hio
      subst hio
      have p6 := PRE.out ⟨6, .data⟩ (by simp) rfl
      have p8 := PRE.out ⟨8, .data⟩ (by simp) rfl
      obtain rfl := E6.out p6
      obtain rfl := E8.out p8
      refine wpOp_by rfl fun K HK => ?_
      go_wp2_with fail
      refine (CM.out p p' W).mono ?_
      rintro e W' ⟨rfl, hb⟩
      go_wp2
      exact HK.out _ _ ⟨by rw [Array.size_setIfInBounds, HS.out], HB.out.trans (hb.mono HB.out.size), _, _, _, _, _, _, _, _, _, _, _, _, _, rfl, fun h => E0.out ((listed_set h).resolve_left (by decide)), fun h => E1.out ((listed_set h).resolve_left (by decide)), fun h => E2.out ((listed_set h).resolve_left (by decide)), fun h => E3.out ((listed_set h).resolve_left (by decide)), fun h => E4.out ((listed_set h).resolve_left (by decide)), fun h => E5.out ((listed_set h).resolve_left (by decide)), fun _ => rfl, fun h => E7.out ((listed_set h).resolve_left (by decide)), fun _ => rfl, fun _ => rfl, fun h => (by obtain ⟨g, e1, e2, e3⟩ := (E10.out ((listed_set h).resolve_left (by decide))); exact ⟨g, e1, (hb.cell (World.block_lt_of_cell? _ _ e2)).trans e2, (hb.cell (World.block_lt_of_cell? _ _ e3)).trans e3⟩), fun h => E11.out ((listed_set h).resolve_left (by decide)), fun h => E12.out ((listed_set h).resolve_left (by decide))⟩
    | 10, hio =>
      simp only [List.getElem?_toArray, List.getElem?_cons_succ, List.getElem?_cons_zero, Option.some.injEq] at hio
      subst hio
      have p4 := PRE.out ⟨4, .data⟩ (by simp) rfl
      have p9 := PRE.out ⟨9, .data⟩ (by simp) rfl
      obtain rfl := E4.out p4
      obtain rfl := E9.out p9
      refine wpOp_by rfl fun K HK => ?_
      go_wp2_with (fail)
      exact HK.out _ _ ⟨by rw [Array.size_setIfInBounds, HS.out], HB.out.alloc (HB.out.size) _, _, _, _, _, _, _, _, _, _, _, _, _, _, rfl, fun h => E0.out ((listed_set h).resolve_left (by decide)), fun h => E1.out ((listed_set h).resolve_left (by decide)), fun h => E2.out ((listed_set h).resolve_left (by decide)), fun h => E3.out ((listed_set h).resolve_left (by decide)), fun _ => rfl, fun h => E5.out ((listed_set h).resolve_left (by decide)), fun h => E6.out ((listed_set h).resolve_left (by decide)), fun h => E7.out ((listed_set h).resolve_left (by decide)), fun h => E8.out ((listed_set h).resolve_left (by decide)), fun _ => rfl, fun _ => ⟨_, rfl, (Lib.cell_of_heap (World.alloc_heap_new _ _) 0), (Lib.cell_of_heap (World.alloc_heap_new _ _) 1)⟩, fun h => E11.out ((listed_set h).resolve_left (by decide)), fun h => E12.out ((listed_set h).resolve_left (by decide))⟩
    | 11, hio =>
      simp only [List.getElem?_toArray, List.getElem?_cons_succ, List.getElem?_cons_zero, Option.some.injEq] at hio
      subst hio
      have p10 := PRE.out ⟨10, .data⟩ (by simp) rfl
      obtain ⟨g7, rfl, hg7, hg8⟩ := E10.out p10
      refine wpOp_by rfl fun K HK => ?_
      go_wp2_with fail
      refine (OR.out (sg q q') (sg p p') g7 W hg7 hg8).mono ?_
      rintro e W' ⟨rfl, hb⟩
      go_wp2
      exact HK.out _ _ ⟨by rw [Array.size_setIfInBounds, HS.out], HB.out.trans (hb.mono HB.out.size), _, _, _, _, _, _, _, _, _, _, _, _, _, rfl, fun h => E0.out ((listed_set h).resolve_left (by decide)), fun h => E1.out ((listed_set h).resolve_left (by decide)), fun h => E2.out ((listed_set h).resolve_left (by decide)), fun h => E3.out ((listed_set h).resolve_left (by decide)), fun h => E4.out ((listed_set h).resolve_left (by decide)), fun h => E5.out ((listed_set h).resolve_left (by decide)), fun h => E6.out ((listed_set h).resolve_left (by decide)), fun h => E7.out ((listed_set h).resolve_left (by decide)), fun h => E8.out ((listed_set h).resolve_left (by decide)), fun h => E9.out ((listed_set h).resolve_left (by decide)), fun _ => ⟨g7, rfl, (hb.cell (World.block_lt_of_cell? _ _ hg7)).trans hg7, (hb.cell (World.block_lt_of_cell? _ _ hg8)).trans hg8⟩, fun _ => rfl, fun h => E12.out ((listed_set h).resolve_left (by decide))⟩
    | 12, hio =>
      simp only [List.getElem?_toArray, List.getElem?_cons_succ, List.getElem?_cons_zero, Option.some.injEq] at hio
      subst hio
      have p11 := PRE.out ⟨11, .data⟩ (by simp) rfl
      obtain rfl := E11.out p11
      refine wpOp_by rfl fun K HK => ?_
      go_wp2_with (fail)
      exact HK.out _ _ ⟨by rw [Array.size_setIfInBounds, HS.out], HB.out, _, _, _, _, _, _, _, _, _, _, _, _, _, rfl, fun h => E0.out ((listed_set h).resolve_left (by decide)), fun h => E1.out ((listed_set h).resolve_left (by decide)), fun h => E2.out ((listed_set h).resolve_left (by decide)), fun h => E3.out ((listed_set h).resolve_left (by decide)), fun h => E4.out ((listed_set h).resolve_left (by decide)), fun h => E5.out ((listed_set h).resolve_left (by decide)), fun h => E6.out ((listed_set h).resolve_left (by decide)), fun h => E7.out ((listed_set h).resolve_left (by decide)), fun h => E8.out ((listed_set h).resolve_left (by decide)), fun h => E9.out ((listed_set h).resolve_left (by decide)), fun h => (E10.out ((listed_set h).resolve_left (by decide))), fun _ => rfl, fun _ => rfl⟩
    | k + 13, hio => simp at hio
  case hend1 =>
    rintro listed act W1 ⟨hs, hB, x0, x1, x2, x3, x4, x5, x6, x7, x8, x9, x10, x11, x12, rfl, e0, e1, e2, e3, e4, e5, e6, e7, e8, e9, e10, e11, e12⟩ hall
    obtain rfl := e0 (hall 0 (by decide))
    obtain rfl := e1 (hall 1 (by decide))
    obtain rfl := e2 (hall 2 (by decide))
    obtain rfl := e3 (hall 3 (by decide))
    obtain rfl := e4 (hall 4 (by decide))
    obtain rfl := e5 (hall 5 (by decide))
    obtain rfl := e6 (hall 6 (by decide))
    obtain rfl := e7 (hall 7 (by decide))
    obtain rfl := e8 (hall 8 (by decide))
    obtain rfl := e9 (hall 9 (by decide))
    obtain ⟨g7, rfl, hg7, hg8⟩ := e10 (hall 10 (by decide))
    obtain rfl := e11 (hall 11 (by decide))
    obtain rfl := e12 (hall 12 (by decide))
    clear hs hall
    have HB1 := Lib.hid (AB.out.trans (hB.mono AB.out.size))
    clear hB
    go_wp2
    go_ret
    exact ⟨rfl, HB1.out⟩
end Go.Proofs.Ythfmkejdpflpcaa
