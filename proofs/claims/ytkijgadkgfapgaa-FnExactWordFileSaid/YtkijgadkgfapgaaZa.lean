/-
  SLICES OF complex64, as the laws look at them: compared, marked, held; rows of the call's own.
-/
import Derived.Test.YtkijgadkgfapgaaHc
import Derived.Test.YtkijgadkgfapgaaGab
namespace Go.Proofs.Ytkijgadkgfapgaa
open Go.ChangeShapes Go.WideShapes Go.ChangeAt Go.RowKit Go.Deep
open Fl
def FCx (f : Nat → Nat × Nat) : Nat → Value := fun j => .complex .f32 (f j).1 (f j).2
theorem run_store_cx {P : Program} {w : World} {a : Addr} {m : Mode} (k : FloatKind) (x y : Nat) : (store a (.complex k x y) m).run P w = stored P w a (.complex k x y) m := run_store P w a _ m rfl
attribute [local go_sem] run_store_cx
/-- a mark: a whole number, narrowed -/
def mkN (k : Nat) : Nat := (floatToFloatBits .f64 (floatOfInt .f64 (k : Int)) .f32).getD 0
theorem mkN_all : ((List.range 1200).all fun k => (floatToFloatBits .f64 (floatOfInt .f64 (k : Int)) .f32 == some (mkN k)) && decide (kd (mkN k) ≠ 4)) = true := by decide +kernel
theorem mkN_bits {k : Nat} (h : k < 1200) : floatToFloatBits .f64 (floatOfInt .f64 (k : Int)) .f32 = some (mkN k) ∧ kd (mkN k) ≠ 4 := by
  have := List.all_eq_true.1 mkN_all k (by simpa using h)
  simp only [Bool.and_eq_true, beq_iff_eq, decide_eq_true_eq] at this
  exact this
theorem one_bits : floatToFloatBits .f64 4607182418800017408 .f32 = some 1065353216 ∧ kd 1065353216 ≠ 4 := by decide +kernel
theorem nar_cx {k : Nat} (h : k < 1200) (w : World) : (convert 60 55 (.complex .f64 (floatOfInt .f64 (k : Int)) 4607182418800017408)).run Try.prog w = .ok (.complex .f32 (mkN k) 1065353216) w := by
  simp [convert, run_underlying Try.underlying55, run_underlying Try.underlying60, Conv.complexToComplex, run_floatToFloat _ (mkN_bits h).1, run_floatToFloat _ one_bits.1]
def markCx : Nat → Value := fun j => .complex .f32 (mkN (1 + j)) 1065353216
def CMk (g N m : Nat) (w : World) : Prop := (∀ j, j < m → w.cell? ⟨g, j, none⟩ = some (markCx j)) ∧ ∀ j, j < N → (∃ x y, w.cell? ⟨g, j, none⟩ = some (.complex .f32 x y)) ∧ w.frozen? ⟨g, j, none⟩ = false
theorem CMk.put {g N m : Nat} {w : World} (h : CMk g N m w) (hm : m < N) : CMk g N (m + 1) (w.setCell ⟨g, m, none⟩ (markCx m)) := by
  refine ⟨fun j hj => ?_, fun j hj => ⟨?_, ?_⟩⟩
  · obtain ⟨x, y, hx⟩ := (h.2 j (by omega)).1
    rw [fcell_set hx]
    by_cases e : m = j
    · subst e; simp
    · rw [if_neg e, ← hx]; exact h.1 j (by omega)
  · obtain ⟨x, y, hx⟩ := (h.2 j hj).1
    rw [fcell_set hx]
    by_cases e : m = j
    · exact ⟨_, _, by rw [if_pos e]; rfl⟩
    · exact ⟨x, y, by rw [if_neg e]⟩
  · rw [World.frozen?_setCell]; exact (h.2 j hj).2
def CxR (B : Nat) (w : World) (a : Option Addr) (n : Nat) (f : Nat → Nat × Nat) : Prop := n = 0 ∨ ∃ g off, a = some ⟨g, off, none⟩ ∧ g < B ∧ ∀ j, j < n → w.cell? ⟨g, off + j, none⟩ = some (.complex .f32 (f j).1 (f j).2)
theorem PR.cx {lo hi : Nat} {w : World} {v : Value} {n : Nat} {f : Nat → Nat × Nat} (h : PR 1 lo hi w v n (FCx f)) : ∃ a cap, v = .slice a n cap ∧ CxR w.heap.size w a n f := by
  obtain ⟨a, cap, rfl, h0 | ⟨g, rfl, h1, h2, h3, h4, h5⟩⟩ := h
  · exact ⟨a, cap, rfl, .inl h0⟩
  · exact ⟨_, cap, rfl, .inr ⟨g, 0, rfl, by omega, fun j hj => by rw [Nat.zero_add]; exact h4 j (by omega)⟩⟩
theorem CxR.congr {B n : Nat} {w : World} {a : Option Addr} {f g : Nat → Nat × Nat} (h : CxR B w a n f) (e : ∀ j, j < n → f j = g j) : CxR B w a n g := by
  rcases h with h | ⟨b, off, ha, hg, hc⟩
  · exact .inl h
  · exact .inr ⟨b, off, ha, hg, fun j hj => by rw [← e j hj]; exact hc j hj⟩
/-- widened, somehow -/
def WdOf (v : Value) (p q : Nat) : Prop := ∃ x y, v = .complex .f64 x y ∧ (∃ w, x = wd p w) ∧ ∃ w, y = wd q w
theorem sameW_any {v v' : Value} {p q : Nat} (h : WdOf v p q) (h' : WdOf v' p q) (w : World) : Calls Try.prog 35 #[v, v'] w fun e w' => e = .returned (.bool true) ∧ w = w' := by
  obtain ⟨x, y, rfl, ⟨_, rfl⟩, ⟨_, rfl⟩⟩ := h
  obtain ⟨x', y', rfl, ⟨_, rfl⟩, ⟨_, rfl⟩⟩ := h'
  exact sameCx_alk _ _ _ _ (wd_alk _ _ _) (wd_alk _ _ _) _
set_option maxRecDepth 20000 in
set_option maxHeartbeats 4000000 in
theorem eqCxS_any (a1 a2 : Option Addr) (n c1 c2 : Nat) (f : Nat → Nat × Nat) (B : Nat) (w : World) (hB : B ≤ w.heap.size) (hn : n ≤ 1048576) (h1 : CxR B w a1 n f) (h2 : CxR B w a2 n f) :
    Calls Try.prog 51 #[.slice a1 n c1, .slice a2 n c2] w fun e w' => e = .returned (.bool true) ∧ Below w.heap.size w w' := by
  have HX := Lib.hid h1
  have HY := Lib.hid h2
  have HB := Lib.hid hB
  clear h1 h2 hB
  have hn' : (n : Int) ≤ 1048576 := by omega
  go_enter Try.func51, Try.ntmps51
  go_wp2
  go_loopw [5] (fun i wr => ∃ k : Nat, k ≤ n ∧ i = .int .i64 k ∧ Below w.heap.size w wr) (fun i _ => n - (intOf i).toNat)
  case atStart => exact ⟨0, Nat.zero_le _, rfl, Below.refl _ _⟩
  case round =>
    obtain ⟨k, hk, rfl, hw⟩ := hrel
    have HW := Lib.hid hw
    clear hw
    by_cases hlt : k < n
    · obtain ⟨g1, o1, rfl, hg1, hc1⟩ : ∃ g off, a1 = some ⟨g, off, none⟩ ∧ g < B ∧ ∀ j, j < n → w.cell? ⟨g, off + j, none⟩ = some (.complex .f32 (f j).1 (f j).2) := by
        rcases HX.out with h | h
        · omega
        · exact h
      obtain ⟨g2, o2, rfl, hg2, hc2⟩ : ∃ g off, a2 = some ⟨g, off, none⟩ ∧ g < B ∧ ∀ j, j < n → w.cell? ⟨g, off + j, none⟩ = some (.complex .f32 (f j).1 (f j).2) := by
        rcases HY.out with h | h
        · omega
        · exact h
      have tl : (k : Int) < n := by omega
      have CX : Hid (∀ W, Below wr.heap.size wr W → W.cell? ⟨g1, o1 + k, none⟩ = some (.complex .f32 (f k).1 (f k).2)) := Lib.hid fun W hW => by
        rw [Below.cell (p := ⟨g1, o1 + k, none⟩) (HW.out.trans (hW.mono HW.out.size)) (Nat.lt_of_lt_of_le hg1 HB.out)]; exact hc1 k hlt
      have CY : Hid (∀ W, Below wr.heap.size wr W → W.cell? ⟨g2, o2 + k, none⟩ = some (.complex .f32 (f k).1 (f k).2)) := Lib.hid fun W hW => by
        rw [Below.cell (p := ⟨g2, o2 + k, none⟩) (HW.out.trans (hW.mono HW.out.size)) (Nat.lt_of_lt_of_le hg2 HB.out)]; exact hc2 k hlt
      clear hc1 hc2 hg1 hg2
      obtain ⟨z1, hz1⟩ : ∃ z, (f k).1 = z := ⟨_, rfl⟩
      obtain ⟨z2, hz2⟩ : ∃ z, (f k).2 = z := ⟨_, rfl⟩
      rw [hz1, hz2] at CX CY
      have HLT := Lib.hid hlt
      clear hz1 hz2 hlt hk
      go_wp2
      refine wp_region_inv (by kernel_rfl) (fun listed act W => listed.size = 12 ∧ Below wr.heap.size wr W ∧ ∃ x0 x1 x2 x3 x4 x5 x6 x7 x8 x9 x10 x11, act = { tmps := #[.slice (some ⟨g1, o1, none⟩) n c1, .slice (some ⟨g2, o2, none⟩) n c2, undef, undef, u4, .int .i64 (k : Int), .slice (some ⟨g1, o1, none⟩) n c1, .int .i64 (n : Int), .slice (some ⟨g2, o2, none⟩) n c2, .int .i64 (n : Int), .bool false, .int .i64 (k : Int), .slice (some ⟨g1, o1, none⟩) n c1, .int .i64 (n : Int), .bool true, u15, u16, x0, x1, x2, x3, x4, x5, x6, x7, x8, x9, x10, x11], defers := [] } ∧ (listed.getD 0 false = true → x0 = .slice (some ⟨g1, o1, none⟩) n c1) ∧ (listed.getD 1 false = true → x1 = .int .i64 (k : Int)) ∧ (listed.getD 2 false = true → x2 = .pointer (some ⟨g1, o1 + k, none⟩)) ∧ (listed.getD 3 false = true → x3 = .complex .f32 z1 z2) ∧ (listed.getD 4 false = true → (WdOf x4 z1 z2)) ∧ (listed.getD 5 false = true → x5 = .slice (some ⟨g2, o2, none⟩) n c2) ∧ (listed.getD 6 false = true → x6 = .int .i64 (k : Int)) ∧ (listed.getD 7 false = true → x7 = .pointer (some ⟨g2, o2 + k, none⟩)) ∧ (listed.getD 8 false = true → x8 = .complex .f32 z1 z2) ∧ (listed.getD 9 false = true → (WdOf x9 z1 z2)) ∧ (listed.getD 10 false = true → x10 = .bool true) ∧ (listed.getD 11 false = true → x11 = .bool false)) (by kernel_rfl) ?h0q (fun _ _ _ h => h.1) ?hstepq ?hendq
      case h0q =>
        refine ⟨rfl, (Below.refl _ _).drew, _, _, _, _, _, _, _, _, _, _, _, _, rfl, ?_, ?_, ?_, ?_, ?_, ?_, ?_, ?_, ?_, ?_, ?_, ?_⟩ <;> (intro h; exact absurd h (by decide))
      case hstepq =>
        rintro listed act W i o ⟨hs, hB, x0, x1, x2, x3, x4, x5, x6, x7, x8, x9, x10, x11, rfl, e0, e1, e2, e3, e4, e5, e6, e7, e8, e9, e10, e11⟩ hun hio hpre
        have HB := Lib.hid hB
        have E0 := Lib.hid e0
        have E1 := Lib.hid e1
        have E2 := Lib.hid e2
        have E3 := Lib.hid e3
        have E4 := Lib.hid e4
        have E5 := Lib.hid e5
        have E6 := Lib.hid e6
        have E7 := Lib.hid e7
        have E8 := Lib.hid e8
        have E9 := Lib.hid e9
        have E10 := Lib.hid e10
        have E11 := Lib.hid e11
        have HS := Lib.hid hs
        have HU := Lib.hid hun
        have PRE := Lib.hid hpre
        clear e0 e1 e2 e3 e4 e5 e6 e7 e8 e9 e10 e11 hs hpre hB hun
        match i, hio with
        | 0, hio =>
          clear hio
          refine wpOp_by rfl fun K HK => ?_
          go_wp2_with (fail)
          exact HK.out _ _ ⟨by rw [Array.size_setIfInBounds, HS.out], HB.out, _, _, _, _, _, _, _, _, _, _, _, _, rfl, fun _ => rfl, fun h => E1.out ((listed_set h).resolve_left (by decide)), fun h => E2.out ((listed_set h).resolve_left (by decide)), fun h => E3.out ((listed_set h).resolve_left (by decide)), fun h => (E4.out ((listed_set h).resolve_left (by decide))), fun h => E5.out ((listed_set h).resolve_left (by decide)), fun h => E6.out ((listed_set h).resolve_left (by decide)), fun h => E7.out ((listed_set h).resolve_left (by decide)), fun h => E8.out ((listed_set h).resolve_left (by decide)), fun h => (E9.out ((listed_set h).resolve_left (by decide))), fun h => E10.out ((listed_set h).resolve_left (by decide)), fun h => E11.out ((listed_set h).resolve_left (by decide))⟩
        | 1, hio =>
          clear hio
          refine wpOp_by rfl fun K HK => ?_
          go_wp2_with (fail)
          exact HK.out _ _ ⟨by rw [Array.size_setIfInBounds, HS.out], HB.out, _, _, _, _, _, _, _, _, _, _, _, _, rfl, fun h => E0.out ((listed_set h).resolve_left (by decide)), fun _ => rfl, fun h => E2.out ((listed_set h).resolve_left (by decide)), fun h => E3.out ((listed_set h).resolve_left (by decide)), fun h => (E4.out ((listed_set h).resolve_left (by decide))), fun h => E5.out ((listed_set h).resolve_left (by decide)), fun h => E6.out ((listed_set h).resolve_left (by decide)), fun h => E7.out ((listed_set h).resolve_left (by decide)), fun h => E8.out ((listed_set h).resolve_left (by decide)), fun h => (E9.out ((listed_set h).resolve_left (by decide))), fun h => E10.out ((listed_set h).resolve_left (by decide)), fun h => E11.out ((listed_set h).resolve_left (by decide))⟩
        | 2, hio =>
          simp only [List.getElem?_toArray, List.getElem?_cons_succ, List.getElem?_cons_zero, Option.some.injEq] at hio
          subst hio
          have p0 := PRE.out ⟨0, .data⟩ (by simp) rfl
          have p1 := PRE.out ⟨1, .data⟩ (by simp) rfl
          obtain rfl := E0.out p0
          obtain rfl := E1.out p1
          refine wpOp_by rfl fun K HK => ?_
          go_wp2_with (fail)
          exact HK.out _ _ ⟨by rw [Array.size_setIfInBounds, HS.out], HB.out, _, _, _, _, _, _, _, _, _, _, _, _, rfl, fun _ => rfl, fun _ => rfl, fun _ => rfl, fun h => E3.out ((listed_set h).resolve_left (by decide)), fun h => (E4.out ((listed_set h).resolve_left (by decide))), fun h => E5.out ((listed_set h).resolve_left (by decide)), fun h => E6.out ((listed_set h).resolve_left (by decide)), fun h => E7.out ((listed_set h).resolve_left (by decide)), fun h => E8.out ((listed_set h).resolve_left (by decide)), fun h => (E9.out ((listed_set h).resolve_left (by decide))), fun h => E10.out ((listed_set h).resolve_left (by decide)), fun h => E11.out ((listed_set h).resolve_left (by decide))⟩
        | 3, hio =>
          simp only [List.getElem?_toArray, List.getElem?_cons_succ, List.getElem?_cons_zero, Option.some.injEq] at hio
          subst hio
          have p2 := PRE.out ⟨2, .data⟩ (by simp) rfl
          obtain rfl := E2.out p2
          have cx := CX.out W HB.out
          refine wpOp_by rfl fun K HK => ?_
          go_wp2_with (fail)
          exact HK.out _ _ ⟨by rw [Array.size_setIfInBounds, HS.out], HB.out, _, _, _, _, _, _, _, _, _, _, _, _, rfl, fun h => E0.out ((listed_set h).resolve_left (by decide)), fun h => E1.out ((listed_set h).resolve_left (by decide)), fun _ => rfl, fun _ => rfl, fun h => (E4.out ((listed_set h).resolve_left (by decide))), fun h => E5.out ((listed_set h).resolve_left (by decide)), fun h => E6.out ((listed_set h).resolve_left (by decide)), fun h => E7.out ((listed_set h).resolve_left (by decide)), fun h => E8.out ((listed_set h).resolve_left (by decide)), fun h => (E9.out ((listed_set h).resolve_left (by decide))), fun h => E10.out ((listed_set h).resolve_left (by decide)), fun h => E11.out ((listed_set h).resolve_left (by decide))⟩
        | 4, hio =>
          simp only [List.getElem?_toArray, List.getElem?_cons_succ, List.getElem?_cons_zero, Option.some.injEq] at hio
          subst hio
          have p3 := PRE.out ⟨3, .data⟩ (by simp) rfl
          obtain rfl := E3.out p3
          refine wpOp_by rfl fun K HK => ?_
          go_wp2_with (simp only [conv_cx])
          exact HK.out _ _ ⟨by rw [Array.size_setIfInBounds, HS.out], wdW_below _ _ (wdW_below _ _ HB.out), _, _, _, _, _, _, _, _, _, _, _, _, rfl, fun h => E0.out ((listed_set h).resolve_left (by decide)), fun h => E1.out ((listed_set h).resolve_left (by decide)), fun h => E2.out ((listed_set h).resolve_left (by decide)), fun _ => rfl, fun _ => ⟨_, _, rfl, ⟨_, rfl⟩, ⟨_, rfl⟩⟩, fun h => E5.out ((listed_set h).resolve_left (by decide)), fun h => E6.out ((listed_set h).resolve_left (by decide)), fun h => E7.out ((listed_set h).resolve_left (by decide)), fun h => E8.out ((listed_set h).resolve_left (by decide)), fun h => (E9.out ((listed_set h).resolve_left (by decide))), fun h => E10.out ((listed_set h).resolve_left (by decide)), fun h => E11.out ((listed_set h).resolve_left (by decide))⟩
        | 5, hio =>
          clear hio
          refine wpOp_by rfl fun K HK => ?_
          go_wp2_with (fail)
          exact HK.out _ _ ⟨by rw [Array.size_setIfInBounds, HS.out], HB.out, _, _, _, _, _, _, _, _, _, _, _, _, rfl, fun h => E0.out ((listed_set h).resolve_left (by decide)), fun h => E1.out ((listed_set h).resolve_left (by decide)), fun h => E2.out ((listed_set h).resolve_left (by decide)), fun h => E3.out ((listed_set h).resolve_left (by decide)), fun h => (E4.out ((listed_set h).resolve_left (by decide))), fun _ => rfl, fun h => E6.out ((listed_set h).resolve_left (by decide)), fun h => E7.out ((listed_set h).resolve_left (by decide)), fun h => E8.out ((listed_set h).resolve_left (by decide)), fun h => (E9.out ((listed_set h).resolve_left (by decide))), fun h => E10.out ((listed_set h).resolve_left (by decide)), fun h => E11.out ((listed_set h).resolve_left (by decide))⟩
        | 6, hio =>
          clear hio
          refine wpOp_by rfl fun K HK => ?_
          go_wp2_with (fail)
          exact HK.out _ _ ⟨by rw [Array.size_setIfInBounds, HS.out], HB.out, _, _, _, _, _, _, _, _, _, _, _, _, rfl, fun h => E0.out ((listed_set h).resolve_left (by decide)), fun h => E1.out ((listed_set h).resolve_left (by decide)), fun h => E2.out ((listed_set h).resolve_left (by decide)), fun h => E3.out ((listed_set h).resolve_left (by decide)), fun h => (E4.out ((listed_set h).resolve_left (by decide))), fun h => E5.out ((listed_set h).resolve_left (by decide)), fun _ => rfl, fun h => E7.out ((listed_set h).resolve_left (by decide)), fun h => E8.out ((listed_set h).resolve_left (by decide)), fun h => (E9.out ((listed_set h).resolve_left (by decide))), fun h => E10.out ((listed_set h).resolve_left (by decide)), fun h => E11.out ((listed_set h).resolve_left (by decide))⟩
        | 7, hio =>
          simp only [List.getElem?_toArray, List.getElem?_cons_succ, List.getElem?_cons_zero, Option.some.injEq] at hio
          subst hio
          have p5 := PRE.out ⟨5, .data⟩ (by simp) rfl
          have p6 := PRE.out ⟨6, .data⟩ (by simp) rfl
          obtain rfl := E5.out p5
          obtain rfl := E6.out p6
          refine wpOp_by rfl fun K HK => ?_
          go_wp2_with (fail)
          exact HK.out _ _ ⟨by rw [Array.size_setIfInBounds, HS.out], HB.out, _, _, _, _, _, _, _, _, _, _, _, _, rfl, fun h => E0.out ((listed_set h).resolve_left (by decide)), fun h => E1.out ((listed_set h).resolve_left (by decide)), fun h => E2.out ((listed_set h).resolve_left (by decide)), fun h => E3.out ((listed_set h).resolve_left (by decide)), fun h => (E4.out ((listed_set h).resolve_left (by decide))), fun _ => rfl, fun _ => rfl, fun _ => rfl, fun h => E8.out ((listed_set h).resolve_left (by decide)), fun h => (E9.out ((listed_set h).resolve_left (by decide))), fun h => E10.out ((listed_set h).resolve_left (by decide)), fun h => E11.out ((listed_set h).resolve_left (by decide))⟩
        | 8, hio =>
          simp only [List.getElem?_toArray, List.getElem?_cons_succ, List.getElem?_cons_zero, Option.some.injEq] at hio
          subst hio
          have p7 := PRE.out ⟨7, .data⟩ (by simp) rfl
          obtain rfl := E7.out p7
          have cy := CY.out W HB.out
          refine wpOp_by rfl fun K HK => ?_
          go_wp2_with (fail)
          exact HK.out _ _ ⟨by rw [Array.size_setIfInBounds, HS.out], HB.out, _, _, _, _, _, _, _, _, _, _, _, _, rfl, fun h => E0.out ((listed_set h).resolve_left (by decide)), fun h => E1.out ((listed_set h).resolve_left (by decide)), fun h => E2.out ((listed_set h).resolve_left (by decide)), fun h => E3.out ((listed_set h).resolve_left (by decide)), fun h => (E4.out ((listed_set h).resolve_left (by decide))), fun h => E5.out ((listed_set h).resolve_left (by decide)), fun h => E6.out ((listed_set h).resolve_left (by decide)), fun _ => rfl, fun _ => rfl, fun h => (E9.out ((listed_set h).resolve_left (by decide))), fun h => E10.out ((listed_set h).resolve_left (by decide)), fun h => E11.out ((listed_set h).resolve_left (by decide))⟩
        | 9, hio =>
          simp only [List.getElem?_toArray, List.getElem?_cons_succ, List.getElem?_cons_zero, Option.some.injEq] at hio
          subst hio
          have p8 := PRE.out ⟨8, .data⟩ (by simp) rfl
          obtain rfl := E8.out p8
          refine wpOp_by rfl fun K HK => ?_
          go_wp2_with (simp only [conv_cx])
          exact HK.out _ _ ⟨by rw [Array.size_setIfInBounds, HS.out], wdW_below _ _ (wdW_below _ _ HB.out), _, _, _, _, _, _, _, _, _, _, _, _, rfl, fun h => E0.out ((listed_set h).resolve_left (by decide)), fun h => E1.out ((listed_set h).resolve_left (by decide)), fun h => E2.out ((listed_set h).resolve_left (by decide)), fun h => E3.out ((listed_set h).resolve_left (by decide)), fun h => (E4.out ((listed_set h).resolve_left (by decide))), fun h => E5.out ((listed_set h).resolve_left (by decide)), fun h => E6.out ((listed_set h).resolve_left (by decide)), fun h => E7.out ((listed_set h).resolve_left (by decide)), fun _ => rfl, fun _ => ⟨_, _, rfl, ⟨_, rfl⟩, ⟨_, rfl⟩⟩, fun h => E10.out ((listed_set h).resolve_left (by decide)), fun h => E11.out ((listed_set h).resolve_left (by decide))⟩
        | 10, hio =>
          simp only [List.getElem?_toArray, List.getElem?_cons_succ, List.getElem?_cons_zero, Option.some.injEq] at hio
          subst hio
          have p4 := PRE.out ⟨4, .data⟩ (by simp) rfl
          have p9 := PRE.out ⟨9, .data⟩ (by simp) rfl
          refine wpOp_by rfl fun K HK => ?_
          go_wp2_with fail
          refine Calls.mono (sameW_any (E4.out p4) (E9.out p9) _) ?_
          rintro e W' ⟨rfl, rfl⟩
          go_wp2
          exact HK.out _ _ ⟨by rw [Array.size_setIfInBounds, HS.out], HB.out, _, _, _, _, _, _, _, _, _, _, _, _, rfl, fun h => E0.out ((listed_set h).resolve_left (by decide)), fun h => E1.out ((listed_set h).resolve_left (by decide)), fun h => E2.out ((listed_set h).resolve_left (by decide)), fun h => E3.out ((listed_set h).resolve_left (by decide)), fun h => (E4.out ((listed_set h).resolve_left (by decide))), fun h => E5.out ((listed_set h).resolve_left (by decide)), fun h => E6.out ((listed_set h).resolve_left (by decide)), fun h => E7.out ((listed_set h).resolve_left (by decide)), fun h => E8.out ((listed_set h).resolve_left (by decide)), fun h => (E9.out ((listed_set h).resolve_left (by decide))), fun _ => rfl, fun h => E11.out ((listed_set h).resolve_left (by decide))⟩
        | 11, hio =>
          simp only [List.getElem?_toArray, List.getElem?_cons_succ, List.getElem?_cons_zero, Option.some.injEq] at hio
          subst hio
          have p10 := PRE.out ⟨10, .data⟩ (by simp) rfl
          obtain rfl := E10.out p10
          refine wpOp_by rfl fun K HK => ?_
          go_wp2_with (fail)
          exact HK.out _ _ ⟨by rw [Array.size_setIfInBounds, HS.out], HB.out, _, _, _, _, _, _, _, _, _, _, _, _, rfl, fun h => E0.out ((listed_set h).resolve_left (by decide)), fun h => E1.out ((listed_set h).resolve_left (by decide)), fun h => E2.out ((listed_set h).resolve_left (by decide)), fun h => E3.out ((listed_set h).resolve_left (by decide)), fun h => (E4.out ((listed_set h).resolve_left (by decide))), fun h => E5.out ((listed_set h).resolve_left (by decide)), fun h => E6.out ((listed_set h).resolve_left (by decide)), fun h => E7.out ((listed_set h).resolve_left (by decide)), fun h => E8.out ((listed_set h).resolve_left (by decide)), fun h => (E9.out ((listed_set h).resolve_left (by decide))), fun _ => rfl, fun _ => rfl⟩
        | k + 12, hio => simp at hio
      case hendq =>
        rintro listed act W1 ⟨hs, hB, x0, x1, x2, x3, x4, x5, x6, x7, x8, x9, x10, x11, rfl, e0, e1, e2, e3, e4, e5, e6, e7, e8, e9, e10, e11⟩ hall
        obtain rfl := e0 (hall 0 (by decide))
        obtain rfl := e1 (hall 1 (by decide))
        obtain rfl := e2 (hall 2 (by decide))
        obtain rfl := e3 (hall 3 (by decide))
        have e4 := e4 (hall 4 (by decide))
        obtain rfl := e5 (hall 5 (by decide))
        obtain rfl := e6 (hall 6 (by decide))
        obtain rfl := e7 (hall 7 (by decide))
        obtain rfl := e8 (hall 8 (by decide))
        have e9 := e9 (hall 9 (by decide))
        obtain rfl := e10 (hall 10 (by decide))
        obtain rfl := e11 (hall 11 (by decide))
        clear hs
        have B9 := Lib.hid (HW.out.trans (hB.mono HW.out.size))
        clear hB hall
        go_wp2
        go_roundw
        case rel => exact ⟨k + 1, HLT.out, by go_num, B9.out⟩
        case measure => have := HLT.out; simp [intOf]; omega
    · obtain rfl : k = n := by omega
      go_wp2
      go_ret
      exact ⟨rfl, HW.out⟩
theorem eqCx_any {lo hi lo' hi' n : Nat} {v v' : Value} {f g : Nat → Nat × Nat} {w : World} (hf : ∀ j, j < n → f j = g j) (hn : n ≤ 1048576) (h : PR 1 lo hi w v n (FCx f)) (h' : PR 1 lo' hi' w v' n (FCx g)) :
    Calls Try.prog 51 #[v, v'] w fun e w' => e = .returned (.bool true) ∧ Below w.heap.size w w' := by
  obtain ⟨a, c, rfl, h0⟩ := h.cx
  obtain ⟨a', c', rfl, h0'⟩ := h'.cx
  exact eqCxS_any a a' n c c' g w.heap.size w (Nat.le_refl _) hn (h0.congr hf) h0'
set_option maxHeartbeats 2000000 in
theorem markCxS_any (g cap n : Nat) (hn : n ≤ 1100) (w : World) (ho : CMk g n 0 w) :
    Calls Try.prog 52 #[.slice (some ⟨g, 0, none⟩) n cap, .int .i64 1] w fun e w' => e = .returned (.int .i64 ((1 + n : Nat) : Int)) ∧ CMk g n n w' ∧ FOnl g w w' := by
  have HO := Lib.hid ho
  have hn' : (n : Int) ≤ 1048576 := by omega
  clear ho
  go_enter Try.func52, Try.ntmps52
  go_wp2
  go_loopw [1, 5] (fun q i wr => ∃ k : Nat, k ≤ n ∧ i = .int .i64 k ∧ q = .int .i64 ((1 + k : Nat) : Int) ∧ CMk g n k wr ∧ FOnl g w wr) (fun _ i _ => n - (intOf i).toNat)
  case atStart => exact ⟨0, Nat.zero_le _, rfl, rfl, HO.out, FOnl.refl _ _⟩
  case round =>
    obtain ⟨k, hk, rfl, rfl, hm, hb⟩ := hrel
    have HM := Lib.hid hm
    have HB := Lib.hid hb
    clear hm hb
    by_cases hlt : k < n
    · have hlt' : (k : Int) < n := by omega
      obtain ⟨x, y, hx⟩ := (HM.out.2 k hlt).1
      have hf := (HM.out.2 k hlt).2
      have HP : Hid (CMk g n (k + 1) (wr.setCell ⟨g, k, none⟩ (.complex .f32 (mkN (1 + k)) 1065353216))) := Lib.hid (HM.out.put hlt)
      have NC := fun W => nar_cx (k := 1 + k) (by omega) W
      obtain ⟨q, hq⟩ : ∃ q, 1 + k = q := ⟨_, rfl⟩
      rw [hq] at NC HP
      have HQ := Lib.hid hq
      have q9 : (q : Int) ≤ 1048577 := by omega
      rw [hq]
      clear hq
      go_wp2_with (simp only [NC])
      go_roundw
      case rel => exact ⟨k + 1, by omega, by go_num, by have := HQ.out; go_num, HP.out, HB.out.put⟩
      case measure => simp [intOf]; omega
    · obtain rfl : k = n := by omega
      go_wp2
      go_ret
      exact ⟨by simp, HM.out, HB.out⟩
set_option maxHeartbeats 2000000 in
theorem heldCxS_any (g cap n : Nat) (hn : n ≤ 1100) (w : World) (ho : ∀ j, j < n → w.cell? ⟨g, j, none⟩ = some (markCx j)) :
    Calls Try.prog 53 #[.slice (some ⟨g, 0, none⟩) n cap, .int .i64 1] w fun e w' => e = .returned (.int .i64 ((1 + n : Nat) : Int)) ∧ w = w' := by
  have HO := Lib.hid ho
  have hn' : (n : Int) ≤ 1048576 := by omega
  clear ho
  go_enter Try.func53, Try.ntmps53
  go_wp2
  go_loop [1, 5] (fun q i => ∃ k : Nat, k ≤ n ∧ i = .int .i64 k ∧ q = .int .i64 ((1 + k : Nat) : Int)) (fun _ i => n - (intOf i).toNat)
  case atStart => exact ⟨0, Nat.zero_le _, rfl, rfl⟩
  case round =>
    obtain ⟨k, hk, rfl, rfl⟩ := hrel
    by_cases hlt : k < n
    · have hlt' : (k : Int) < n := by omega
      have hx : w.cell? ⟨g, k, none⟩ = some (.complex .f32 (mkN (1 + k)) 1065353216) := HO.out k hlt
      have NC := fun W => nar_cx (k := 1 + k) (by omega) W
      have g2 : (FloatKind.f32.format.order (mkN (1 + k)) (mkN (1 + k)) != some .eq) = false := by
        rw [neq_self]
        simpa using (mkN_bits (k := 1 + k) (by omega)).2
      have g3 : (FloatKind.f32.format.order 1065353216 1065353216 != some .eq) = false := by
        rw [neq_self]
        simpa using one_bits.2
      obtain ⟨q, hq⟩ : ∃ q, 1 + k = q := ⟨_, rfl⟩
      rw [hq] at NC hx g2
      have HQ := Lib.hid hq
      have q9 : (q : Int) ≤ 1048577 := by omega
      rw [hq]
      clear hq
      generalize mkN q = b at hx g2 NC
      have g4 : (FloatKind.f32.format.order b b == some .eq) = true := by simpa [bne] using g2
      have g5 : (FloatKind.f32.format.order 1065353216 1065353216 == some .eq) = true := by simpa [bne] using g3
      clear g2 g3
      go_wp2_with (simp only [NC])
      go_round
      case rel => exact ⟨k + 1, by omega, by go_num, by have := HQ.out; go_num⟩
      case measure => simp [intOf]; omega
    · obtain rfl : k = n := by omega
      go_wp2
      go_ret
      exact ⟨by simp, rfl⟩
theorem markCxNone_any (x : Option Addr) (c : Nat) (w : World) :
    Calls Try.prog 52 #[.slice x 0 c, .int .i64 1] w fun e w' => e = .returned (.int .i64 1) ∧ w = w' := by
  go_enter Try.func52, Try.ntmps52
  go_wp2
  refine wp_loop_rounds 1 ?_
  rw [rounds_succ]
  go_wp2
  go_ret
  exact ⟨rfl, rfl⟩
theorem heldCxNone_any (x : Option Addr) (c : Nat) (w : World) :
    Calls Try.prog 53 #[.slice x 0 c, .int .i64 1] w fun e w' => e = .returned (.int .i64 1) ∧ w = w' := by
  go_enter Try.func53, Try.ntmps53
  go_wp2
  refine wp_loop_rounds 1 ?_
  rw [rounds_succ]
  go_wp2
  go_ret
  exact ⟨rfl, rfl⟩
theorem markCx_any {lo hi n : Nat} {v : Value} {f : Nat → Nat × Nat} {w : World} (hn : n ≤ 1100) (h : PR 1 lo hi w v n (FCx f)) :
    Calls Try.prog 52 #[v, .int .i64 1] w fun e w' => e = .returned (.int .i64 ((1 + n : Nat) : Int)) ∧ PR 1 lo hi w' v n markCx ∧ OnlIn lo hi w w' := by
  obtain ⟨a, c, rfl, h0⟩ := h
  rcases h0 with rfl | ⟨g, rfl, h1, h2, h3, h4, h5⟩
  · exact (markCxNone_any a c w).mono fun e w' h => ⟨h.1, ⟨a, c, rfl, .inl rfl⟩, by rw [← h.2]; exact OnlIn.refl _ _ _⟩
  · refine (markCxS_any g c n hn w ⟨fun j hj => absurd hj (by omega), fun j hj => ⟨⟨_, _, h4 j (by omega)⟩, h5 j (by omega)⟩⟩).mono ?_
    rintro e w' ⟨he, hm, ho⟩
    exact ⟨he, ⟨_, c, rfl, .inr ⟨g, rfl, h1, h2, by rw [ho.2.2.2.1]; exact h3, fun j hj => hm.1 j (by omega), fun j hj => (hm.2 j (by omega)).2⟩⟩, ho.onl h1 h2⟩
theorem heldCx_any {lo hi n : Nat} {v : Value} {w : World} (hn : n ≤ 1100) (h : PR 1 lo hi w v n markCx) :
    Calls Try.prog 53 #[v, .int .i64 1] w fun e w' => e = .returned (.int .i64 ((1 + n : Nat) : Int)) ∧ w = w' := by
  obtain ⟨a, c, rfl, h0⟩ := h
  rcases h0 with rfl | ⟨g, rfl, h1, h2, h3, h4, h5⟩
  · exact (heldCxNone_any a c w).mono fun e w' h => ⟨h.1, h.2⟩
  · exact heldCxS_any g c n hn w fun j hj => h4 j (by omega)
/-! rows of complex64 -/
def rowCx (q : Nat → Nat × Nat) (n : Nat) : List Value := (List.range n).map fun j => .complex .f32 (q j).1 (q j).2
theorem rowCx_len (q : Nat → Nat × Nat) (n : Nat) : (rowCx q n).length = n := by simp [rowCx]
theorem rowCx_get (q : Nat → Nat × Nat) (n j : Nat) (h : j < n) : (rowCx q n)[j]? = some (.complex .f32 (q j).1 (q j).2) := by simp [rowCx, h]
theorem rowCx_snoc {q : Nat → Nat × Nat} {n : Nat} {x y : Nat} (h : q n = (x, y)) : rowCx q n ++ [.complex .f32 x y] = rowCx q (n + 1) := by
  unfold rowCx
  rw [List.range_succ, List.map_append, List.map_cons, List.map_nil, h]
def OwnCx (base : Nat) (v : Value) (n : Nat) (q : Nat → Nat × Nat) (w : World) : Prop := w.ownsRow base 55 1 v n (rowCx q n)
theorem OwnCx.alloc {base : Nat} {v : Value} {n : Nat} {q : Nat → Nat × Nat} {w : World} (h : OwnCx base v n q w) (o : Obj) : OwnCx base v n q (w.alloc o) := World.ownsRow.alloc h o
theorem OwnCx.made (q : Nat → Nat × Nat) (w : World) (base : Nat) (hb : base ≤ w.heap.size) : OwnCx base (.slice (some ⟨w.heap.size, 0, none⟩) 0 0) 0 q (w.alloc (.cells #[] 55)) :=
  ⟨rfl, .inr ⟨w.heap.size, 0, #[], rfl, hb, heap_alloc_new w _, Nat.le_refl _, Nat.zero_le _, rfl, rfl⟩⟩
theorem OwnCx.pr {base : Nat} {v : Value} {n : Nat} {f : Nat → Nat × Nat} {w : World} (h : OwnCx base v n f w) : PR 1 base w.heap.size w v n (FCx f) := by
  obtain ⟨a, cap, rfl, h0 | ⟨g, rfl, h1, h2, h3, h4, h5⟩⟩ := PR.of_own h
  · exact ⟨a, cap, rfl, .inl h0⟩
  · refine ⟨_, cap, rfl, .inr ⟨g, rfl, h1, h2, h3, fun j hj => ?_, h5⟩⟩
    rw [h4 j hj]
    unfold listF
    rw [rowCx_get _ _ _ (by omega)]
    rfl
theorem info_cx' : (Try.prog.info? 55).map (fun i => (i.zero, i.size, i.bytes)) = some (some (.complex .f32 0 0), 1, 8) := by kernel_rfl
/-- one number appended to a row of the call's own -/
theorem wpList_append_cx {ops : Array Oper} {rest : List Oper} {o : Oper} {a : Act} {W : World} {Q : Exit → Act → World → Prop} (hgd : o.guard = none) (s x : Operand)
    (ho : o.op = .call { callee := .builtin .append, args := #[s, x], argTypes := #[73, 73] })
    (base : Nat) (v : Value) (n : Nat) (q : Nat → Nat × Nat) (hs : a.eval s = v) (hown : OwnCx base v n q W) (g c : Nat) (y z : Nat) (hx : a.eval x = .slice (some ⟨g, 0, none⟩) 1 c)
    (hc : W.cell? ⟨g, 0, none⟩ = some (.complex .f32 y z)) (hq : q n = (y, z)) (hl : n ≤ 10000000) (hbase : base ≤ W.heap.size)
    (w0 : World) (hb : Below base w0 W)
    (h : ∀ v' w', OwnCx base v' (n + 1) q w' → Below base w0 w' → W.grownBy w' v.ownBlock → wpList Try.prog ops Q rest (a.put o.dst v') w') : wpList Try.prog ops Q (o :: rest) a W := by
  obtain ⟨i0, hi, hz0, hz1, hz2⟩ := info_parts info_cx'
  refine wpList_append_own W hgd s x 73 ho base 55 i0 (.complex .f32 0 0) 1 8 Try.underlying73 hi hz0 hz1 hz2 rfl (by decide) v n (rowCx q n) hs hown ⟨g, 0, none⟩ 1 c [.complex .f32 y z] hx rfl ?_ (by simp [Value.oneCell']) (by unfold maxLen; omega) (by omega) hbase ?_
  · intro j u hj
    cases j with
    | zero => simp at hj; subst hj; rw [Go.WideShapes.add_plain]; exact hc
    | succ j => simp at hj
  · intro v' w' h1 h2 _
    refine h v' w' ?_ ?_ h2
    · unfold OwnCx
      rw [← rowCx_snoc hq]
      exact h1
    · exact hb.grown h2 hbase (fun k hk => (World.ownsRow.lt hown k hk).1)
end Go.Proofs.Ytkijgadkgfapgaa
