import Derived.Test.YtaodckhfmdiifaaNb3
import Derived.Test.YtaodckhfmdiifaaCellS
namespace Go.Proofs.Ytaodckhfmdiifaa
open Go.ChangeShapes Go.WideShapes Go.ChangeAt Go.RowKit
theorem eqNone_any (x y : Option Addr) (c1 c2 : Nat) (w : World) :
    Calls Try.prog 14 #[.slice x 0 c1, .slice y 0 c2] w fun e w' => e = .returned (.bool true) ∧ w = w' := by
  go_enter Try.func14, Try.ntmps14
  go_wp2
  refine wp_loop_rounds 1 ?_
  rw [rounds_succ]
  go_wp2
  go_ret
  exact ⟨rfl, rfl⟩
theorem markNone_any (x : Option Addr) (c : Nat) (w : World) :
    Calls Try.prog 15 #[.slice x 0 c, .int .i64 1] w fun e w' => e = .returned (.int .i64 1) ∧ w = w' := by
  go_enter Try.func15, Try.ntmps15
  go_wp2
  refine wp_loop_rounds 1 ?_
  rw [rounds_succ]
  go_wp2
  go_ret
  exact ⟨rfl, rfl⟩
theorem heldNone_any (x : Option Addr) (c : Nat) (w : World) :
    Calls Try.prog 16 #[.slice x 0 c, .int .i64 1] w fun e w' => e = .returned (.int .i64 1) ∧ w = w' := by
  go_enter Try.func16, Try.ntmps16
  go_wp2
  refine wp_loop_rounds 1 ?_
  rw [rounds_succ]
  go_wp2
  go_ret
  exact ⟨rfl, rfl⟩
theorem nbL_get (a b : Int) : ∀ j, j < 16 → ∃ x, (nbL a b)[j]? = some (.int .i32 x) := by
  intro j hj
  match j, hj with
  | 0, _ => exact ⟨_, rfl⟩
  | 1, _ => exact ⟨_, rfl⟩
  | 2, _ => exact ⟨_, rfl⟩
  | 3, _ => exact ⟨_, rfl⟩
  | 4, _ => exact ⟨_, rfl⟩
  | 5, _ => exact ⟨_, rfl⟩
  | 6, _ => exact ⟨_, rfl⟩
  | 7, _ => exact ⟨_, rfl⟩
  | 8, _ => exact ⟨_, rfl⟩
  | 9, _ => exact ⟨_, rfl⟩
  | 10, _ => exact ⟨_, rfl⟩
  | 11, _ => exact ⟨_, rfl⟩
  | 12, _ => exact ⟨_, rfl⟩
  | 13, _ => exact ⟨_, rfl⟩
  | 14, _ => exact ⟨_, rfl⟩
  | 15, _ => exact ⟨_, rfl⟩
  | k + 16, h => exact absurd h (by omega)
def nbF (a b : Int) (j : Nat) : Int := match (nbL a b)[j]? with | some (.int _ x) => x | _ => 0
theorem nbF_get (a b : Int) (j : Nat) (h : j < 16) : (nbL a b)[j]? = some (.int .i32 (nbF a b j)) := by
  obtain ⟨x, hx⟩ := nbL_get a b j h
  unfold nbF; rw [hx]
/-- a row of the eight cells, opened -/
theorem row_open {a b : Int} {base : Nat} {e : Ending} {w : World} (h : RowOf base (nbL a b) 8 e w) : ∃ g cap, e = .returned (.tuple #[.slice (some ⟨g, 0, none⟩) 8 cap, .int .i64 0]) ∧ base ≤ g ∧ g < w.heap.size ∧ (∀ j, j < 2 * 8 → w.cell? ⟨g, j, none⟩ = some (.int .i32 (nbF a b j))) ∧ ∀ j, w.frozen? ⟨g, j, none⟩ = false := by
  obtain ⟨v, he, ho⟩ := h
  rcases ho.2 with ⟨_, h0⟩ | ⟨g, cap, cur, hv, hb, hg, _⟩
  · omega
  · subst hv
    have hlt := (ho.lt g rfl).2
    exact ⟨g, cap, he, hb, hlt, fun j hj => by rw [ho.cellAt j (by omega)]; exact nbF_get a b j (by omega), fun j => ho.frozenAt j⟩
theorem info_c2 (a b : Int) : (Try.prog.info? 31).map (·.size) = some (#[Value.int .i32 a, .int .i32 b] : Array Value).size := by kernel_rfl
set_option maxHeartbeats 1000000 in
theorem nbOut_walk (a b : Int) (ha : -2147483648 ≤ a ∧ a ≤ 2147483647) (hb : -2147483648 ≤ b ∧ b ≤ 2147483647) (h : (nbB a && nbB b) = false) (w : World) :
    Calls Try.prog 4 #[.agg #[.int .i32 a, .int .i32 b]] w fun e w' => e = .returned (.bool true) ∧ Below w.heap.size w w' := by
  have HS := Lib.hid (specNb_out a b ha hb h)
  have HI := Lib.hid (implNb_out a b h)
  clear ha hb h
  go_enter Try.func4, Try.ntmps4
  go_wp2_with fail
  refine (toCell_any a b _).mono ?_
  rintro e w1 ⟨rfl, b1⟩
  have B1 := Lib.hid ((Below.refl (w.heap.size + 1) (w.alloc (.cells #[.int .i32 a, .int .i32 b] 31))).trans (b1.mono (by simp)))
  clear b1
  go_wp2_with fail
  refine (HS.out _).mono ?_
  rintro e w2 ⟨⟨x, rfl⟩, b2⟩
  have B2 := Lib.hid (B1.out.trans (b2.mono (by have := B1.out.size; simpa using this)))
  clear b2 B1
  have c0 : w2.cell? ⟨w.heap.size, 0, none⟩ = some (.int .i32 a) := by rw [B2.out.cell (p := ⟨w.heap.size, 0, none⟩) (by simp), World.cell?_alloc_new]; rfl
  have c1 : w2.cell? ⟨w.heap.size, 1, none⟩ = some (.int .i32 b) := by rw [B2.out.cell (p := ⟨w.heap.size, 1, none⟩) (by simp), World.cell?_alloc_new]; rfl
  go_wp2_with fail
  refine (toCell_any a b _).mono ?_
  rintro e w3 ⟨rfl, b3⟩
  have B3 := Lib.hid (B2.out.trans (b3.mono (by have := B2.out.size; simpa using this)))
  clear b3 B2 c0 c1
  go_wp2_with fail
  refine (HI.out _).mono ?_
  rintro e w4 ⟨⟨y, rfl⟩, b4⟩
  have B4 := Lib.hid (B3.out.trans (b4.mono (by have := B3.out.size; simpa using this)))
  clear b4 B3
  go_wp2_with fail
  refine (eqNone_any _ _ _ _ _).mono ?_
  rintro e w' ⟨rfl, rfl⟩
  go_wp2_with fail
  refine (markNone_any _ _ _).mono ?_
  rintro e w' ⟨rfl, rfl⟩
  go_wp2_with fail
  refine (heldNone_any _ _ _).mono ?_
  rintro e w' ⟨rfl, rfl⟩
  have c0 : w4.cell? ⟨w.heap.size, 0, none⟩ = some (.int .i32 a) := by rw [B4.out.cell (p := ⟨w.heap.size, 0, none⟩) (by simp), World.cell?_alloc_new]; rfl
  have c1 : w4.cell? ⟨w.heap.size, 1, none⟩ = some (.int .i32 b) := by rw [B4.out.cell (p := ⟨w.heap.size, 1, none⟩) (by simp), World.cell?_alloc_new]; rfl
  go_wp2_with fail
  refine (toCell_any a b _).mono ?_
  rintro e w5 ⟨rfl, b5⟩
  have B5 := Lib.hid (B4.out.trans (b5.mono (by have := B4.out.size; simpa using this)))
  clear b5 B4 c0 c1
  go_wp2_with fail
  refine (HI.out _).mono ?_
  rintro e w6 ⟨⟨z, rfl⟩, b6⟩
  have B6 := Lib.hid (B5.out.trans (b6.mono (by have := B5.out.size; simpa using this)))
  clear b6 B5
  go_wp2_with fail
  refine (eqNone_any _ _ _ _ _).mono ?_
  rintro e w' ⟨rfl, rfl⟩
  go_wp2_with fail
  refine (heldNone_any _ _ _).mono ?_
  rintro e w' ⟨rfl, rfl⟩
  go_wp2
  go_ret
  exact ⟨rfl, ((Below.refl _ _).alloc (Nat.le_refl _) _).trans (B6.out.mono (by omega))⟩
/-- numbers of a block, kept -/
def CellsAt (w : World) (g : Nat) (f : Nat → Int) : Prop := ∀ j, j < 2 * 8 → w.cell? ⟨g, j, none⟩ = some (.int .i32 (f j))
theorem CellsAt.later {w w' : World} {g B : Nat} {f : Nat → Int} (h : CellsAt w g f) (hb : Below B w w') (hg : g < B) : CellsAt w' g f := fun j hj => by rw [hb.cell (p := ⟨g, j, none⟩) hg]; exact h j hj
theorem CellsAt.onl {w w' : World} {g k : Nat} {f : Nat → Int} (h : CellsAt w g f) (hb : Onl k w w') (hg : g ≠ k) : CellsAt w' g f := fun j hj => by
  rw [World.cell?_of_block (w := w) (a := ⟨g, j, none⟩) (hb.2.2.2.2 g hg)]; exact h j hj
def markI : Nat → Int := fun j => ((1 + j : Nat) : Int)
set_option maxHeartbeats 1000000 in
theorem nbIn_walk (a b : Int) (ha : -2147483648 ≤ a ∧ a ≤ 2147483647) (hb : -2147483648 ≤ b ∧ b ≤ 2147483647) (h : (nbB a && nbB b) = true) (w : World) :
    Calls Try.prog 4 #[.agg #[.int .i32 a, .int .i32 b]] w fun e w' => e = .returned (.bool true) ∧ Below w.heap.size w w' := by
  have HS := Lib.hid (specNb_in a b ha hb h)
  have HI := Lib.hid (implNb_in a b h)
  clear ha hb h
  go_enter Try.func4, Try.ntmps4
  go_wp2_with fail
  refine (toCell_any a b _).mono ?_
  rintro e w1 ⟨rfl, b1⟩
  have B1 := Lib.hid ((Below.refl (w.heap.size + 1) (w.alloc (.cells #[.int .i32 a, .int .i32 b] 31))).trans (b1.mono (by simp)))
  clear b1
  go_wp2_with fail
  refine (HS.out _).mono ?_
  rintro e w2 ⟨hr, b2⟩
  obtain ⟨gS, capS, rfl, hgb, hgS, hcS, _⟩ := row_open hr
  have B2 := Lib.hid (B1.out.trans (b2.mono (by have := B1.out.size; simpa using this)))
  have CS2 : Hid (CellsAt w2 gS (nbF a b)) := Lib.hid hcS
  have c0 : w2.cell? ⟨w.heap.size, 0, none⟩ = some (.int .i32 a) := by rw [B2.out.cell (p := ⟨w.heap.size, 0, none⟩) (by simp), World.cell?_alloc_new]; rfl
  have c1 : w2.cell? ⟨w.heap.size, 1, none⟩ = some (.int .i32 b) := by rw [B2.out.cell (p := ⟨w.heap.size, 1, none⟩) (by simp), World.cell?_alloc_new]; rfl
  clear b2 B1 hr hcS hgb
  go_wp2_with fail
  refine (toCell_any a b _).mono ?_
  rintro e w3 ⟨rfl, b3⟩
  have CS3 := Lib.hid (CS2.out.later b3 hgS)
  have G3 : Hid (gS < w3.heap.size) := Lib.hid (by have := b3.size; omega)
  have B3 := Lib.hid (B2.out.trans (b3.mono (by have := B2.out.size; simpa using this)))
  clear b3 B2 c0 c1 CS2 hgS
  go_wp2_with fail
  refine (HI.out _).mono ?_
  rintro e w4 ⟨hr, b4⟩
  obtain ⟨g0, cap0, rfl, hgb, hg0, hc0, hf0⟩ := row_open hr
  have CS4 := Lib.hid (CS3.out.later b4 G3.out)
  have C04 : Hid (CellsAt w4 g0 (nbF a b)) := Lib.hid hc0
  have F04 := Lib.hid hf0
  have NE : Hid (gS ≠ g0) := Lib.hid (by have := G3.out; omega)
  have G4 : Hid (gS < w4.heap.size) := Lib.hid (by have := b4.size; have := G3.out; omega)
  have GB : Hid (w.heap.size + 1 ≤ g0) := Lib.hid (by have := B3.out.size; simp at this; omega)
  have B4 := Lib.hid (B3.out.trans (b4.mono (by have := B3.out.size; simpa using this)))
  have G0 := Lib.hid hg0
  clear b4 B3 hr hc0 hf0 CS3 G3 hgb hg0
  go_wp2_with fail
  refine (eqCellS_any g0 gS 8 cap0 capS (nbF a b) _ (by omega) C04.out CS4.out).mono ?_
  rintro e w5 ⟨rfl, b5⟩
  have CS5 := Lib.hid (CS4.out.later b5 G4.out)
  have C05 := Lib.hid (C04.out.later b5 G0.out)
  have MK5 : Hid (Mk g0 (2 * 8) 0 w5) := Lib.hid ⟨fun j hj => absurd hj (by omega), fun j hj => ⟨⟨_, C05.out j hj⟩, by rw [b5.frozen (p := ⟨g0, j, none⟩) G0.out]; exact F04.out j⟩⟩
  have G05 : Hid (g0 < w5.heap.size) := Lib.hid (by have := b5.size; have := G0.out; omega)
  have G5 : Hid (gS < w5.heap.size) := Lib.hid (by have := b5.size; have := G4.out; omega)
  have B5 := Lib.hid (B4.out.trans (b5.mono (by have := B4.out.size; simpa using this)))
  clear b5 B4 CS4 C04 F04 C05 G4 G0
  go_wp2_with fail
  refine (markCellS_any g0 cap0 8 (by omega) _ MK5.out).mono ?_
  rintro e w6 ⟨rfl, m6, o6⟩
  have CS6 := Lib.hid (CS5.out.onl o6 NE.out)
  have M6 : Hid (CellsAt w6 g0 markI) := Lib.hid m6.1
  have G06 : Hid (g0 < w6.heap.size) := Lib.hid (by have := o6.2.2.2.1; have := G05.out; omega)
  have G6 : Hid (gS < w6.heap.size) := Lib.hid (by have := o6.2.2.2.1; have := G5.out; omega)
  have B6 := Lib.hid (B5.out.trans (o6.below GB.out))
  clear m6 o6 B5 CS5 MK5 G05 G5
  go_wp2_with fail
  refine (heldCellS_any g0 cap0 8 (by omega) _ M6.out).mono ?_
  rintro e w' ⟨rfl, m, rfl⟩
  have c0 : (w6.drewN m).cell? ⟨w.heap.size, 0, none⟩ = some (.int .i32 a) := by
    show w6.cell? _ = _
    rw [B6.out.cell (p := ⟨w.heap.size, 0, none⟩) (by simp), World.cell?_alloc_new]; rfl
  have c1 : (w6.drewN m).cell? ⟨w.heap.size, 1, none⟩ = some (.int .i32 b) := by
    show w6.cell? _ = _
    rw [B6.out.cell (p := ⟨w.heap.size, 1, none⟩) (by simp), World.cell?_alloc_new]; rfl
  go_wp2_with fail
  refine (toCell_any a b _).mono ?_
  rintro e w7 ⟨rfl, b7⟩
  have b7' : Below w6.heap.size w6 w7 := (belowN (n := m) (Below.refl _ _)).trans b7
  have CS7 := Lib.hid (CS6.out.later b7' G6.out)
  have M7 := Lib.hid (M6.out.later b7' G06.out)
  have G07 : Hid (g0 < w7.heap.size) := Lib.hid (by have := b7'.size; have := G06.out; omega)
  have G7 : Hid (gS < w7.heap.size) := Lib.hid (by have := b7'.size; have := G6.out; omega)
  have B7 := Lib.hid (B6.out.trans (b7'.mono (by have := B6.out.size; simpa using this)))
  clear b7 b7' B6 CS6 M6 G06 G6 c0 c1
  go_wp2_with fail
  refine (HI.out _).mono ?_
  rintro e w8 ⟨hr, b8⟩
  obtain ⟨g1, cap1, rfl, hgb, hg1, hc1, _⟩ := row_open hr
  have CS8 := Lib.hid (CS7.out.later b8 G7.out)
  have M8 := Lib.hid (M7.out.later b8 G07.out)
  have C18 : Hid (CellsAt w8 g1 (nbF a b)) := Lib.hid hc1
  have G08 : Hid (g0 < w8.heap.size) := Lib.hid (by have := b8.size; have := G07.out; omega)
  have B8 := Lib.hid (B7.out.trans (b8.mono (by have := B7.out.size; simpa using this)))
  clear b8 B7 hr hc1 CS7 M7 G07 G7 hgb hg1
  go_wp2_with fail
  refine (eqCellS_any g1 gS 8 cap1 capS (nbF a b) _ (by omega) C18.out CS8.out).mono ?_
  rintro e w9 ⟨rfl, b9⟩
  have M9 := Lib.hid (M8.out.later b9 G08.out)
  have B9 := Lib.hid (B8.out.trans (b9.mono (by have := B8.out.size; simpa using this)))
  clear b9 B8 CS8 C18 M8 G08
  go_wp2_with fail
  refine (heldCellS_any g0 cap0 8 (by omega) _ M9.out).mono ?_
  rintro e w' ⟨rfl, m', rfl⟩
  go_wp2
  go_ret
  exact ⟨rfl, belowN (((Below.refl _ _).alloc (Nat.le_refl _) _).trans (B9.out.mono (by omega)))⟩
theorem fnExactNeighboursOf_walk (f : Nat → Int) (hw : ∀ i, i < 2 → (Lit.int .i32 (f i)).wf = true) (w : World) :
    Calls Try.prog 4 #[.agg (arr .i32 2 f)] w fun e w' => e = .returned (.bool true) ∧ Below w.heap.size w w' := by
  have h0 := bounds_i32 (hw 0 (by omega))
  have h1 := bounds_i32 (hw 1 (by omega))
  cases h : (nbB (f 0) && nbB (f 1))
  · exact nbOut_walk (f 0) (f 1) h0 h1 h w
  · exact nbIn_walk (f 0) (f 1) h0 h1 h w
end Go.Proofs.Ytaodckhfmdiifaa
