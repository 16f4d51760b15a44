/-
  CONTRACTS: a cell set in the masks of a map: (sheet).set; sheetOf.
-/
import Derived.Test.YthfmkejdpflpcaaNk
import Derived.Test.YthfmkejdpflpcaaJc
namespace Go.Proofs.Ythfmkejdpflpcaa
open Go.ChangeShapes Go.WideShapes Go.ChangeAt Go.RowKit Go.Maps Go.WideMaps
def setSh (F : MF) (x y : Int) (on : Bool) : MF := putM F (x / 16) (y / 16) (withF (F (x / 16) (y / 16)) (x % 16).toNat (y % 16).toNat on)
theorem pcF_set (f : Nat → Int) (i : Nat) : pcF f (i + 1) = setSh (pcF f i) (f (2 * i)) (f (2 * i + 1)) true := rfl
set_option maxRecDepth 100000 in
set_option maxHeartbeats 8000000 in
theorem iSet_any (b n : Nat) (F : MF) (x y : Int) (on : Bool) (w : World) (hm : MapM b n F w) (hF : MBF F) (hn : n < maxLen) (hx : C32 x) (hy : C32 y) :
    Calls Try.prog 96 #[.map (some b), .agg #[.int .i32 x, .int .i32 y], .bool on] w fun e w' => e = .returned (.tuple #[]) ∧ MapM b (n + 1) (setSh F x y on) w' ∧ w.grownBy w' (some b) := by
  have IB := Lib.hid (inBlock_any x y hx hy)
  have HM := Lib.hid hm
  have BL := Lib.hid hm.lt
  have HNM := Lib.hid hn
  obtain ⟨p, ep⟩ : ∃ z, x / 16 = z := ⟨_, rfl⟩
  obtain ⟨q, eq⟩ : ∃ z, y / 16 = z := ⟨_, rfl⟩
  have CP : Hid (C32 p ∧ C32 q) := Lib.hid (by unfold C32 at *; omega)
  obtain ⟨X, eX⟩ : ∃ X : Nat, (x % 16).toNat = X := ⟨_, rfl⟩
  obtain ⟨Y, eY⟩ : ∃ X : Nat, (y % 16).toNat = X := ⟨_, rfl⟩
  have sx : x % 16 = (X : Int) := by omega
  have sy : y % 16 = (Y : Int) := by omega
  have WH : Hid (∀ W, Calls Try.prog 132 #[.agg (M16 (F p q)), .int .i64 (X : Int), .int .i64 (Y : Int), .bool on] W fun e w' => e = .returned (.agg (M16 (withF (F p q) X Y on))) ∧ Below W.heap.size W w') := Lib.hid fun W => mwith_any (F p q) (hF p q) X Y (by omega) (by omega) on W
  have LKX : Hid (∀ W, MapM b n F W → (Instr.lookup 65 (.map (some b)) (.agg #[.int .i32 p, .int .i32 q]) false).run Try.prog W = .ok (.agg (M16 (F p q))) W) := Lib.hid fun W h => h.look p q CP.out.1 CP.out.2 _ Try.underlying65
  have ST : Hid (setSh F x y on = putM F p q (withF (F p q) X Y on)) := Lib.hid (by unfold setSh; rw [ep, eq, eX, eY])
  unfold atA at IB
  rw [sx, sy, ep, eq] at IB
  obtain ⟨m2, hm2⟩ : ∃ z, withF (F p q) X Y on = z := ⟨_, rfl⟩
  rw [hm2] at WH ST
  obtain ⟨A, hA⟩ : ∃ z, M16 (F p q) = z := ⟨_, rfl⟩
  rw [hA] at WH LKX
  obtain ⟨w1, hw1⟩ : ∃ z, w.alloc (.cells #[.int .i32 x, .int .i32 y] 89) = z := ⟨_, rfl⟩
  have P1 : Hid (w1.heap[w.heap.size]? = some (.cells #[.int .i32 x, .int .i32 y] 89 (0, 0))) := Lib.hid (by rw [← hw1]; exact World.alloc_heap_new w _)
  have b1 : Below w.heap.size w w1 := by rw [← hw1]; exact (Below.refl _ _).alloc (Nat.le_refl _) _
  have B1 := Lib.hid b1
  have M1 := Lib.hid (HM.out.later b1)
  clear b1 hm hx hy hF hn ep eq eX eY sx sy hm2 hA HM
  go_enter Try.func96, Try.ntmps96
  go_wp2_with (refine wpList_load_row rfl 89 _ rfl w.heap.size rfl 89 _ _ _ P1.out Try.underlying89 rfl (cell_info _ rfl) ?_)
  refine (IB.out _).mono ?_
  rintro e w2 ⟨rfl, bb⟩
  have B2 := Lib.hid (B1.out.trans (bb.mono B1.out.size))
  have M2 := Lib.hid (M1.out.later bb)
  clear bb P1 M1 B1
  obtain ⟨w3, hw3⟩ : ∃ z, w2.alloc (.cells #[.int .i32 p, .int .i32 q] 46) = z := ⟨_, rfl⟩
  have R3 : Hid (w3.heap[w2.heap.size]? = some (.cells #[.int .i32 p, .int .i32 q] 46 (0, 0))) := Lib.hid (by rw [← hw3]; exact World.alloc_heap_new w2 _)
  have M3 : Hid (MapM b n F w3) := Lib.hid (by rw [← hw3]; exact M2.out.alloc _)
  have B3 : Hid (Below w.heap.size w w3) := Lib.hid (by rw [← hw3]; exact B2.out.alloc B2.out.size _)
  have LB : Hid (b < w3.heap.size) := Lib.hid M3.out.lt
  clear M2 B2
  have HC2 : Hid (∀ W, Below w3.heap.size w3 W → W.cell? ⟨w2.heap.size, 0, none⟩ = some (.int .i32 p) ∧ W.cell? ⟨w2.heap.size, 1, none⟩ = some (.int .i32 q)) := Lib.hid fun W hW => by
    have h := (hW.block _ (Array.getElem?_eq_some_iff.1 R3.out).1).trans R3.out
    exact ⟨Lib.cell_of_heap h 0, Lib.cell_of_heap h 1⟩
  go_wp2
  refine wp_region_inv (by kernel_rfl) (fun listed act W => listed.size = 10 ∧ ((listed.getD 9 false = false → Below w3.heap.size w3 W) ∧ (listed.getD 9 false = true → (∀ j, j < 9 → listed.getD j false = true) ∧ ∃ W0, Below w3.heap.size w3 W0 ∧ MapM b (n + 1) (putM F p q m2) W ∧ W0.grownBy W (some b))) ∧ ∃ x0 x1 x2 x3 x4 x5 x6 x7 x8, act = { tmps := #[.map (some b), .agg #[.int .i32 x, .int .i32 y], .bool on, undef, .pointer (some ⟨w.heap.size, 0, none⟩), undef, .pointer (some ⟨w2.heap.size, 0, none⟩), .int .i64 (X : Int), .int .i64 (Y : Int), .tuple #[.agg #[.int .i32 p, .int .i32 q], .int .i64 (X : Int), .int .i64 (Y : Int)], .agg #[.int .i32 x, .int .i32 y], .tuple #[.agg #[.int .i32 p, .int .i32 q], .int .i64 (X : Int), .int .i64 (Y : Int)], .agg #[.int .i32 p, .int .i32 q], .int .i64 (X : Int), .int .i64 (Y : Int), x0, x1, x2, x3, x4, x5, x6, x7, x8], defers := [] } ∧ (listed.getD 0 false = true → x0 = .map (some b)) ∧ (listed.getD 1 false = true → x1 = .agg #[.int .i32 p, .int .i32 q]) ∧ (listed.getD 2 false = true → x2 = .map (some b)) ∧ (listed.getD 3 false = true → x3 = .agg #[.int .i32 p, .int .i32 q]) ∧ (listed.getD 4 false = true → x4 = .agg A) ∧ (listed.getD 5 false = true → x5 = .int .i64 (X : Int)) ∧ (listed.getD 6 false = true → x6 = .int .i64 (Y : Int)) ∧ (listed.getD 7 false = true → x7 = .bool on) ∧ (listed.getD 8 false = true → x8 = .agg (M16 m2))) (by kernel_rfl) ?h0z (fun _ _ _ h => h.1) ?hstepz ?hendz
  case h0z =>
    refine ⟨rfl, ⟨fun _ => (Below.refl _ _).drew, fun h => absurd h (by decide)⟩, _, _, _, _, _, _, _, _, _, rfl, ?_, ?_, ?_, ?_, ?_, ?_, ?_, ?_, ?_⟩ <;> (intro h; exact absurd h (by decide))
  case hstepz =>
    rintro listed act W ii oo ⟨hs, hB, x0, x1, x2, x3, x4, x5, x6, x7, x8, rfl, e0, e1, e2, e3, e4, e5, e6, e7, e8⟩ hun hio hpre
    have HB := Lib.hid hB
    have E0 := Lib.hid e0
    have E1 := Lib.hid e1
    have E2 := Lib.hid e2
    have E3 := Lib.hid e3
    have E4 := Lib.hid e4
    have E5 := Lib.hid e5
    have E6 := Lib.hid e6
    have E7 := Lib.hid e7
    have E8 := Lib.hid e8
    have HS := Lib.hid hs
    have HU := Lib.hid hun
    have PRE := Lib.hid hpre
    clear e0 e1 e2 e3 e4 e5 e6 e7 e8 hs hpre hB hun
    match ii, hio with
    | 0, hio =>
      clear hio
      have n9 : listed.getD 9 false = false := by
        cases h : listed.getD 9 false with
        | false => rfl
        | true => exact absurd ((HB.out.2 h).1 0 (by decide)) (by rw [nlist HU.out]; decide)
      refine wpOp_by rfl fun KK HK => ?_
      go_wp2_with (fail)
      exact HK.out _ _ ⟨by rw [Array.size_setIfInBounds, HS.out], ⟨fun _ => (HB.out.1 n9), fun h => absurd ((listed_set h).resolve_left (by decide)) (by rw [n9]; decide)⟩, _, _, _, _, _, _, _, _, _, rfl, fun _ => rfl, fun h => E1.out ((listed_set h).resolve_left (by decide)), fun h => E2.out ((listed_set h).resolve_left (by decide)), fun h => E3.out ((listed_set h).resolve_left (by decide)), fun h => E4.out ((listed_set h).resolve_left (by decide)), fun h => E5.out ((listed_set h).resolve_left (by decide)), fun h => E6.out ((listed_set h).resolve_left (by decide)), fun h => E7.out ((listed_set h).resolve_left (by decide)), fun h => E8.out ((listed_set h).resolve_left (by decide))⟩
    | 1, hio =>
      clear hio
      have n9 : listed.getD 9 false = false := by
        cases h : listed.getD 9 false with
        | false => rfl
        | true => exact absurd ((HB.out.2 h).1 1 (by decide)) (by rw [nlist HU.out]; decide)
      obtain ⟨cc0, cc1⟩ := HC2.out _ (HB.out.1 n9)
      refine wpOp_by rfl fun KK HK => ?_
      go_wp2_with (fail)
      exact HK.out _ _ ⟨by rw [Array.size_setIfInBounds, HS.out], ⟨fun _ => (HB.out.1 n9), fun h => absurd ((listed_set h).resolve_left (by decide)) (by rw [n9]; decide)⟩, _, _, _, _, _, _, _, _, _, rfl, fun h => E0.out ((listed_set h).resolve_left (by decide)), fun _ => rfl, fun h => E2.out ((listed_set h).resolve_left (by decide)), fun h => E3.out ((listed_set h).resolve_left (by decide)), fun h => E4.out ((listed_set h).resolve_left (by decide)), fun h => E5.out ((listed_set h).resolve_left (by decide)), fun h => E6.out ((listed_set h).resolve_left (by decide)), fun h => E7.out ((listed_set h).resolve_left (by decide)), fun h => E8.out ((listed_set h).resolve_left (by decide))⟩
    | 2, hio =>
      clear hio
      have n9 : listed.getD 9 false = false := by
        cases h : listed.getD 9 false with
        | false => rfl
        | true => exact absurd ((HB.out.2 h).1 2 (by decide)) (by rw [nlist HU.out]; decide)
      refine wpOp_by rfl fun KK HK => ?_
      go_wp2_with (fail)
      exact HK.out _ _ ⟨by rw [Array.size_setIfInBounds, HS.out], ⟨fun _ => (HB.out.1 n9), fun h => absurd ((listed_set h).resolve_left (by decide)) (by rw [n9]; decide)⟩, _, _, _, _, _, _, _, _, _, rfl, fun h => E0.out ((listed_set h).resolve_left (by decide)), fun h => E1.out ((listed_set h).resolve_left (by decide)), fun _ => rfl, fun h => E3.out ((listed_set h).resolve_left (by decide)), fun h => E4.out ((listed_set h).resolve_left (by decide)), fun h => E5.out ((listed_set h).resolve_left (by decide)), fun h => E6.out ((listed_set h).resolve_left (by decide)), fun h => E7.out ((listed_set h).resolve_left (by decide)), fun h => E8.out ((listed_set h).resolve_left (by decide))⟩
    | 3, hio =>
      clear hio
      have n9 : listed.getD 9 false = false := by
        cases h : listed.getD 9 false with
        | false => rfl
        | true => exact absurd ((HB.out.2 h).1 3 (by decide)) (by rw [nlist HU.out]; decide)
      obtain ⟨cc0, cc1⟩ := HC2.out _ (HB.out.1 n9)
      refine wpOp_by rfl fun KK HK => ?_
      go_wp2_with (fail)
      exact HK.out _ _ ⟨by rw [Array.size_setIfInBounds, HS.out], ⟨fun _ => (HB.out.1 n9), fun h => absurd ((listed_set h).resolve_left (by decide)) (by rw [n9]; decide)⟩, _, _, _, _, _, _, _, _, _, rfl, fun h => E0.out ((listed_set h).resolve_left (by decide)), fun h => E1.out ((listed_set h).resolve_left (by decide)), fun h => E2.out ((listed_set h).resolve_left (by decide)), fun _ => rfl, fun h => E4.out ((listed_set h).resolve_left (by decide)), fun h => E5.out ((listed_set h).resolve_left (by decide)), fun h => E6.out ((listed_set h).resolve_left (by decide)), fun h => E7.out ((listed_set h).resolve_left (by decide)), fun h => E8.out ((listed_set h).resolve_left (by decide))⟩
    | 4, hio =>
      simp only [List.getElem?_toArray, List.getElem?_cons_succ, List.getElem?_cons_zero, Option.some.injEq] at hio
      subst hio
      have p2 := PRE.out ⟨2, .data⟩ (by simp) rfl
      have p3 := PRE.out ⟨3, .data⟩ (by simp) rfl
      obtain rfl := E2.out p2
      obtain rfl := E3.out p3
      have n9 : listed.getD 9 false = false := by
        cases h : listed.getD 9 false with
        | false => rfl
        | true => exact absurd ((HB.out.2 h).1 4 (by decide)) (by rw [nlist HU.out]; decide)
      have lk := LKX.out W (M3.out.kept (below_grown (HB.out.1 n9)) (by simp))
      refine wpOp_by rfl fun KK HK => ?_
      go_wp2_with (fail)
      exact HK.out _ _ ⟨by rw [Array.size_setIfInBounds, HS.out], ⟨fun _ => (HB.out.1 n9), fun h => absurd ((listed_set h).resolve_left (by decide)) (by rw [n9]; decide)⟩, _, _, _, _, _, _, _, _, _, rfl, fun h => E0.out ((listed_set h).resolve_left (by decide)), fun h => E1.out ((listed_set h).resolve_left (by decide)), fun _ => rfl, fun _ => rfl, fun _ => rfl, fun h => E5.out ((listed_set h).resolve_left (by decide)), fun h => E6.out ((listed_set h).resolve_left (by decide)), fun h => E7.out ((listed_set h).resolve_left (by decide)), fun h => E8.out ((listed_set h).resolve_left (by decide))⟩
    | 5, hio =>
      clear hio
      have n9 : listed.getD 9 false = false := by
        cases h : listed.getD 9 false with
        | false => rfl
        | true => exact absurd ((HB.out.2 h).1 5 (by decide)) (by rw [nlist HU.out]; decide)
      refine wpOp_by rfl fun KK HK => ?_
      go_wp2_with (fail)
      exact HK.out _ _ ⟨by rw [Array.size_setIfInBounds, HS.out], ⟨fun _ => (HB.out.1 n9), fun h => absurd ((listed_set h).resolve_left (by decide)) (by rw [n9]; decide)⟩, _, _, _, _, _, _, _, _, _, rfl, fun h => E0.out ((listed_set h).resolve_left (by decide)), fun h => E1.out ((listed_set h).resolve_left (by decide)), fun h => E2.out ((listed_set h).resolve_left (by decide)), fun h => E3.out ((listed_set h).resolve_left (by decide)), fun h => E4.out ((listed_set h).resolve_left (by decide)), fun _ => rfl, fun h => E6.out ((listed_set h).resolve_left (by decide)), fun h => E7.out ((listed_set h).resolve_left (by decide)), fun h => E8.out ((listed_set h).resolve_left (by decide))⟩
    | 6, hio =>
      clear hio
      have n9 : listed.getD 9 false = false := by
        cases h : listed.getD 9 false with
        | false => rfl
        | true => exact absurd ((HB.out.2 h).1 6 (by decide)) (by rw [nlist HU.out]; decide)
      refine wpOp_by rfl fun KK HK => ?_
      go_wp2_with (fail)
      exact HK.out _ _ ⟨by rw [Array.size_setIfInBounds, HS.out], ⟨fun _ => (HB.out.1 n9), fun h => absurd ((listed_set h).resolve_left (by decide)) (by rw [n9]; decide)⟩, _, _, _, _, _, _, _, _, _, rfl, fun h => E0.out ((listed_set h).resolve_left (by decide)), fun h => E1.out ((listed_set h).resolve_left (by decide)), fun h => E2.out ((listed_set h).resolve_left (by decide)), fun h => E3.out ((listed_set h).resolve_left (by decide)), fun h => E4.out ((listed_set h).resolve_left (by decide)), fun h => E5.out ((listed_set h).resolve_left (by decide)), fun _ => rfl, fun h => E7.out ((listed_set h).resolve_left (by decide)), fun h => E8.out ((listed_set h).resolve_left (by decide))⟩
    | 7, hio =>
      clear hio
      have n9 : listed.getD 9 false = false := by
        cases h : listed.getD 9 false with
        | false => rfl
        | true => exact absurd ((HB.out.2 h).1 7 (by decide)) (by rw [nlist HU.out]; decide)
      refine wpOp_by rfl fun KK HK => ?_
      go_wp2_with (fail)
      exact HK.out _ _ ⟨by rw [Array.size_setIfInBounds, HS.out], ⟨fun _ => (HB.out.1 n9), fun h => absurd ((listed_set h).resolve_left (by decide)) (by rw [n9]; decide)⟩, _, _, _, _, _, _, _, _, _, rfl, fun h => E0.out ((listed_set h).resolve_left (by decide)), fun h => E1.out ((listed_set h).resolve_left (by decide)), fun h => E2.out ((listed_set h).resolve_left (by decide)), fun h => E3.out ((listed_set h).resolve_left (by decide)), fun h => E4.out ((listed_set h).resolve_left (by decide)), fun h => E5.out ((listed_set h).resolve_left (by decide)), fun h => E6.out ((listed_set h).resolve_left (by decide)), fun _ => rfl, fun h => E8.out ((listed_set h).resolve_left (by decide))⟩
    | 8, hio =>
      simp only [List.getElem?_toArray, List.getElem?_cons_succ, List.getElem?_cons_zero, Option.some.injEq] at hio
      subst hio
      have p4 := PRE.out ⟨4, .data⟩ (by simp) rfl
      have p5 := PRE.out ⟨5, .data⟩ (by simp) rfl
      have p6 := PRE.out ⟨6, .data⟩ (by simp) rfl
      have p7 := PRE.out ⟨7, .data⟩ (by simp) rfl
      obtain rfl := E4.out p4
      obtain rfl := E5.out p5
      obtain rfl := E6.out p6
      obtain rfl := E7.out p7
      have n9 : listed.getD 9 false = false := by
        cases h : listed.getD 9 false with
        | false => rfl
        | true => exact absurd ((HB.out.2 h).1 8 (by decide)) (by rw [nlist HU.out]; decide)
      refine wpOp_by rfl fun KK HK => ?_
      go_wp2_with fail
      refine Calls.mono (WH.out _) ?_
      rintro e W' ⟨rfl, bq⟩
      go_wp2
      exact HK.out _ _ ⟨by rw [Array.size_setIfInBounds, HS.out], ⟨fun _ => ((HB.out.1 n9).trans (bq.mono (HB.out.1 n9).size)), fun h => absurd ((listed_set h).resolve_left (by decide)) (by rw [n9]; decide)⟩, _, _, _, _, _, _, _, _, _, rfl, fun h => E0.out ((listed_set h).resolve_left (by decide)), fun h => E1.out ((listed_set h).resolve_left (by decide)), fun h => E2.out ((listed_set h).resolve_left (by decide)), fun h => E3.out ((listed_set h).resolve_left (by decide)), fun _ => rfl, fun _ => rfl, fun _ => rfl, fun _ => rfl, fun _ => rfl⟩
    | 9, hio =>
      simp only [List.getElem?_toArray, List.getElem?_cons_succ, List.getElem?_cons_zero, Option.some.injEq] at hio
      subst hio
      have p0 := PRE.out ⟨0, .data⟩ (by simp) rfl
      have p1 := PRE.out ⟨1, .data⟩ (by simp) rfl
      have p8 := PRE.out ⟨8, .data⟩ (by simp) rfl
      obtain rfl := E0.out p0
      obtain rfl := E1.out p1
      obtain rfl := E8.out p8
      have n9 : listed.getD 9 false = false := nlist HU.out
      have PH : Hid (∀ j, j < 9 → listed.getD j false = true) := Lib.hid fun j hj => by
        match j, hj with
        | 0, _ => exact PRE.out ⟨0, .phase⟩ (by simp) rfl
        | 1, _ => exact PRE.out ⟨1, .phase⟩ (by simp) rfl
        | 2, _ => exact PRE.out ⟨2, .phase⟩ (by simp) rfl
        | 3, _ => exact PRE.out ⟨3, .phase⟩ (by simp) rfl
        | 4, _ => exact PRE.out ⟨4, .phase⟩ (by simp) rfl
        | 5, _ => exact PRE.out ⟨5, .phase⟩ (by simp) rfl
        | 6, _ => exact PRE.out ⟨6, .phase⟩ (by simp) rfl
        | 7, _ => exact PRE.out ⟨7, .phase⟩ (by simp) rfl
        | 8, _ => exact PRE.out ⟨8, .phase⟩ (by simp) rfl
        | k + 9, h => exact absurd h (by omega)
      refine wpOp_by rfl fun KK HK => ?_
      go_wp2_with ((refine wpList_mapUpdate_m rfl _ _ _ 65 rfl Try.underlying65 b n F rfl (M3.out.kept (below_grown (HB.out.1 n9)) (by simp)) HNM.out p q CP.out.1 CP.out.2 m2 rfl rfl ?_; intro W9 hM9 hg9))
      exact HK.out _ _ ⟨by rw [Array.size_setIfInBounds, HS.out], ⟨fun h => absurd h (by simp [Array.getD_eq_getD_getElem?, HS.out]), fun _ => ⟨fun j hj => set_keeps (PH.out j hj), W, HB.out.1 n9, hM9, hg9⟩⟩, _, _, _, _, _, _, _, _, _, rfl, fun _ => rfl, fun _ => rfl, fun h => E2.out ((listed_set h).resolve_left (by decide)), fun h => E3.out ((listed_set h).resolve_left (by decide)), fun h => E4.out ((listed_set h).resolve_left (by decide)), fun h => E5.out ((listed_set h).resolve_left (by decide)), fun h => E6.out ((listed_set h).resolve_left (by decide)), fun h => E7.out ((listed_set h).resolve_left (by decide)), fun _ => rfl⟩
    | k + 10, hio => simp at hio
  case hendz =>
    rintro listed act W1 ⟨hs, hB, x0, x1, x2, x3, x4, x5, x6, x7, x8, rfl, e0, e1, e2, e3, e4, e5, e6, e7, e8⟩ hall
    obtain rfl := e0 (hall 0 (by decide))
    obtain rfl := e1 (hall 1 (by decide))
    obtain rfl := e2 (hall 2 (by decide))
    obtain rfl := e3 (hall 3 (by decide))
    obtain rfl := e4 (hall 4 (by decide))
    obtain rfl := e5 (hall 5 (by decide))
    obtain rfl := e6 (hall 6 (by decide))
    obtain rfl := e7 (hall 7 (by decide))
    obtain rfl := e8 (hall 8 (by decide))
    obtain ⟨-, W0, hW0, hM0, hg0⟩ := hB.2 (hall 9 (by decide))
    clear hs
    have MF2 : Hid (MapM b (n + 1) (setSh F x y on) W1) := Lib.hid (by rw [ST.out]; exact hM0)
    have GF : Hid (w.grownBy W1 (some b)) := Lib.hid (((below_grown (B3.out.trans (hW0.mono B3.out.size))).but (some b)).andThen hg0 fun j hj => .inr hj)
    clear hM0 hg0 hW0 hB
    go_wp2
    go_end0
    exact ⟨rfl, MF2.out, GF.out⟩
end Go.Proofs.Ythfmkejdpflpcaa
