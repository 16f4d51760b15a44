/-
  SEVERAL TEXTS IN ONE: XNl,XNn,XEa,XEb
-/
import Derived.Test.YthfmkejdpflpcaaNk
import Derived.Test.YthfmkejdpflpcaaJc
import Derived.Test.YthfmkejdpflpcaaNv
import Derived.Test.YthfmkejdpflpcaaJd
/-
  CONTRACTS: a cell set in the masks of a map: (sheet).set; sheetOf.
-/
namespace Go.Proofs.Ythfmkejdpflpcaa
open Go.ChangeShapes Go.WideShapes Go.ChangeAt Go.RowKit Go.Maps Go.WideMaps
def setSh (F : MF) (x y : Int) (on : Bool) : MF := putM F (x / 16) (y / 16) (withF (F (x / 16) (y / 16)) (x % 16).toNat (y % 16).toNat on)
theorem pcF_set (f : Nat → Int) (i : Nat) : pcF f (i + 1) = setSh (pcF f i) (f (2 * i)) (f (2 * i + 1)) true := rfl
set_option maxRecDepth 100000 in
set_option maxHeartbeats 8000000 in
theorem iSet_any (b n : Nat) (F : MF) (x y : Int) (on : Bool) (w : World) (hm : MapM b n F w) (hF : MBF F) (hn : n < maxLen) (hx : C32 x) (hy : C32 y) :
    Calls Try.prog 96 #[.map (some b), .agg #[.int .i32 x, .int .i32 y], .bool on] w fun e w' => e = .returned (.tuple #[]) ∧ MapM b (n + 1) (setSh F x y on) w' ∧ w.grownBy w' (some b) := by
  have IB := Lib.hid (inBlock_any x y hx hy)
  have HM := Lib.hid hm
  have BL := Lib.hid hm.lt
  have HNM := Lib.hid hn
  obtain ⟨p, ep⟩ : ∃ z, x / 16 = z := ⟨_, rfl⟩
  obtain ⟨q, eq⟩ : ∃ z, y / 16 = z := ⟨_, rfl⟩
  have CP : Hid (C32 p ∧ C32 q) := Lib.hid (by unfold C32 at *; omega)
  obtain ⟨X, eX⟩ : ∃ X : Nat, (x % 16).toNat = X := ⟨_, rfl⟩
  obtain ⟨Y, eY⟩ : ∃ X : Nat, (y % 16).toNat = X := ⟨_, rfl⟩
  have sx : x % 16 = (X : Int) := by omega
  have sy : y % 16 = (Y : Int) := by omega
  have WH : Hid (∀ W, Calls Try.prog 132 #[.agg (M16 (F p q)), .int .i64 (X : Int), .int .i64 (Y : Int), .bool on] W fun e w' => e = .returned (.agg (M16 (withF (F p q) X Y on))) ∧ Below W.heap.size W w') := Lib.hid fun W => mwith_any (F p q) (hF p q) X Y (by omega) (by omega) on W
  have LKX : Hid (∀ W, MapM b n F W → (Instr.lookup 65 (.map (some b)) (.agg #[.int .i32 p, .int .i32 q]) false).run Try.prog W = .ok (.agg (M16 (F p q))) W) := Lib.hid fun W h => h.look p q CP.out.1 CP.out.2 _ Try.underlying65
  have ST : Hid (setSh F x y on = putM F p q (withF (F p q) X Y on)) := Lib.hid (by unfold setSh; rw [ep, eq, eX, eY])
  unfold atA at IB
  rw [sx, sy, ep, eq] at IB
  obtain ⟨m2, hm2⟩ : ∃ z, withF (F p q) X Y on = z := ⟨_, rfl⟩
  rw [hm2] at WH ST
  obtain ⟨A, hA⟩ : ∃ z, M16 (F p q) = z := ⟨_, rfl⟩
  rw [hA] at WH LKX
  obtain ⟨w1, hw1⟩ : ∃ z, w.alloc (.cells #[.int .i32 x, .int .i32 y] 89) = z := ⟨_, rfl⟩
  have P1 : Hid (w1.heap[w.heap.size]? = some (.cells #[.int .i32 x, .int .i32 y] 89 (0, 0))) := Lib.hid (by rw [← hw1]; exact World.alloc_heap_new w _)
  have b1 : Below w.heap.size w w1 := by rw [← hw1]; exact (Below.refl _ _).alloc (Nat.le_refl _) _
  have B1 := Lib.hid b1
  have M1 := Lib.hid (HM.out.later b1)
  clear b1 hm hx hy hF hn ep eq eX eY sx sy hm2 hA HM
  go_enter Try.func96, Try.ntmps96
  go_wp2_with (refine wpList_load_row rfl 89 _ rfl w.heap.size rfl 89 _ _ _ P1.out Try.underlying89 rfl (cell_info _ rfl) ?_)
  refine (IB.out _).mono ?_
  rintro e w2 ⟨rfl, bb⟩
  have B2 := Lib.hid (B1.out.trans (bb.mono B1.out.size))
  have M2 := Lib.hid (M1.out.later bb)
  clear bb P1 M1 B1
  obtain ⟨w3, hw3⟩ : ∃ z, w2.alloc (.cells #[.int .i32 p, .int .i32 q] 46) = z := ⟨_, rfl⟩
  have R3 : Hid (w3.heap[w2.heap.size]? = some (.cells #[.int .i32 p, .int .i32 q] 46 (0, 0))) := Lib.hid (by rw [← hw3]; exact World.alloc_heap_new w2 _)
  have M3 : Hid (MapM b n F w3) := Lib.hid (by rw [← hw3]; exact M2.out.alloc _)
  have B3 : Hid (Below w.heap.size w w3) := Lib.hid (by rw [← hw3]; exact B2.out.alloc B2.out.size _)
  have LB : Hid (b < w3.heap.size) := Lib.hid M3.out.lt
  clear M2 B2
  have HC2 : Hid (∀ W, Below w3.heap.size w3 W → W.cell? ⟨w2.heap.size, 0, none⟩ = some (.int .i32 p) ∧ W.cell? ⟨w2.heap.size, 1, none⟩ = some (.int .i32 q)) := Lib.hid fun W hW => by
    have h := (hW.block _ (Array.getElem?_eq_some_iff.1 R3.out).1).trans R3.out
    exact ⟨Lib.cell_of_heap h 0, Lib.cell_of_heap h 1⟩
  go_wp2
  refine wp_region_inv (by kernel_rfl) (fun listed act W => listed.size = 10 ∧ ((listed.getD 9 false = false → Below w3.heap.size w3 W) ∧ (listed.getD 9 false = true → (∀ j, j < 9 → listed.getD j false = true) ∧ ∃ W0, Below w3.heap.size w3 W0 ∧ MapM b (n + 1) (putM F p q m2) W ∧ W0.grownBy W (some b))) ∧ ∃ x0 x1 x2 x3 x4 x5 x6 x7 x8, act = { tmps := #[.map (some b), .agg #[.int .i32 x, .int .i32 y], .bool on, undef, .pointer (some ⟨w.heap.size, 0, none⟩), undef, .pointer (some ⟨w2.heap.size, 0, none⟩), .int .i64 (X : Int), .int .i64 (Y : Int), .tuple #[.agg #[.int .i32 p, .int .i32 q], .int .i64 (X : Int), .int .i64 (Y : Int)], .agg #[.int .i32 x, .int .i32 y], .tuple #[.agg #[.int .i32 p, .int .i32 q], .int .i64 (X : Int), .int .i64 (Y : Int)], .agg #[.int .i32 p, .int .i32 q], .int .i64 (X : Int), .int .i64 (Y : Int), x0, x1, x2, x3, x4, x5, x6, x7, x8], defers := [] } ∧ (listed.getD 0 false = true → x0 = .map (some b)) ∧ (listed.getD 1 false = true → x1 = .agg #[.int .i32 p, .int .i32 q]) ∧ (listed.getD 2 false = true → x2 = .map (some b)) ∧ (listed.getD 3 false = true → x3 = .agg #[.int .i32 p, .int .i32 q]) ∧ (listed.getD 4 false = true → x4 = .agg A) ∧ (listed.getD 5 false = true → x5 = .int .i64 (X : Int)) ∧ (listed.getD 6 false = true → x6 = .int .i64 (Y : Int)) ∧ (listed.getD 7 false = true → x7 = .bool on) ∧ (listed.getD 8 false = true → x8 = .agg (M16 m2))) (by kernel_rfl) ?h0z (fun _ _ _ h => h.1) ?hstepz ?hendz
  case h0z =>
    refine ⟨rfl, ⟨fun _ => (Below.refl _ _).drew, fun h => absurd h (by decide)⟩, _, _, _, _, _, _, _, _, _, rfl, ?_, ?_, ?_, ?_, ?_, ?_, ?_, ?_, ?_⟩ <;> (intro h; exact absurd h (by decide))
  case hstepz =>
    rintro listed act W ii oo ⟨hs, hB, x0, x1, x2, x3, x4, x5, x6, x7, x8, rfl, e0, e1, e2, e3, e4, e5, e6, e7, e8⟩ hun hio hpre
    have HB := Lib.hid hB
    have E0 := Lib.hid e0
    have E1 := Lib.hid e1
    have E2 := Lib.hid e2
    have E3 := Lib.hid e3
    have E4 := Lib.hid e4
    have E5 := Lib.hid e5
    have E6 := Lib.hid e6
    have E7 := Lib.hid e7
    have E8 := Lib.hid e8
    have HS := Lib.hid hs
    have HU := Lib.hid hun
    have PRE := Lib.hid hpre
    clear e0 e1 e2 e3 e4 e5 e6 e7 e8 hs hpre hB hun
    match ii, hio with
    | 0, hio =>
      clear hio
      have n9 : listed.getD 9 false = false := by
        cases h : listed.getD 9 false with
        | false => rfl
        | true => exact absurd ((HB.out.2 h).1 0 (by decide)) (by rw [nlist HU.out]; decide)
      refine wpOp_by rfl fun KK HK => ?_
      go_wp2_with (fail)
      exact HK.out _ _ ⟨by rw [Array.size_setIfInBounds, HS.out], ⟨fun _ => (HB.out.1 n9), fun h => absurd ((listed_set h).resolve_left (by decide)) (by rw [n9]; decide)⟩, _, _, _, _, _, _, _, _, _, rfl, fun _ => rfl, fun h => E1.out ((listed_set h).resolve_left (by decide)), fun h => E2.out ((listed_set h).resolve_left (by decide)), fun h => E3.out ((listed_set h).resolve_left (by decide)), fun h => E4.out ((listed_set h).resolve_left (by decide)), fun h => E5.out ((listed_set h).resolve_left (by decide)), fun h => E6.out ((listed_set h).resolve_left (by decide)), fun h => E7.out ((listed_set h).resolve_left (by decide)), fun h => E8.out ((listed_set h).resolve_left (by decide))⟩
    | 1, hio =>
      clear hio
      have n9 : listed.getD 9 false = false := by
        cases h : listed.getD 9 false with
        | false => rfl
        | true => exact absurd ((HB.out.2 h).1 1 (by decide)) (by rw [nlist HU.out]; decide)
      obtain ⟨cc0, cc1⟩ := HC2.out _ (HB.out.1 n9)
      refine wpOp_by rfl fun KK HK => ?_
      go_wp2_with (fail)
      exact HK.out _ _ ⟨by rw [Array.size_setIfInBounds, HS.out], ⟨fun _ => (HB.out.1 n9), fun h => absurd ((listed_set h).resolve_left (by decide)) (by rw [n9]; decide)⟩, _, _, _, _, _, _, _, _, _, rfl, fun h => E0.out ((listed_set h).resolve_left (by decide)), fun _ => rfl, fun h => E2.out ((listed_set h).resolve_left (by decide)), fun h => E3.out ((listed_set h).resolve_left (by decide)), fun h => E4.out ((listed_set h).resolve_left (by decide)), fun h => E5.out ((listed_set h).resolve_left (by decide)), fun h => E6.out ((listed_set h).resolve_left (by decide)), fun h => E7.out ((listed_set h).resolve_left (by decide)), fun h => E8.out ((listed_set h).resolve_left (by decide))⟩
    | 2, hio =>
      clear hio
      have n9 : listed.getD 9 false = false := by
        cases h : listed.getD 9 false with
        | false => rfl
        | true => exact absurd ((HB.out.2 h).1 2 (by decide)) (by rw [nlist HU.out]; decide)
      refine wpOp_by rfl fun KK HK => ?_
      go_wp2_with (fail)
      exact HK.out _ _ ⟨by rw [Array.size_setIfInBounds, HS.out], ⟨fun _ => (HB.out.1 n9), fun h => absurd ((listed_set h).resolve_left (by decide)) (by rw [n9]; decide)⟩, _, _, _, _, _, _, _, _, _, rfl, fun h => E0.out ((listed_set h).resolve_left (by decide)), fun h => E1.out ((listed_set h).resolve_left (by decide)), fun _ => rfl, fun h => E3.out ((listed_set h).resolve_left (by decide)), fun h => E4.out ((listed_set h).resolve_left (by decide)), fun h => E5.out ((listed_set h).resolve_left (by decide)), fun h => E6.out ((listed_set h).resolve_left (by decide)), fun h => E7.out ((listed_set h).resolve_left (by decide)), fun h => E8.out ((listed_set h).resolve_left (by decide))⟩
    | 3, hio =>
      clear hio
      have n9 : listed.getD 9 false = false := by
        cases h : listed.getD 9 false with
        | false => rfl
        | true => exact absurd ((HB.out.2 h).1 3 (by decide)) (by rw [nlist HU.out]; decide)
      obtain ⟨cc0, cc1⟩ := HC2.out _ (HB.out.1 n9)
      refine wpOp_by rfl fun KK HK => ?_
      go_wp2_with (fail)
      exact HK.out _ _ ⟨by rw [Array.size_setIfInBounds, HS.out], ⟨fun _ => (HB.out.1 n9), fun h => absurd ((listed_set h).resolve_left (by decide)) (by rw [n9]; decide)⟩, _, _, _, _, _, _, _, _, _, rfl, fun h => E0.out ((listed_set h).resolve_left (by decide)), fun h => E1.out ((listed_set h).resolve_left (by decide)), fun h => E2.out ((listed_set h).resolve_left (by decide)), fun _ => rfl, fun h => E4.out ((listed_set h).resolve_left (by decide)), fun h => E5.out ((listed_set h).resolve_left (by decide)), fun h => E6.out ((listed_set h).resolve_left (by decide)), fun h => E7.out ((listed_set h).resolve_left (by decide)), fun h => E8.out ((listed_set h).resolve_left (by decide))⟩
    | 4, hio =>
      simp only [List.getElem?_toArray, List.getElem?_cons_succ, List.getElem?_cons_zero, Option.some.injEq] at hio
      subst hio
      have p2 := PRE.out ⟨2, .data⟩ (by simp) rfl
      have p3 := PRE.out ⟨3, .data⟩ (by simp) rfl
      obtain rfl := E2.out p2
      obtain rfl := E3.out p3
      have n9 : listed.getD 9 false = false := by
        cases h : listed.getD 9 false with
        | false => rfl
        | true => exact absurd ((HB.out.2 h).1 4 (by decide)) (by rw [nlist HU.out]; decide)
      have lk := LKX.out W (M3.out.kept (below_grown (HB.out.1 n9)) (by simp))
      refine wpOp_by rfl fun KK HK => ?_
      go_wp2_with (fail)
      exact HK.out _ _ ⟨by rw [Array.size_setIfInBounds, HS.out], ⟨fun _ => (HB.out.1 n9), fun h => absurd ((listed_set h).resolve_left (by decide)) (by rw [n9]; decide)⟩, _, _, _, _, _, _, _, _, _, rfl, fun h => E0.out ((listed_set h).resolve_left (by decide)), fun h => E1.out ((listed_set h).resolve_left (by decide)), fun _ => rfl, fun _ => rfl, fun _ => rfl, fun h => E5.out ((listed_set h).resolve_left (by decide)), fun h => E6.out ((listed_set h).resolve_left (by decide)), fun h => E7.out ((listed_set h).resolve_left (by decide)), fun h => E8.out ((listed_set h).resolve_left (by decide))⟩
    | 5, hio =>
      clear hio
      have n9 : listed.getD 9 false = false := by
        cases h : listed.getD 9 false with
        | false => rfl
        | true => exact absurd ((HB.out.2 h).1 5 (by decide)) (by rw [nlist HU.out]; decide)
      refine wpOp_by rfl fun KK HK => ?_
      go_wp2_with (fail)
      exact HK.out _ _ ⟨by rw [Array.size_setIfInBounds, HS.out], ⟨fun _ => (HB.out.1 n9), fun h => absurd ((listed_set h).resolve_left (by decide)) (by rw [n9]; decide)⟩, _, _, _, _, _, _, _, _, _, rfl, fun h => E0.out ((listed_set h).resolve_left (by decide)), fun h => E1.out ((listed_set h).resolve_left (by decide)), fun h => E2.out ((listed_set h).resolve_left (by decide)), fun h => E3.out ((listed_set h).resolve_left (by decide)), fun h => E4.out ((listed_set h).resolve_left (by decide)), fun _ => rfl, fun h => E6.out ((listed_set h).resolve_left (by decide)), fun h => E7.out ((listed_set h).resolve_left (by decide)), fun h => E8.out ((listed_set h).resolve_left (by decide))⟩
    | 6, hio =>
      clear hio
      have n9 : listed.getD 9 false = false := by
        cases h : listed.getD 9 false with
        | false => rfl
        | true => exact absurd ((HB.out.2 h).1 6 (by decide)) (by rw [nlist HU.out]; decide)
      refine wpOp_by rfl fun KK HK => ?_
      go_wp2_with (fail)
      exact HK.out _ _ ⟨by rw [Array.size_setIfInBounds, HS.out], ⟨fun _ => (HB.out.1 n9), fun h => absurd ((listed_set h).resolve_left (by decide)) (by rw [n9]; decide)⟩, _, _, _, _, _, _, _, _, _, rfl, fun h => E0.out ((listed_set h).resolve_left (by decide)), fun h => E1.out ((listed_set h).resolve_left (by decide)), fun h => E2.out ((listed_set h).resolve_left (by decide)), fun h => E3.out ((listed_set h).resolve_left (by decide)), fun h => E4.out ((listed_set h).resolve_left (by decide)), fun h => E5.out ((listed_set h).resolve_left (by decide)), fun _ => rfl, fun h => E7.out ((listed_set h).resolve_left (by decide)), fun h => E8.out ((listed_set h).resolve_left (by decide))⟩
    | 7, hio =>
      clear hio
      have n9 : listed.getD 9 false = false := by
        cases h : listed.getD 9 false with
        | false => rfl
        | true => exact absurd ((HB.out.2 h).1 7 (by decide)) (by rw [nlist HU.out]; decide)
      refine wpOp_by rfl fun KK HK => ?_
      go_wp2_with (fail)
      exact HK.out _ _ ⟨by rw [Array.size_setIfInBounds, HS.out], ⟨fun _ => (HB.out.1 n9), fun h => absurd ((listed_set h).resolve_left (by decide)) (by rw [n9]; decide)⟩, _, _, _, _, _, _, _, _, _, rfl, fun h => E0.out ((listed_set h).resolve_left (by decide)), fun h => E1.out ((listed_set h).resolve_left (by decide)), fun h => E2.out ((listed_set h).resolve_left (by decide)), fun h => E3.out ((listed_set h).resolve_left (by decide)), fun h => E4.out ((listed_set h).resolve_left (by decide)), fun h => E5.out ((listed_set h).resolve_left (by decide)), fun h => E6.out ((listed_set h).resolve_left (by decide)), fun _ => rfl, fun h => E8.out ((listed_set h).resolve_left (by decide))⟩
    | 8, hio =>
      simp only [List.getElem?_toArray, List.getElem?_cons_succ, List.getElem?_cons_zero, Option.some.injEq] at hio
      subst hio
      have p4 := PRE.out ⟨4, .data⟩ (by simp) rfl
      have p5 := PRE.out ⟨5, .data⟩ (by simp) rfl
      have p6 := PRE.out ⟨6, .data⟩ (by simp) rfl
      have p7 := PRE.out ⟨7, .data⟩ (by simp) rfl
      obtain rfl := E4.out p4
      obtain rfl := E5.out p5
      obtain rfl := E6.out p6
      obtain rfl := E7.out p7
      have n9 : listed.getD 9 false = false := by
        cases h : listed.getD 9 false with
        | false => rfl
        | true => exact absurd ((HB.out.2 h).1 8 (by decide)) (by rw [nlist HU.out]; decide)
      refine wpOp_by rfl fun KK HK => ?_
      go_wp2_with fail
      refine Calls.mono (WH.out _) ?_
      rintro e W' ⟨rfl, bq⟩
      go_wp2
      exact HK.out _ _ ⟨by rw [Array.size_setIfInBounds, HS.out], ⟨fun _ => ((HB.out.1 n9).trans (bq.mono (HB.out.1 n9).size)), fun h => absurd ((listed_set h).resolve_left (by decide)) (by rw [n9]; decide)⟩, _, _, _, _, _, _, _, _, _, rfl, fun h => E0.out ((listed_set h).resolve_left (by decide)), fun h => E1.out ((listed_set h).resolve_left (by decide)), fun h => E2.out ((listed_set h).resolve_left (by decide)), fun h => E3.out ((listed_set h).resolve_left (by decide)), fun _ => rfl, fun _ => rfl, fun _ => rfl, fun _ => rfl, fun _ => rfl⟩
    | 9, hio =>
      simp only [List.getElem?_toArray, List.getElem?_cons_succ, List.getElem?_cons_zero, Option.some.injEq] at hio
      subst hio
      have p0 := PRE.out ⟨0, .data⟩ (by simp) rfl
      have p1 := PRE.out ⟨1, .data⟩ (by simp) rfl
      have p8 := PRE.out ⟨8, .data⟩ (by simp) rfl
      obtain rfl := E0.out p0
      obtain rfl := E1.out p1
      obtain rfl := E8.out p8
      have n9 : listed.getD 9 false = false := nlist HU.out
      have PH : Hid (∀ j, j < 9 → listed.getD j false = true) := Lib.hid fun j hj => by
        match j, hj with
        | 0, _ => exact PRE.out ⟨0, .phase⟩ (by simp) rfl
        | 1, _ => exact PRE.out ⟨1, .phase⟩ (by simp) rfl
        | 2, _ => exact PRE.out ⟨2, .phase⟩ (by simp) rfl
        | 3, _ => exact PRE.out ⟨3, .phase⟩ (by simp) rfl
        | 4, _ => exact PRE.out ⟨4, .phase⟩ (by simp) rfl
        | 5, _ => exact PRE.out ⟨5, .phase⟩ (by simp) rfl
        | 6, _ => exact PRE.out ⟨6, .phase⟩ (by simp) rfl
        | 7, _ => exact PRE.out ⟨7, .phase⟩ (by simp) rfl
        | 8, _ => exact PRE.out ⟨8, .phase⟩ (by simp) rfl
        | k + 9, h => exact absurd h (by omega)
      refine wpOp_by rfl fun KK HK => ?_
      go_wp2_with ((refine wpList_mapUpdate_m rfl _ _ _ 65 rfl Try.underlying65 b n F rfl (M3.out.kept (below_grown (HB.out.1 n9)) (by simp)) HNM.out p q CP.out.1 CP.out.2 m2 rfl rfl ?_; intro W9 hM9 hg9))
      exact HK.out _ _ ⟨by rw [Array.size_setIfInBounds, HS.out], ⟨fun h => absurd h (by simp [Array.getD_eq_getD_getElem?, HS.out]), fun _ => ⟨fun j hj => set_keeps (PH.out j hj), W, HB.out.1 n9, hM9, hg9⟩⟩, _, _, _, _, _, _, _, _, _, rfl, fun _ => rfl, fun _ => rfl, fun h => E2.out ((listed_set h).resolve_left (by decide)), fun h => E3.out ((listed_set h).resolve_left (by decide)), fun h => E4.out ((listed_set h).resolve_left (by decide)), fun h => E5.out ((listed_set h).resolve_left (by decide)), fun h => E6.out ((listed_set h).resolve_left (by decide)), fun h => E7.out ((listed_set h).resolve_left (by decide)), fun _ => rfl⟩
    | k + 10, hio => simp at hio
  case hendz =>
    rintro listed act W1 ⟨hs, hB, x0, x1, x2, x3, x4, x5, x6, x7, x8, rfl, e0, e1, e2, e3, e4, e5, e6, e7, e8⟩ hall
    obtain rfl := e0 (hall 0 (by decide))
    obtain rfl := e1 (hall 1 (by decide))
    obtain rfl := e2 (hall 2 (by decide))
    obtain rfl := e3 (hall 3 (by decide))
    obtain rfl := e4 (hall 4 (by decide))
    obtain rfl := e5 (hall 5 (by decide))
    obtain rfl := e6 (hall 6 (by decide))
    obtain rfl := e7 (hall 7 (by decide))
    obtain rfl := e8 (hall 8 (by decide))
    obtain ⟨-, W0, hW0, hM0, hg0⟩ := hB.2 (hall 9 (by decide))
    clear hs
    have MF2 : Hid (MapM b (n + 1) (setSh F x y on) W1) := Lib.hid (by rw [ST.out]; exact hM0)
    have GF : Hid (w.grownBy W1 (some b)) := Lib.hid (((below_grown (B3.out.trans (hW0.mono B3.out.size))).but (some b)).andThen hg0 fun j hj => .inr hj)
    clear hM0 hg0 hW0 hB
    go_wp2
    go_end0
    exact ⟨rfl, MF2.out, GF.out⟩
end Go.Proofs.Ythfmkejdpflpcaa
/-
  CONTRACTS: sheetOf, PictureOf by the program (given the sort of blocks).
-/
namespace Go.Proofs.Ythfmkejdpflpcaa
open Go.ChangeShapes Go.WideShapes Go.ChangeAt Go.RowKit Go.Maps Go.WideMaps
set_option maxRecDepth 20000 in
set_option maxHeartbeats 8000000 in
theorem isheetOf_any (a : Option Addr) (n cap : Nat) (f : Nat → Int) (w : World) (hn : n ≤ 1048576) (h : PtR w.heap.size w a n f) (hp : P32 n f) :
    Calls Try.prog 57 #[.slice a n cap] w fun e w' => e = .returned (.map (some w.heap.size)) ∧ MapM w.heap.size n (pcF f n) w' ∧ Below w.heap.size w w' := by
  have nI : (n : Int) ≤ 1048576 := by omega
  have HR := Lib.hid h
  have HP := Lib.hid hp
  have HN := Lib.hid hn
  obtain ⟨w1, hw1⟩ : ∃ z, w.alloc (.map #[] 0) = z := ⟨_, rfl⟩
  have M1 : Hid (MapM w.heap.size 0 (pcF f 0) w1) := Lib.hid (by rw [← hw1]; exact MapM.made w)
  have B1 : Hid (Below w.heap.size w w1) := Lib.hid (by rw [← hw1]; exact (Below.refl _ _).alloc (Nat.le_refl _) _)
  clear h hp hn
  have hmm := @run_makeMap Try.prog
  go_enter Try.func57, Try.ntmps57
  go_wp2
  clear hw1
  go_loopw [9] (fun vi wr => ∃ i : Nat, i ≤ n ∧ vi = .int .i64 (i : Int) ∧ Hid (MapM w.heap.size i (pcF f i) wr) ∧ Hid (Below w.heap.size w wr)) (fun vi _ => n - (intOf vi).toNat)
  case atStart => exact ⟨0, Nat.zero_le _, rfl, M1, B1⟩
  case round =>
    obtain ⟨i, hi, rfl, M2, B2⟩ := hrel
    clear M1 B1
    by_cases hlt : i < n
    · have ti : (i : Int) < (n : Int) := by omega
      have HI := Lib.hid hlt
      obtain ⟨g, off, rfl, hg, hc⟩ : ∃ g off, a = some ⟨g, off, none⟩ ∧ g < w.heap.size ∧ ∀ j, j < 2 * n → w.cell? ⟨g, off + j, none⟩ = some (.int .i32 (f j)) := by
        rcases HR.out with h | h
        · omega
        · exact h
      have d0 : wr.cell? ⟨g, off + i * 2, none⟩ = some (.int .i32 (f (2 * i))) := (B2.out.cell (p := ⟨g, off + i * 2, none⟩) hg).trans (by rw [Nat.mul_comm]; exact hc (2 * i) (by omega))
      have d1 : wr.cell? ⟨g, off + i * 2 + 1, none⟩ = some (.int .i32 (f (2 * i + 1))) := (B2.out.cell (p := ⟨g, off + i * 2 + 1, none⟩) hg).trans (by rw [Nat.mul_comm, Nat.add_assoc]; exact hc (2 * i + 1) (by omega))
      have SE : Hid (∀ W, MapM w.heap.size i (pcF f i) W → Calls Try.prog 96 #[.map (some w.heap.size), .agg #[.int .i32 (f (2 * i)), .int .i32 (f (2 * i + 1))], .bool true] W fun e w' => e = .returned (.tuple #[]) ∧ MapM w.heap.size (i + 1) (pcF f (i + 1)) w' ∧ W.grownBy w' (some w.heap.size)) := Lib.hid fun W hW => by
        rw [pcF_set]
        exact iSet_any w.heap.size i (pcF f i) (f (2 * i)) (f (2 * i + 1)) true W hW (pcF_MB f i) (by have := HN.out; have := HI.out; unfold maxLen; omega) (HP.out _ (by omega)) (HP.out _ (by omega))
      obtain ⟨x, hx⟩ : ∃ z, f (2 * i) = z := ⟨_, rfl⟩
      obtain ⟨y, hy⟩ : ∃ z, f (2 * i + 1) = z := ⟨_, rfl⟩
      rw [hx] at d0 SE
      rw [hy] at d1 SE
      clear hx hy hc hg hlt hi
      obtain ⟨w5, hw5⟩ : ∃ z, wr.alloc (.cells #[.int .i32 x, .int .i32 y] 45) = z := ⟨_, rfl⟩
      have T5 := World.alloc_heap_new wr (.cells #[.int .i32 x, .int .i32 y] 45)
      rw [hw5] at T5
      have c0 : w5.cell? ⟨wr.heap.size, 0, none⟩ = some (.int .i32 x) := Lib.cell_of_heap T5 0
      have c1 : w5.cell? ⟨wr.heap.size, 1, none⟩ = some (.int .i32 y) := Lib.cell_of_heap T5 1
      have M5 : Hid (MapM w.heap.size i (pcF f i) w5) := Lib.hid (by rw [← hw5]; exact M2.out.alloc _)
      have B5 : Hid (Below w.heap.size w w5) := Lib.hid (by rw [← hw5]; exact B2.out.alloc B2.out.size _)
      clear T5
      go_wp2_with fail
      refine (SE.out _ M5.out).mono ?_
      rintro e w6 ⟨rfl, hm, hg⟩
      have M6 := Lib.hid hm
      have B6 : Hid (Below w.heap.size w w6) := Lib.hid (B5.out.trans ⟨hg.os, hg.tape, hg.output, hg.size, fun k hk => hg.block k (Nat.lt_of_lt_of_le hk B5.out.size) (by simp; omega)⟩)
      clear hm hg
      go_wp2
      go_roundw
      case rel => exact ⟨i + 1, HI.out, by go_num, M6, B6⟩
      case measure => have := HI.out; simp [intOf]; omega
    · have ti : ¬ (i : Int) < (n : Int) := by omega
      have MF2 : Hid (MapM w.heap.size n (pcF f n) wr) := Lib.hid (by have : i = n := by omega
                                                                      rw [← this]; exact M2.out)
      clear hlt hi
      go_wp2
      exact bodyPost_ret (v := .map (some w.heap.size)) (by simp [results, Try.results57, go_sem]) rfl ⟨rfl, MF2.out, B2.out⟩
set_option maxRecDepth 20000 in
set_option maxHeartbeats 8000000 in
theorem iPictureOf_any (SB : SortsB) (a : Option Addr) (n cap : Nat) (f : Nat → Int) (K0 : List (Int × Int)) (w : World) (hn : n ≤ 1048576) (h : PtR w.heap.size w a n f) (hp : P32 n f) (hK : n ≤ 1024 → okP f n = true → PicK (pcF f n) K0) :
    Calls Try.prog 17 #[.slice a n cap] w (PoPost f n K0 w) := by
  unfold PoPost
  have nI : (n : Int) ≤ 1048576 := by omega
  by_cases h1 : 1024 < n
  · have E1 : poC f n K0 = 3 := if_pos h1
    have E2 : poK f n K0 = [] := if_pos h1
    rw [E1, E2]
    have t : (1024 : Int) < (n : Int) := by omega
    clear h1 E1 E2 h hn hK hp SB
    go_enter Try.func17, Try.ntmps17
    go_wp2
    exact bodyPost_ret (v := .tuple #[.slice none 0 0, .int .i64 3]) (by simp [results, Try.results17, go_sem]) rfl ⟨_, rfl, World.ownsRow_nil _ _ _ _, Below.refl _ _⟩
  · have hn2 : n ≤ 1024 := by omega
    have t : (n : Int) ≤ 1024 := by omega
    have HR := Lib.hid h
    have E1 : Hid (okP f n = false → poC f n K0 = 2 ∧ poK f n K0 = []) := Lib.hid fun hk => by unfold poC poK; rw [if_neg h1, if_neg h1, hk]; exact ⟨rfl, rfl⟩
    have E2 : Hid (okP f n = true → poC f n K0 = ioC K0 ∧ poK f n K0 = ioK K0) := Lib.hid fun hk => by unfold poC poK; rw [if_neg h1, if_neg h1, hk]; exact ⟨rfl, rfl⟩
    have LC := Lib.hid isPCell_any
    have HK := Lib.hid (hK hn2)
    have HN := Lib.hid hn2
    have HPP := Lib.hid hp
    have SH : Hid (∀ W, Below w.heap.size w W → Calls Try.prog 57 #[.slice a n cap] W fun e w' => e = .returned (.map (some W.heap.size)) ∧ MapM W.heap.size n (pcF f n) w' ∧ Below W.heap.size W w') := Lib.hid fun W hW => isheetOf_any a n cap f W hn (h.below hW hW.size) hp
    have IO : Hid (∀ (b : Nat) (W : World), MapM b n (pcF f n) W → PicK (pcF f n) K0 → Calls Try.prog 58 #[.map (some b)] W fun e w' => ∃ v, e = .returned (.tuple #[v, .int .i64 (ioC K0)]) ∧ OB W.heap.size v (pcF f n) (ioK K0) w' ∧ Below W.heap.size W w') := Lib.hid fun b W hm hk => iInOrder_any SB b n (pcF f n) K0 hk W (by omega) hm
    clear h1 h hn hK hn2 hp SB
    go_enter Try.func17, Try.ntmps17
    go_wp2
    go_loopw [11] (fun vi wr => ∃ i : Nat, i ≤ n ∧ vi = .int .i64 (i : Int) ∧ Hid (Below w.heap.size w wr) ∧ Hid (∀ j, j < i → (colB (f (2 * j)) && colB (f (2 * j + 1))) = true)) (fun vi _ => n - (intOf vi).toNat)
    case atStart => exact ⟨0, Nat.zero_le _, rfl, Lib.hid (Below.refl _ _), Lib.hid fun j h => absurd h (by omega)⟩
    case round =>
      obtain ⟨i, hi, rfl, B1, YES⟩ := hrel
      by_cases hlt : i < n
      · have ti : (i : Int) < (n : Int) := by omega
        have HI := Lib.hid hlt
        obtain ⟨g, off, rfl, hg, hc⟩ : ∃ g off, a = some ⟨g, off, none⟩ ∧ g < w.heap.size ∧ ∀ j, j < 2 * n → w.cell? ⟨g, off + j, none⟩ = some (.int .i32 (f j)) := by
          rcases HR.out with h | h
          · omega
          · exact h
        have d0 : wr.cell? ⟨g, off + i * 2, none⟩ = some (.int .i32 (f (2 * i))) := (B1.out.cell (p := ⟨g, off + i * 2, none⟩) hg).trans (by rw [Nat.mul_comm]; exact hc (2 * i) (by omega))
        have d1 : wr.cell? ⟨g, off + i * 2 + 1, none⟩ = some (.int .i32 (f (2 * i + 1))) := (B1.out.cell (p := ⟨g, off + i * 2 + 1, none⟩) hg).trans (by rw [Nat.mul_comm, Nat.add_assoc]; exact hc (2 * i + 1) (by omega))
        have CE := fun W => LC.out (f (2 * i)) (f (2 * i + 1)) W
        obtain ⟨x0, x1⟩ := HPP.out (2 * i) (by omega)
        obtain ⟨y0, y1⟩ := HPP.out (2 * i + 1) (by omega)
        have NX : Hid ((colB (f (2 * i)) && colB (f (2 * i + 1))) = true → ∀ j, j < i + 1 → (colB (f (2 * j)) && colB (f (2 * j + 1))) = true) := Lib.hid fun h j hj => by
          rcases Nat.lt_or_ge j i with h2 | h2
          · exact YES.out j h2
          · obtain rfl : j = i := by omega
            exact h
        have NO : Hid ((colB (f (2 * i)) && colB (f (2 * i + 1))) = false → okP f n = false) := Lib.hid fun h => okP_no HI.out h
        obtain ⟨r, hr⟩ : ∃ r, (colB (f (2 * i)) && colB (f (2 * i + 1))) = r := ⟨_, rfl⟩
        rw [hr] at CE NX NO
        obtain ⟨x, hx⟩ : ∃ z, f (2 * i) = z := ⟨_, rfl⟩
        obtain ⟨y, hy⟩ : ∃ z, f (2 * i + 1) = z := ⟨_, rfl⟩
        rw [hx] at d0 CE x0 x1
        rw [hy] at d1 CE y0 y1
        have CEH := Lib.hid CE
        obtain ⟨w5, hw5⟩ : ∃ z, wr.alloc (.cells #[.int .i32 x, .int .i32 y] 45) = z := ⟨_, rfl⟩
        have T5 := World.alloc_heap_new wr (.cells #[.int .i32 x, .int .i32 y] 45)
        rw [hw5] at T5
        have c0 : w5.cell? ⟨wr.heap.size, 0, none⟩ = some (.int .i32 x) := Lib.cell_of_heap T5 0
        have c1 : w5.cell? ⟨wr.heap.size, 1, none⟩ = some (.int .i32 y) := Lib.cell_of_heap T5 1
        have B5 : Hid (Below w.heap.size w w5) := Lib.hid (by rw [← hw5]; exact B1.out.alloc B1.out.size _)
        clear hr hx hy hc hg hlt hi CE T5
        cases r with
        | true =>
          have NX2 := Lib.hid (NX.out rfl)
          clear NX NO
          go_wp2_with ((with_reducible refine (CEH.out _).mono ?_); rintro e w' ⟨rfl, rfl⟩)
          go_roundw
          case rel => exact ⟨i + 1, HI.out, by go_num, B5, NX2⟩
          case measure => have := HI.out; simp [intOf]; omega
        | false =>
          obtain ⟨e1, e2⟩ := E1.out (NO.out rfl)
          have EE1 := Lib.hid e1
          have EE2 := Lib.hid e2
          clear e1 e2
          go_wp2_with ((with_reducible refine (CEH.out _).mono ?_); rintro e w' ⟨rfl, rfl⟩)
          exact bodyPost_ret (v := .tuple #[.slice none 0 0, .int .i64 2]) (by simp [results, Try.results17, go_sem]) rfl ⟨_, by rw [EE1.out], by rw [EE2.out]; exact World.ownsRow_nil _ _ _ _, B5.out⟩
      · have ti : ¬ (i : Int) < (n : Int) := by omega
        have OKA : okP f n = true := okP_mk fun j hj => YES.out j (by omega)
        obtain ⟨e1, e2⟩ := E2.out OKA
        have EE1 := Lib.hid e1
        have EE2 := Lib.hid e2
        have PK0 := Lib.hid (HK.out OKA)
        clear e1 e2 OKA hlt hi
        go_wp2_with fail
        refine (SH.out wr B1.out).mono ?_
        rintro e w2 ⟨rfl, hm, b⟩
        have B2 := Lib.hid (B1.out.trans (b.mono B1.out.size))
        have M2 := Lib.hid hm
        clear b hm
        go_wp2_with fail
        refine (IO.out _ w2 M2.out PK0.out).mono ?_
        rintro e w3 ⟨v3, rfl, ho, b⟩
        have B3 := Lib.hid (B2.out.trans (b.mono B2.out.size))
        have O3 := Lib.hid (ho.mono B2.out.size)
        clear b ho
        go_wp2
        exact bodyPost_ret (v := .tuple #[v3, .int .i64 (ioC K0)]) (by simp [results, Try.results17, go_sem]) rfl ⟨_, by rw [EE1.out], by rw [EE2.out]; exact O3.out, B3.out⟩
end Go.Proofs.Ythfmkejdpflpcaa
/-
  EDGES: which cells lie at the edge; a cell put into a picture by the specification; isInside by the program.
-/
namespace Go.Proofs.Ythfmkejdpflpcaa
open Go.ChangeShapes Go.WideShapes Go.ChangeAt Go.RowKit Go.Maps Go.WideMaps
theorem phV_in {f : Nat → Int} {n : Nat} (hv : validP f n = true) {x y : Int} (h : phV f n x y = true) : colB x = true ∧ colB y = true := by
  unfold phV fdF at h
  split at h
  · rename_i k hk
    have hkn : k < n := by simpa using List.mem_of_find?_eq_some hk
    have hce := List.find?_some hk
    obtain ⟨e1, e2⟩ := coEq_iff.1 hce
    obtain ⟨⟨h1, h2⟩, h3, h4⟩ := has_col hv hkn (by omega) (by omega) h
    rw [e1] at h1 h2
    rw [e2] at h3 h4
    exact ⟨colB_mk (by omega), colB_mk (by omega)⟩
  · unfold hasF zI at h
    simp at h
set_option maxRecDepth 20000 in
theorem sHold_any (a : Option Addr) (n cap : Nat) (f : Nat → Int) (x y : Int) (w : World) (hn : n ≤ 1048576) (h : BlR w.heap.size w a n f) (hf : BlF n f) (hv : validP f n = true) :
    Calls Try.prog 67 #[.slice a n cap, .int .i64 x, .int .i64 y] w fun e w' => e = .returned (.bool (phV f n x y)) ∧ Below w.heap.size w w' := by
  by_cases hc : colB x = true ∧ colB y = true
  · exact holds_any a n cap f x y w hn h hf hc.1 hc.2
  · have hp : phV f n x y = false := by
      cases hp : phV f n x y with
      | false => rfl
      | true => exact absurd (phV_in hv hp) hc
    have CE := Lib.hid (l07Cell_any x y)
    have hb : (colB x && colB y) = false := by
      cases h1 : colB x <;> cases h2 : colB y <;> first | rfl | exact absurd ⟨h1, h2⟩ hc
    rw [hb] at CE
    rw [hp]
    clear hp hb hc h hf hv hn
    go_enter Try.func67, Try.ntmps67
    go_wp2_with fail
    refine (CE.out _).mono ?_
    rintro e w' ⟨rfl, rfl⟩
    go_wp2
    exact bodyPost_ret (v := .bool false) (by simp [results, Try.results67, go_sem]) rfl ⟨rfl, Below.refl _ _⟩
theorem setSh_MB {F : MF} (h : MBF F) (x y : Int) : MBF (setSh F x y true) := fun p q => by
  unfold setSh putM
  split
  · exact withF_MB (h _ _) _ _ _
  · exact h p q
theorem setOr {F : MF} (hF : MBF F) (x y p q : Int) (j : Nat) (hj : j < 16) : orM F (x / 16) (y / 16) (oneM (x % 16).toNat (y % 16).toNat) p q j = setSh F x y true p q j := by
  unfold orM setSh putM
  split
  · exact with_join (hF _ _) (by omega) j hj
  · rfl
set_option maxRecDepth 100000 in
set_option maxHeartbeats 16000000 in
theorem sPut_any (B : Nat) (v : Value) (F : MF) (K : List (Int × Int)) (x y : Int) (w : World) (hK : PicK F K) (hF : MBF F) (cx : colB x = true) (cy : colB y = true) (hl : K.length ≤ 100000) (hB : B ≤ w.heap.size) (ho : OB B v F K w) :
    Calls Try.prog 77 #[v, .int .i64 x, .int .i64 y] w fun e w' => ∃ v' K', e = .returned v' ∧ PicK (setSh F x y true) K' ∧ K'.length ≤ K.length + 1 ∧ OB B v' (setSh F x y true) K' w' ∧ Below w.heap.size w w' := by
  have AD : Hid (∀ W, OB B v F K W → B ≤ W.heap.size → Calls Try.prog 69 #[v, .agg #[.int .i32 (x / 16), .int .i32 (y / 16)], .agg (M16 (oneM (x % 16).toNat (y % 16).toNat))] W fun e w' => ∃ v' K', e = .returned v' ∧ PicK (setSh F x y true) K' ∧ K'.length ≤ K.length + 1 ∧ OB B v' (setSh F x y true) K' w' ∧ Below W.heap.size W w') := Lib.hid fun W hW hs =>
    (l07Add_any B v F K (x / 16) (y / 16) (oneM (x % 16).toNat (y % 16).toNat) W hK hF (by have := colB_yes cx; unfold C32; omega) (by have := colB_yes cy; unfold C32; omega) (oneM_MB (by omega) _) hl hs hW).mono fun e w' ⟨v', K', h1, h2, h3, h4, h5⟩ => ⟨v', K', h1, h2.congr fun p q _ _ j hj => setOr hF x y p q j hj, h3, h4.congr fun p q j hj => setOr hF x y p q j hj, h5⟩
  have O1 := Lib.hid ho
  have HBB := Lib.hid hB
  have CN := Lib.hid (l07Corner_any x y cx cy)
  have LX := Lib.hid (l07Low_any x cx)
  have LY := Lib.hid (l07Low_any y cy)
  obtain ⟨x0, x1⟩ := colB_yes cx
  obtain ⟨y0, y1⟩ := colB_yes cy
  unfold atA at CN
  obtain ⟨X, hX⟩ : ∃ z, (x % 16).toNat = z := ⟨_, rfl⟩
  obtain ⟨Y, hY⟩ : ∃ z, (y % 16).toNat = z := ⟨_, rfl⟩
  rw [hX, hY] at AD
  have ex : x - 16 * (x / 16) = (X : Int) := by omega
  have ey : y - 16 * (y / 16) = (Y : Int) := by omega
  have X16 : X < 16 := by omega
  have Y16 : Y < 16 := by omega
  obtain ⟨p, hp⟩ : ∃ z, x / 16 = z := ⟨_, rfl⟩
  obtain ⟨q, hq⟩ : ∃ z, y / 16 = z := ⟨_, rfl⟩
  rw [hp] at AD CN LX ex
  rw [hq] at AD CN LY ey
  obtain ⟨G, hG⟩ : ∃ z, setSh F x y true = z := ⟨_, rfl⟩
  rw [hG] at AD ⊢
  obtain ⟨kl, hkl⟩ : ∃ z, K.length = z := ⟨_, rfl⟩
  rw [hkl] at AD ⊢
  clear hX hY hp hq hK hF cx cy hl hB ho hG hkl
  obtain ⟨w3, hw3⟩ : ∃ z, w.alloc (.cells #[Value.int .u16 0, Value.int .u16 0, Value.int .u16 0, Value.int .u16 0, Value.int .u16 0, Value.int .u16 0, Value.int .u16 0, Value.int .u16 0, Value.int .u16 0, Value.int .u16 0, Value.int .u16 0, Value.int .u16 0, Value.int .u16 0, Value.int .u16 0, Value.int .u16 0, Value.int .u16 0] 71) = z := ⟨_, rfl⟩
  have T3 : Hid (w3.heap[w.heap.size]? = some (.cells (M16 zI) 71 (0, 0))) := Lib.hid (by rw [← hw3]; exact World.alloc_heap_new w _)
  have b3 : Hid (Below w.heap.size w w3) := Lib.hid (by rw [← hw3]; exact (Below.refl _ _).alloc (Nat.le_refl _) _)
  have c3 : w3.cell? ⟨w.heap.size, Y, none⟩ = some (.int .u16 0) := (Lib.cell_of_heap T3.out Y).trans (arr_get _ _ _ _ Y16)
  have f3 : w3.frozen? ⟨w.heap.size, Y, none⟩ = false := Lib.frozen_of_heap T3.out Y
  have T4 : Hid (w3.heap[w.heap.size]? = some (.cells #[Value.int .u16 0, Value.int .u16 0, Value.int .u16 0, Value.int .u16 0, Value.int .u16 0, Value.int .u16 0, Value.int .u16 0, Value.int .u16 0, Value.int .u16 0, Value.int .u16 0, Value.int .u16 0, Value.int .u16 0, Value.int .u16 0, Value.int .u16 0, Value.int .u16 0, Value.int .u16 0] 71 (0, 0))) := Lib.hid (by rw [← hw3]; exact World.alloc_heap_new w _)
  have SR : Hid (w3.setRow w.heap.size #[Value.int .u16 0, Value.int .u16 0, Value.int .u16 0, Value.int .u16 0, Value.int .u16 0, Value.int .u16 0, Value.int .u16 0, Value.int .u16 0, Value.int .u16 0, Value.int .u16 0, Value.int .u16 0, Value.int .u16 0, Value.int .u16 0, Value.int .u16 0, Value.int .u16 0, Value.int .u16 0] = w3) := Lib.hid (setRow_self _ _ _ _ _ T4.out)
  have hXI : (X : Int) < 16 := by omega
  have hYI : (Y : Int) < 16 := by omega
  obtain ⟨w4, hw4⟩ : ∃ z, w3.setCell ⟨w.heap.size, Y, none⟩ (.int .u16 (IntKind.u16.wrap (2 ^ X))) = z := ⟨_, rfl⟩
  have T5 : Hid (w4.heap[w.heap.size]? = some (.cells (M16 (oneM X Y)) 71 (0, 0))) := Lib.hid (by
    rw [← hw4, mset_at T3.out, arr_set _ _ _ _ _ Y16, show IntKind.u16.wrap (2 ^ X) = 2 ^ X from pow16 X16]
    rfl)
  have B4 : Hid (Below w.heap.size w w4) := Lib.hid (by rw [← hw4]; exact b3.out.setCell (p := ⟨w.heap.size, Y, none⟩) (Nat.le_refl _) _)
  obtain ⟨A, hA⟩ : ∃ z, M16 (oneM X Y) = z := ⟨_, rfl⟩
  rw [hA] at T5 AD
  have AS : Hid (A.size = 16) := Lib.hid (by rw [← hA]; exact arr_size _ _ _)
  have LA : Hid (∀ W, Below w4.heap.size w4 W → W.heap[w.heap.size]? = some (.cells A 71 (0, 0))) := Lib.hid fun W hW => (hW.block _ (Array.getElem?_eq_some_iff.1 T5.out).1).trans T5.out
  have AD2 : Hid (∀ W, Below w4.heap.size w4 W → Calls Try.prog 69 #[v, .agg #[.int .i32 p, .int .i32 q], .agg A] W fun e w' => ∃ v' K', e = .returned v' ∧ PicK G K' ∧ K'.length ≤ kl + 1 ∧ OB B v' G K' w' ∧ Below W.heap.size W w') := Lib.hid fun W hW => AD.out W ((O1.out.kept (below_grown B4.out) (ownNone _)).kept (below_grown hW) (ownNone _)) (Nat.le_trans HBB.out (Nat.le_trans B4.out.size hW.size))
  clear hA AD
  go_enter Try.func77, Try.ntmps77
  go_wp2_with (first | (refine wpList_store_row rfl 71 _ _ rfl w.heap.size #[Value.int .u16 0, Value.int .u16 0, Value.int .u16 0, Value.int .u16 0, Value.int .u16 0, Value.int .u16 0, Value.int .u16 0, Value.int .u16 0, Value.int .u16 0, Value.int .u16 0, Value.int .u16 0, Value.int .u16 0, Value.int .u16 0, Value.int .u16 0, Value.int .u16 0, Value.int .u16 0] rfl rfl 71 _ T4.out (mask_info _ rfl) rfl (arr_cells .u16 16 zI) ?_; rw [SR.out]) | ((with_reducible refine (LX.out _).mono ?_); rintro e w' ⟨rfl, rfl⟩) | ((with_reducible refine (LY.out _).mono ?_); rintro e w' ⟨rfl, rfl⟩))
  refine wp_region_inv (by kernel_rfl) (fun listed act W => listed.size = 7 ∧ Below w4.heap.size w4 W ∧ ∃ x0 x1 x2 x3 x4 x5 x6, act = { tmps := #[v, .int .i64 x, .int .i64 y, undef, undef, undef, x6, .pointer (some ⟨w.heap.size, 0, none⟩), .agg #[.int .u16 0, .int .u16 0, .int .u16 0, .int .u16 0, .int .u16 0, .int .u16 0, .int .u16 0, .int .u16 0, .int .u16 0, .int .u16 0, .int .u16 0, .int .u16 0, .int .u16 0, .int .u16 0, .int .u16 0, .int .u16 0], .int .i64 y, .int .i64 y, .int .i64 q, .int .i64 (16 * q), .int .i64 (Y : Int), .int .i64 x, .int .i64 x, .int .i64 p, .int .i64 (16 * p), .int .i64 (X : Int), .int .u64 (X : Int), .int .u16 (IntKind.u16.wrap (2 ^ X)), .pointer (some ⟨w.heap.size, Y, none⟩), x0, x1, x2, x3, x4, x5], defers := [] } ∧ (listed.getD 0 false = true → x0 = v) ∧ (listed.getD 1 false = true → x1 = .int .i64 x) ∧ (listed.getD 2 false = true → x2 = .int .i64 y) ∧ (listed.getD 3 false = true → x3 = .agg #[.int .i32 p, .int .i32 q]) ∧ (listed.getD 4 false = true → x4 = .agg A) ∧ (listed.getD 5 false = true → (∃ K2, PicK G K2 ∧ K2.length ≤ kl + 1 ∧ OB B x5 G K2 W)) ∧ (listed.getD 6 false = true → (listed.getD 5 false = true ∧ x6 = x5))) (by kernel_rfl) ?h0z (fun _ _ _ h => h.1) ?hstepz ?hendz
  case h0z =>
    refine ⟨rfl, (Below.refl _ _).drew, _, _, _, _, _, _, _, rfl, ?_, ?_, ?_, ?_, ?_, ?_, ?_⟩ <;> (intro h; exact absurd h (by decide))
  case hstepz =>
    rintro listed act W ii oo ⟨hs, hB, x0, x1, x2, x3, x4, x5, x6, rfl, e0, e1, e2, e3, e4, e5, e6⟩ hun hio hpre
    have HB := Lib.hid hB
    have E0 := Lib.hid e0
    have E1 := Lib.hid e1
    have E2 := Lib.hid e2
    have E3 := Lib.hid e3
    have E4 := Lib.hid e4
    have E5 := Lib.hid e5
    have E6 := Lib.hid e6
    have HS := Lib.hid hs
    have HU := Lib.hid hun
    have PRE := Lib.hid hpre
    clear e0 e1 e2 e3 e4 e5 e6 hs hpre hB hun
    match ii, hio with
    | 0, hio =>
      clear hio
      refine wpOp_by rfl fun KK HK => ?_
      go_wp2_with (fail)
      exact HK.out _ _ ⟨by rw [Array.size_setIfInBounds, HS.out], HB.out, _, _, _, _, _, _, _, rfl, fun _ => rfl, fun h => E1.out ((listed_set h).resolve_left (by decide)), fun h => E2.out ((listed_set h).resolve_left (by decide)), fun h => E3.out ((listed_set h).resolve_left (by decide)), fun h => E4.out ((listed_set h).resolve_left (by decide)), fun h => (E5.out ((listed_set h).resolve_left (by decide))), fun h => ⟨set_keeps ((E6.out ((listed_set h).resolve_left (by decide)))).1, ((E6.out ((listed_set h).resolve_left (by decide)))).2⟩⟩
    | 1, hio =>
      clear hio
      refine wpOp_by rfl fun KK HK => ?_
      go_wp2_with (fail)
      exact HK.out _ _ ⟨by rw [Array.size_setIfInBounds, HS.out], HB.out, _, _, _, _, _, _, _, rfl, fun h => E0.out ((listed_set h).resolve_left (by decide)), fun _ => rfl, fun h => E2.out ((listed_set h).resolve_left (by decide)), fun h => E3.out ((listed_set h).resolve_left (by decide)), fun h => E4.out ((listed_set h).resolve_left (by decide)), fun h => (E5.out ((listed_set h).resolve_left (by decide))), fun h => ⟨set_keeps ((E6.out ((listed_set h).resolve_left (by decide)))).1, ((E6.out ((listed_set h).resolve_left (by decide)))).2⟩⟩
    | 2, hio =>
      clear hio
      refine wpOp_by rfl fun KK HK => ?_
      go_wp2_with (fail)
      exact HK.out _ _ ⟨by rw [Array.size_setIfInBounds, HS.out], HB.out, _, _, _, _, _, _, _, rfl, fun h => E0.out ((listed_set h).resolve_left (by decide)), fun h => E1.out ((listed_set h).resolve_left (by decide)), fun _ => rfl, fun h => E3.out ((listed_set h).resolve_left (by decide)), fun h => E4.out ((listed_set h).resolve_left (by decide)), fun h => (E5.out ((listed_set h).resolve_left (by decide))), fun h => ⟨set_keeps ((E6.out ((listed_set h).resolve_left (by decide)))).1, ((E6.out ((listed_set h).resolve_left (by decide)))).2⟩⟩
    | 3, hio =>
      simp only [List.getElem?_toArray, List.getElem?_cons_succ, List.getElem?_cons_zero, Option.some.injEq] at hio
      subst hio
      have p1 := PRE.out ⟨1, .data⟩ (by simp) rfl
      have p2 := PRE.out ⟨2, .data⟩ (by simp) rfl
      obtain rfl := E1.out p1
      obtain rfl := E2.out p2
      refine wpOp_by rfl fun KK HK => ?_
      go_wp2_with fail
      refine Calls.mono (CN.out _) ?_
      rintro e W' ⟨rfl, b⟩
      go_wp2
      exact HK.out _ _ ⟨by rw [Array.size_setIfInBounds, HS.out], HB.out.trans (b.mono HB.out.size), _, _, _, _, _, _, _, rfl, fun h => E0.out ((listed_set h).resolve_left (by decide)), fun _ => rfl, fun _ => rfl, fun _ => rfl, fun h => E4.out ((listed_set h).resolve_left (by decide)), fun h => (E5.out ((listed_set h).resolve_left (by decide))).imp fun K2 hk => ⟨hk.1, hk.2.1, hk.2.2.kept (below_grown b) (ownNone _)⟩, fun h => ⟨set_keeps ((E6.out ((listed_set h).resolve_left (by decide)))).1, ((E6.out ((listed_set h).resolve_left (by decide)))).2⟩⟩
    | 4, hio =>
      clear hio
      refine wpOp_by rfl fun KK HK => ?_
      go_wp2_with ((refine wpList_load_row rfl 71 _ rfl w.heap.size rfl 71 _ _ _ (LA.out _ HB.out) Try.underlying71 rfl (mask_info _ AS.out) ?_))
      exact HK.out _ _ ⟨by rw [Array.size_setIfInBounds, HS.out], HB.out, _, _, _, _, _, _, _, rfl, fun h => E0.out ((listed_set h).resolve_left (by decide)), fun h => E1.out ((listed_set h).resolve_left (by decide)), fun h => E2.out ((listed_set h).resolve_left (by decide)), fun h => E3.out ((listed_set h).resolve_left (by decide)), fun _ => rfl, fun h => (E5.out ((listed_set h).resolve_left (by decide))), fun h => ⟨set_keeps ((E6.out ((listed_set h).resolve_left (by decide)))).1, ((E6.out ((listed_set h).resolve_left (by decide)))).2⟩⟩
    | 5, hio =>
      simp only [List.getElem?_toArray, List.getElem?_cons_succ, List.getElem?_cons_zero, Option.some.injEq] at hio
      subst hio
      have p0 := PRE.out ⟨0, .data⟩ (by simp) rfl
      have p3 := PRE.out ⟨3, .data⟩ (by simp) rfl
      have p4 := PRE.out ⟨4, .data⟩ (by simp) rfl
      obtain rfl := E0.out p0
      obtain rfl := E3.out p3
      obtain rfl := E4.out p4
      refine wpOp_by rfl fun KK HK => ?_
      go_wp2_with fail
      refine Calls.mono (AD2.out _ HB.out) ?_
      rintro e W' ⟨v2, K2, rfl, k1, k2, k3, b⟩
      go_wp2
      exact HK.out _ _ ⟨by rw [Array.size_setIfInBounds, HS.out], HB.out.trans (b.mono HB.out.size), _, _, _, _, _, _, _, rfl, fun _ => rfl, fun h => E1.out ((listed_set h).resolve_left (by decide)), fun h => E2.out ((listed_set h).resolve_left (by decide)), fun _ => rfl, fun _ => rfl, fun _ => ⟨K2, k1, k2, k3⟩, fun h => absurd (E6.out ((listed_set h).resolve_left (by decide))).1 (by rw [nlist HU.out]; decide)⟩
    | 6, hio =>
      simp only [List.getElem?_toArray, List.getElem?_cons_succ, List.getElem?_cons_zero, Option.some.injEq] at hio
      subst hio
      have p5 := PRE.out ⟨5, .data⟩ (by simp) rfl
      refine wpOp_by rfl fun KK HK => ?_
      go_wp2_with (fail)
      exact HK.out _ _ ⟨by rw [Array.size_setIfInBounds, HS.out], HB.out, _, _, _, _, _, _, _, rfl, fun h => E0.out ((listed_set h).resolve_left (by decide)), fun h => E1.out ((listed_set h).resolve_left (by decide)), fun h => E2.out ((listed_set h).resolve_left (by decide)), fun h => E3.out ((listed_set h).resolve_left (by decide)), fun h => E4.out ((listed_set h).resolve_left (by decide)), fun h => (E5.out ((listed_set h).resolve_left (by decide))), fun _ => ⟨set_keeps p5, rfl⟩⟩
    | k + 7, hio => simp at hio
  case hendz =>
    rintro listed act W1 ⟨hs, hB, x0, x1, x2, x3, x4, x5, x6, rfl, e0, e1, e2, e3, e4, e5, e6⟩ hall
    obtain rfl := e0 (hall 0 (by decide))
    obtain rfl := e1 (hall 1 (by decide))
    obtain rfl := e2 (hall 2 (by decide))
    obtain rfl := e3 (hall 3 (by decide))
    obtain rfl := e4 (hall 4 (by decide))
    have e5 := e5 (hall 5 (by decide))
    have e6 := e6 (hall 6 (by decide))
    obtain ⟨K2, k1, k2, k3⟩ := e5
    obtain ⟨-, rfl⟩ := e6
    clear hs
    have BF : Hid (Below w.heap.size w W1) := Lib.hid (B4.out.trans (hB.mono B4.out.size))
    have KF := Lib.hid k1
    have LF := Lib.hid k2
    have OF := Lib.hid k3
    clear k1 k2 k3 hB
    go_wp2
    exact bodyPost_ret (v := x6) (by simp [results, Try.results77, go_sem]) rfl ⟨_, rfl, K2, KF.out, LF.out, OF.out, BF.out⟩
def hF (F : MF) (x y : Int) : Bool := hasF (F (x / 16) (y / 16)) (x % 16).toNat (y % 16).toNat
def insF (F : MF) (x y : Int) : Bool := hF F (x - 1) y && hF F (x + 1) y && hF F x (y - 1) && hF F x (y + 1)
set_option maxRecDepth 20000 in
set_option maxHeartbeats 4000000 in
theorem iInside_any (b n : Nat) (F : MF) (x y : Int) (w : World) (hm : MapM b n F w) (hM : MBF F) (hx : -1000000 ≤ x ∧ x ≤ 1000000) (hy : -1000000 ≤ y ∧ y ≤ 1000000) :
    Calls Try.prog 78 #[.map (some b), .agg #[.int .i32 x, .int .i32 y]] w fun e w' => e = .returned (.bool (insF F x y)) ∧ Below w.heap.size w w' := by
  unfold insF
  have M0 := Lib.hid hm
  obtain ⟨hx0, hx1⟩ := hx
  obtain ⟨hy0, hy1⟩ := hy
  have H1 : Hid (∀ W, Below w.heap.size w W → Calls Try.prog 68 #[.map (some b), .agg #[.int .i32 (x - 1), .int .i32 y]] W fun e w' => e = .returned (.bool (hF F (x - 1) y)) ∧ Below W.heap.size W w') := Lib.hid fun W hW => sheetHas_any b n F (x - 1) y W (hm.later hW) (by unfold C32; omega) (by unfold C32; omega) (hM _ _)
  have H2 : Hid (∀ W, Below w.heap.size w W → Calls Try.prog 68 #[.map (some b), .agg #[.int .i32 (x + 1), .int .i32 y]] W fun e w' => e = .returned (.bool (hF F (x + 1) y)) ∧ Below W.heap.size W w') := Lib.hid fun W hW => sheetHas_any b n F (x + 1) y W (hm.later hW) (by unfold C32; omega) (by unfold C32; omega) (hM _ _)
  have H3 : Hid (∀ W, Below w.heap.size w W → Calls Try.prog 68 #[.map (some b), .agg #[.int .i32 x, .int .i32 (y - 1)]] W fun e w' => e = .returned (.bool (hF F x (y - 1))) ∧ Below W.heap.size W w') := Lib.hid fun W hW => sheetHas_any b n F x (y - 1) W (hm.later hW) (by unfold C32; omega) (by unfold C32; omega) (hM _ _)
  have H4 : Hid (∀ W, Below w.heap.size w W → Calls Try.prog 68 #[.map (some b), .agg #[.int .i32 x, .int .i32 (y + 1)]] W fun e w' => e = .returned (.bool (hF F x (y + 1))) ∧ Below W.heap.size W w') := Lib.hid fun W hW => sheetHas_any b n F x (y + 1) W (hm.later hW) (by unfold C32; omega) (by unfold C32; omega) (hM _ _)
  generalize hF F (x - 1) y = r1 at H1 ⊢
  generalize hF F (x + 1) y = r2 at H2 ⊢
  generalize hF F x (y - 1) = r3 at H3 ⊢
  generalize hF F x (y + 1) = r4 at H4 ⊢
  obtain ⟨w1, hw1⟩ : ∃ z, w.alloc (.cells #[.int .i32 x, .int .i32 y] 89) = z := ⟨_, rfl⟩
  have P1 := World.alloc_heap_new w (.cells #[.int .i32 x, .int .i32 y] 89)
  rw [hw1] at P1
  have c0 : w1.cell? ⟨w.heap.size, 0, none⟩ = some (.int .i32 x) := Lib.cell_of_heap P1 0
  have c1 : w1.cell? ⟨w.heap.size, 1, none⟩ = some (.int .i32 y) := Lib.cell_of_heap P1 1
  have B1 : Hid (Below w.heap.size w w1) := Lib.hid (by rw [← hw1]; exact (Below.refl _ _).alloc (Nat.le_refl _) _)
  clear P1 hm hM M0
  have hx2 : IntKind.i32.wrap (x - 1) = x - 1 := by simp [IntKind.wrap, IntKind.bits, IntKind.signed]; omega
  have hx3 : IntKind.i32.wrap (x + 1) = x + 1 := by simp [IntKind.wrap, IntKind.bits, IntKind.signed]; omega
  have hy2 : IntKind.i32.wrap (y - 1) = y - 1 := by simp [IntKind.wrap, IntKind.bits, IntKind.signed]; omega
  have hy3 : IntKind.i32.wrap (y + 1) = y + 1 := by simp [IntKind.wrap, IntKind.bits, IntKind.signed]; omega
  cases r1 with
  | false =>
    go_enter Try.func78, Try.ntmps78
    go_wp2
    go_quiet (fail)
    have B2 : Hid (Below w.heap.size w (w1.drewN nq)) := Lib.hid (belowN B1.out)
    generalize w1.drewN nq = w2 at B2 ⊢
    go_wp2_with fail
    refine (H1.out _ B2.out).mono ?_
    rintro e v1 ⟨rfl, bq⟩
    have C1 := Lib.hid (B2.out.trans (bq.mono B2.out.size))
    clear bq
    go_wp2
    exact bodyPost_ret (v := .bool false) (by simp [results, Try.results78, go_sem]) rfl ⟨by simp, C1.out⟩
  | true =>
    cases r2 with
    | false =>
      go_enter Try.func78, Try.ntmps78
      go_wp2
      go_quiet (fail)
      have B2 : Hid (Below w.heap.size w (w1.drewN nq)) := Lib.hid (belowN B1.out)
      generalize w1.drewN nq = w2 at B2 ⊢
      go_wp2_with fail
      refine (H1.out _ B2.out).mono ?_
      rintro e v1 ⟨rfl, bq⟩
      have C1 := Lib.hid (B2.out.trans (bq.mono B2.out.size))
      clear bq
      go_wp2_with fail
      refine (H2.out _ C1.out).mono ?_
      rintro e v2 ⟨rfl, bq⟩
      have C2 := Lib.hid (C1.out.trans (bq.mono C1.out.size))
      clear bq
      go_wp2
      exact bodyPost_ret (v := .bool false) (by simp [results, Try.results78, go_sem]) rfl ⟨by simp, C2.out⟩
    | true =>
      cases r3 with
      | false =>
        go_enter Try.func78, Try.ntmps78
        go_wp2
        go_quiet (fail)
        have B2 : Hid (Below w.heap.size w (w1.drewN nq)) := Lib.hid (belowN B1.out)
        generalize w1.drewN nq = w2 at B2 ⊢
        go_wp2_with fail
        refine (H1.out _ B2.out).mono ?_
        rintro e v1 ⟨rfl, bq⟩
        have C1 := Lib.hid (B2.out.trans (bq.mono B2.out.size))
        clear bq
        go_wp2_with fail
        refine (H2.out _ C1.out).mono ?_
        rintro e v2 ⟨rfl, bq⟩
        have C2 := Lib.hid (C1.out.trans (bq.mono C1.out.size))
        clear bq
        go_wp2_with fail
        refine (H3.out _ C2.out).mono ?_
        rintro e v3 ⟨rfl, bq⟩
        have C3 := Lib.hid (C2.out.trans (bq.mono C2.out.size))
        clear bq
        go_wp2
        exact bodyPost_ret (v := .bool false) (by simp [results, Try.results78, go_sem]) rfl ⟨by simp, C3.out⟩
      | true =>
        go_enter Try.func78, Try.ntmps78
        go_wp2
        go_quiet (fail)
        have B2 : Hid (Below w.heap.size w (w1.drewN nq)) := Lib.hid (belowN B1.out)
        generalize w1.drewN nq = w2 at B2 ⊢
        go_wp2_with fail
        refine (H1.out _ B2.out).mono ?_
        rintro e v1 ⟨rfl, bq⟩
        have C1 := Lib.hid (B2.out.trans (bq.mono B2.out.size))
        clear bq
        go_wp2_with fail
        refine (H2.out _ C1.out).mono ?_
        rintro e v2 ⟨rfl, bq⟩
        have C2 := Lib.hid (C1.out.trans (bq.mono C1.out.size))
        clear bq
        go_wp2_with fail
        refine (H3.out _ C2.out).mono ?_
        rintro e v3 ⟨rfl, bq⟩
        have C3 := Lib.hid (C2.out.trans (bq.mono C2.out.size))
        clear bq
        go_wp2_with fail
        refine (H4.out _ C3.out).mono ?_
        rintro e v4 ⟨rfl, bq⟩
        have C4 := Lib.hid (C3.out.trans (bq.mono C3.out.size))
        clear bq
        go_wp2
        exact bodyPost_ret (v := .bool r4) (by simp [results, Try.results78, go_sem]) rfl ⟨by simp, C4.out⟩
end Go.Proofs.Ythfmkejdpflpcaa
/-
  THE EDGE OF A PICTURE: its cells in order, the masks of those at the edge, their corners.
-/
namespace Go.Proofs.Ythfmkejdpflpcaa
open Go.ChangeShapes Go.WideShapes Go.ChangeAt Go.RowKit
def leB (a b : Int × Int) : Bool := decide (a.2 < b.2 ∨ a.2 = b.2 ∧ a.1 ≤ b.1)
def icL (f : Nat → Int) (n : Nat) : List (Int × Int) := (blL f n).mergeSort leB
theorem icL_is (f : Nat → Int) (n : Nat) : IsC f n (icL f n) := by
  refine ⟨List.mergeSort_perm _ _, ?_⟩
  have := List.pairwise_mergeSort (le := leB) (fun a b c h1 h2 => by unfold leB at *; simp only [decide_eq_true_eq] at *; omega) (fun a b => by unfold leB; simp only [Bool.or_eq_true, decide_eq_true_eq]; omega) (blL f n)
  exact this.imp fun {a b} h hb => by
    unfold leB at h
    simp only [decide_eq_true_eq] at h
    unfold ltP at hb
    omega
theorem px_mem {f : Nat → Int} {k y : Nat} : ∀ {x : Nat} {c : Int × Int}, c ∈ pxL f k y x → ∃ u, u < x ∧ hasF (mkF f k) u y = true ∧ c = (16 * f (k * 18) + (u : Int), 16 * f (k * 18 + 1) + (y : Int))
  | 0, c, h => absurd h List.not_mem_nil
  | x + 1, c, h => by
    cases hx : hasF (mkF f k) x y with
    | true =>
      rw [pxL_yes hx, List.mem_append, List.mem_singleton] at h
      rcases h with h | rfl
      · obtain ⟨u, h1, h2, h3⟩ := px_mem h
        exact ⟨u, by omega, h2, h3⟩
      · exact ⟨x, by omega, hx, rfl⟩
    | false =>
      rw [pxL_no hx] at h
      obtain ⟨u, h1, h2, h3⟩ := px_mem h
      exact ⟨u, by omega, h2, h3⟩
theorem colL_mem {f : Nat → Int} {k : Nat} {c : Int × Int} : ∀ {y : Nat}, c ∈ colL f k y → ∃ v, v < y ∧ c ∈ pxL f k v 16
  | 0, h => absurd h List.not_mem_nil
  | y + 1, h => by
    rcases List.mem_append.1 h with h | h
    · obtain ⟨v, h1, h2⟩ := colL_mem h
      exact ⟨v, by omega, h2⟩
    · exact ⟨y, by omega, h⟩
theorem blL_mem {f : Nat → Int} {c : Int × Int} : ∀ {n : Nat}, c ∈ blL f n → ∃ k, k < n ∧ c ∈ colL f k 16
  | 0, h => absurd h List.not_mem_nil
  | n + 1, h => by
    rcases List.mem_append.1 h with h | h
    · obtain ⟨v, h1, h2⟩ := blL_mem h
      exact ⟨v, by omega, h2⟩
    · exact ⟨n, by omega, h⟩
theorem ic_mem {f : Nat → Int} {n : Nat} (hv : validP f n = true) {L : List (Int × Int)} (hL : IsC f n L) {c : Int × Int} (h : c ∈ L) : (colB c.1 = true ∧ colB c.2 = true) ∧ (c.1 / 16, c.2 / 16) ∈ coL f n := by
  obtain ⟨k, hk, h⟩ := blL_mem (hL.1.mem_iff.1 h)
  obtain ⟨y, hy, h⟩ := colL_mem h
  obtain ⟨u, hu, h2, rfl⟩ := px_mem h
  obtain ⟨⟨h3, h4⟩, h5, h6⟩ := has_col hv hk hu hy h2
  refine ⟨⟨colB_mk (by dsimp only; omega), colB_mk (by dsimp only; omega)⟩, ?_⟩
  simp only [coL, List.mem_map, List.mem_range, Prod.mk.injEq]
  exact ⟨k, hk, by omega, by omega⟩
/-! the masks of a list of cells -/
def shL (E : List (Int × Int)) : MF := E.foldl (fun F c => setSh F c.1 c.2 true) (fun _ _ => zI)
def flL (E : List (Int × Int)) (j : Nat) : Int := pk E[j / 2]! (j % 2)
theorem shL_snoc (E : List (Int × Int)) (c : Int × Int) : shL (E ++ [c]) = setSh (shL E) c.1 c.2 true := by unfold shL; rw [List.foldl_append]; rfl
theorem flL_even (E : List (Int × Int)) (i : Nat) : flL E (2 * i) = E[i]!.1 := by
  unfold flL
  rw [show 2 * i / 2 = i by omega, show 2 * i % 2 = 0 by omega]
  rfl
theorem flL_odd (E : List (Int × Int)) (i : Nat) : flL E (2 * i + 1) = E[i]!.2 := by
  unfold flL
  rw [show (2 * i + 1) / 2 = i by omega, show (2 * i + 1) % 2 = 1 by omega]
  rfl
theorem take_bang {E : List (Int × Int)} {i : Nat} (h : i < E.length) : E.take (i + 1) = E.take i ++ [E[i]!] := by
  rw [getElem!_pos E i h, List.take_succ_eq_append_getElem h]
theorem pc_fl (E : List (Int × Int)) : ∀ i, i ≤ E.length → pcF (flL E) i = shL (E.take i)
  | 0, _ => rfl
  | i + 1, h => by
    rw [pcF_set, pc_fl E i (by omega), take_bang (by omega), shL_snoc, flL_even, flL_odd]
theorem pc_flL (E : List (Int × Int)) : pcF (flL E) E.length = shL E := by rw [pc_fl E _ (Nat.le_refl _), List.take_length]
theorem shL_MB (E : List (Int × Int)) : MBF (shL E) := by rw [← pc_flL]; exact pcF_MB _ _
theorem pc_none {f : Nat → Int} {p q : Int} : ∀ {n : Nat}, (∀ i, i < n → ¬ (f (2 * i) / 16 = p ∧ f (2 * i + 1) / 16 = q)) → pcF f n p q = zI
  | 0, _ => rfl
  | n + 1, h => by
    have h1 := pc_none (n := n) fun i hi => h i (by omega)
    have h2 := h n (by omega)
    show putM _ _ _ _ p q = zI
    unfold putM
    rw [if_neg (fun ⟨e1, e2⟩ => h2 ⟨e1.symm, e2.symm⟩), h1]
theorem mem_bang {E : List (Int × Int)} {i : Nat} (h : i < E.length) : E[i]! ∈ E := by
  rw [getElem!_pos E i h]
  exact List.getElem_mem h
def edB (f : Nat → Int) (n : Nat) (c : Int × Int) : Bool := !(phV f n (c.1 - 1) c.2 && phV f n (c.1 + 1) c.2 && phV f n c.1 (c.2 - 1) && phV f n c.1 (c.2 + 1))
def edL (f : Nat → Int) (n : Nat) : List (Int × Int) := (icL f n).filter (edB f n)
theorem ed_mem {f : Nat → Int} {n : Nat} (hv : validP f n = true) {c : Int × Int} (h : c ∈ edL f n) : (colB c.1 = true ∧ colB c.2 = true) ∧ (c.1 / 16, c.2 / 16) ∈ coL f n := ic_mem hv (icL_is f n) (List.mem_filter.1 h).1
/-- the corners of the edge: there are some, and no more than the picture has -/
theorem ed_pic {f : Nat → Int} {n : Nat} (hv : validP f n = true) : ∃ K, PicK (shL (edL f n)) K := by
  rw [← pc_flL]
  refine pcK _ (okP_mk fun i hi => ?_) _ (Nat.le_refl _)
  rw [flL_even, flL_odd]
  obtain ⟨⟨h1, h2⟩, _⟩ := ed_mem hv (mem_bang hi)
  rw [h1, h2]
  rfl
theorem ed_len {f : Nat → Int} {n : Nat} (hv : validP f n = true) {K : List (Int × Int)} (h : PicK (shL (edL f n)) K) : K.length ≤ n := by
  refine Nat.le_trans (nodup_len h.nodup fun c hc => ?_) (Nat.le_of_eq (coL_len f n))
  have h2 := ((h.2 c.1 c.2).1 hc).2
  refine Classical.byContradiction fun hno => ?_
  rw [← pc_flL, pc_none (fun i hi he => ?_)] at h2
  · rw [show emptyF zI = true from rfl] at h2
    cases h2
  · rw [flL_even, flL_odd] at he
    obtain ⟨_, h3⟩ := ed_mem hv (mem_bang hi)
    rw [he.1, he.2] at h3
    exact hno h3
theorem flL_P32 {E : List (Int × Int)} (h : ∀ c ∈ E, colB c.1 = true ∧ colB c.2 = true) : P32 E.length (flL E) := fun j hj => by
  obtain ⟨h1, h2⟩ := h _ (mem_bang (show j / 2 < E.length by omega))
  have := colB_yes h1
  have := colB_yes h2
  unfold flL pk
  split <;> omega
/-- a row of points of the call's own, read as the points that come in -/
theorem ow_pt {B : Nat} {a : Option Addr} {n c : Nat} {E : List (Int × Int)} {w : World} (h : OW B (.slice a n c) E w) (hn : n = E.length) : PtR w.heap.size w a n (flL E) := by
  rcases Nat.eq_zero_or_pos n with h0 | h0
  · exact .inl h0
  · obtain ⟨g, rfl, hg, hc⟩ := ow_cell h hn h0
    refine .inr ⟨g, 0, rfl, hg, fun j hj => ?_⟩
    have := hc (j / 2) (j % 2) (by omega) (by omega)
    rw [show j / 2 * 2 + j % 2 = 0 + j by omega] at this
    exact this
def edC (f : Nat → Int) (n : Nat) : Int := if validP f n = true then 0 else 1
def edK (f : Nat → Int) (n : Nat) (K : List (Int × Int)) : List (Int × Int) := if validP f n = true then K else []
def EdPost (f : Nat → Int) (n : Nat) (K : List (Int × Int)) (w : World) (e : Ending) (w' : World) : Prop := ∃ v, e = .returned (.tuple #[v, .int .i64 (edC f n)]) ∧ OB w.heap.size v (shL (edL f n)) (edK f n K) w' ∧ Below w.heap.size w w'
def edT (f : Nat → Int) (n : Nat) (L : List (Int × Int)) (i : Nat) : List (Int × Int) := (L.take i).filter (edB f n)
theorem edT_yes {f : Nat → Int} {n : Nat} {L : List (Int × Int)} {i : Nat} (h : i < L.length) (hb : edB f n L[i]! = true) : edT f n L (i + 1) = edT f n L i ++ [L[i]!] := by
  unfold edT
  rw [take_bang h, List.filter_append, List.filter_cons_of_pos hb]
  rfl
theorem edT_no {f : Nat → Int} {n : Nat} {L : List (Int × Int)} {i : Nat} (h : i < L.length) (hb : edB f n L[i]! = false) : edT f n L (i + 1) = edT f n L i := by
  unfold edT
  rw [take_bang h, List.filter_append, List.filter_cons_of_neg (by rw [hb]; decide)]
  exact List.append_nil _
theorem edT_all {f : Nat → Int} {n : Nat} {L : List (Int × Int)} (h : IsC f n L) : edT f n L L.length = edL f n := by
  unfold edT edL
  rw [List.take_length, h.uniq (icL_is f n)]
theorem edT_le (f : Nat → Int) (n : Nat) (L : List (Int × Int)) (i : Nat) : (edT f n L i).length ≤ i := by
  unfold edT
  refine Nat.le_trans (List.length_filter_le _ _) ?_
  rw [List.length_take]
  omega
theorem ph_hF {f : Nat → Int} {n : Nat} (hv : validP f n = true) (x y : Int) : hF (shF f n) x y = phV f n x y := by unfold hF phV; rw [shF_fd hv]
theorem ins_ed {f : Nat → Int} {n : Nat} (hv : validP f n = true) (c : Int × Int) : insF (shF f n) c.1 c.2 = !edB f n c := by
  unfold insF edB
  rw [ph_hF hv, ph_hF hv, ph_hF hv, ph_hF hv, Bool.not_not]
end Go.Proofs.Ythfmkejdpflpcaa
