/-
  CONTRACTS: slices.Grow at nil and slices.Concat of two slices of bytes.
-/
import Derived.Test.YtkijgadkgfapgaaGe
import Derived.Lib.AppendZerosOnto
import Derived.Deep.Upon
namespace Go.Proofs.Ytkijgadkgfapgaa
open Go.ChangeShapes Go.WideShapes Go.ChangeAt Go.RowKit
theorem catU_zero (q p : Nat → Int) : catU q 0 p = p := by funext j; unfold catU; rw [if_neg (by omega), Nat.sub_zero]
/-- bytes appended to a row of the call's own, nil or not -/
theorem run_append_y {base : Nat} {w : World} (ty : TypeId) (v : Value) (n : Nat) (q : Nat → Int) (hown : OwnU base v n q w) (a : Option Addr) (m c : Nat) (p : Nat → Int) (hx : YrR w.heap.size w a m p) (hl : n + m ≤ 100000000) (hbase : base ≤ w.heap.size) :
    ∃ v' w', (Builtin.append_ #[45, 45] ty #[v, .slice a m c]).run Try.prog w = .ok v' w' ∧ OwnU base v' (n + m) (catU q n p) w' ∧ w.grownBy w' v.ownBlock := by
  obtain ⟨i0, hi, hz0, hz1, hz2⟩ := info_parts info_u8'
  have key : ∀ ad : Addr, (∀ j u, (rowU p m)[j]? = some u → w.cell? (ad.add j) = some u) → ∃ v' w', (Builtin.append_ #[45, 45] ty #[v, .slice (some ad) m c]).run Try.prog w = .ok v' w' ∧ OwnU base v' (n + m) (catU q n p) w' ∧ w.grownBy w' v.ownBlock := by
    intro ad hc
    obtain ⟨v', w', hrun, r1, r2, -⟩ := run_append_own (P := Try.prog) w base 45 ty 5 i0 (.int .u8 0) 1 1 Try.underlying45 hi hz0 hz1 hz2 rfl (by decide) v n (rowU q n) hown ad m c (rowU p m) (by rw [rowU_len, Nat.mul_one]) hc (rowU_one p m) (by unfold maxLen; omega) (by omega) hbase
    refine ⟨v', w', hrun, ?_, r2⟩
    unfold OwnU
    rw [← rowU_cat]
    exact r1
  rcases hx with rfl | ⟨b, off, rfl, _, hc⟩
  · cases a with
    | some ad => exact key ad (fun j u hj => by rw [rowU_zero] at hj; cases hj)
    | none =>
      have hle : ∃ a c, v = .slice a n c ∧ n ≤ c := by
        rcases hown.2 with ⟨rfl, h0⟩ | ⟨g, cap, cur, rfl, h1, h2, h3, _⟩
        · exact ⟨none, 0, by rw [h0], by omega⟩
        · exact ⟨_, cap, rfl, h3⟩
      obtain ⟨a, c', rfl, hlc⟩ := hle
      refine ⟨_, _, run_append_nothing (P := Try.prog) w 45 45 ty 5 i0 Try.underlying45 hi a n c' hlc (.slice none 0 c) (Src.ofNil (P := Try.prog) w Try.underlying45 c), ?_, ⟨rfl, rfl, rfl, Nat.le_refl _, fun _ _ _ => rfl⟩⟩
      rw [Nat.add_zero]
      exact OwnU.congr hown fun j hj => (catU_lo hj).symm
  · refine key ⟨b, off, none⟩ fun j u hj => ?_
    have hlt : j < m := by
      rcases Nat.lt_or_ge j m with h | h
      · exact h
      · rw [List.getElem?_eq_none (by rw [rowU_len]; exact h)] at hj; cases hj
    rw [rowU_get _ _ _ hlt] at hj
    rw [Go.WideShapes.add_plain, hc j hlt]; exact hj
theorem grown_belowU {base : Nat} {v : Value} {n : Nat} {q : Nat → Int} {w w' : World} (h : OwnU base v n q w) (hg : w.grownBy w' v.ownBlock) (hb : base ≤ w.heap.size) : Below base w w' :=
  (Below.refl _ _).grown hg hb (fun k hk => (World.ownsRow.lt h k hk).1)
set_option maxRecDepth 100000 in
set_option maxHeartbeats 1000000 in
theorem ugrow_any (x : Int) (n : Nat) (hx : x = (n : Int)) (hn : n ≤ 4000000) (q : Nat → Int) (w : World) :
    Calls Try.prog 131 #[.slice none 0 0, .int .i64 x] w fun e w' => ∃ v, e = .returned v ∧ OwnU w.heap.size v 0 q w' ∧ Below w.heap.size w w' := by
  subst hx
  obtain ⟨i0, hi, hz0, hz1, hz2⟩ := info_parts info_u8'
  cases n with
  | zero =>
    go_enter Try.func131, Try.ntmps131
    go_wp2
    go_ret
    exact ⟨_, rfl, World.ownsRow_nil _ _ _ _, Below.refl _ _⟩
  | succ k =>
    have hk' : (k : Int) ≤ 3999999 := by omega
    have hrz : ∀ ty, (Builtin.append_ #[45, 3] ty #[.slice none 0 0, .int .i64 ((k : Int) + 1)]).run Try.prog w =
        .ok (.slice (some ⟨w.heap.size, 0, none⟩) (k + 1) (grownCap w (k + 1) 0 5)) (w.drew.alloc (.cells ((#[] : Array Value) ++ Builtin.zeroCells (Value.int .u8 0).cells (k + 1) ++ Builtin.zeroCells (Value.int .u8 0).cells (grownCap w (k + 1) 0 5 - (k + 1))) 5)) := fun ty => by
      have h := Lib.run_append_grow_zeros (P := Try.prog) w 45 3 ty 5 i0 (.int .u8 0) .i64 .i64 Try.underlying45 Try.underlying3 hi hz0 none 0 0 [] (run_firstCells_none w.drew i0.size 0 0 0) (k + 1) (by omega) (by rw [hz1]; decide) (by omega) (by omega) (by rw [hz2]; omega) (growslice_fits (by omega) (by rw [hz2]; omega))
      simp only [Nat.zero_add] at h
      exact h
    have hG : k + 1 ≤ grownCap w (k + 1) 0 5 := grownCap_ge w _ _ _
    have hGm := grownCap_le_maxLen w (k + 1) 0 5 (by unfold maxLen; omega)
    obtain ⟨G, hGe⟩ : ∃ G, grownCap w (k + 1) 0 5 = G := ⟨_, rfl⟩
    rw [hGe] at hrz hG hGm
    have hG63 : (G : Int) ≤ 9223372036854775807 := by unfold maxLen at hGm; omega
    have P : Hid ((fun e w' => ∃ v, e = Ending.returned v ∧ OwnU w.heap.size v 0 q w' ∧ Below w.heap.size w w') (.returned (.slice (some ⟨w.heap.size, 0, none⟩) 0 G)) (w.alloc (.cells (Builtin.zeroCells #[Value.int .u8 0] (k + 1) ++ Builtin.zeroCells #[Value.int .u8 0] (G - (k + 1))) 5)).drew) := Lib.hid
      ⟨_, rfl, ⟨by rfl, .inr ⟨w.heap.size, G, _, rfl, Nat.le_refl _, World.alloc_heap_new w _, Nat.zero_le _, hGm, by simp [size_zeroCells]; omega, by simp [rowU]⟩⟩, ((Below.refl _ w).alloc (Nat.le_refl _) _).drew⟩
    clear hGe hGm
    go_enter Try.func131, Try.ntmps131
    go_wp2_with (at_builtin; refine Lib.wpList_append_run _ rfl _ _ _ _ rfl _ _ rfl rfl _ _ (hrz _) ?_)
    all_goals
      go_ret
      exact P.out
set_option maxRecDepth 100000 in
set_option maxHeartbeats 2000000 in
theorem uconcat_any (g : Nat) (a1 a2 : Option Addr) (n1 n2 c1 c2 : Nat) (p1 p2 : Nat → Int) (h1 : n1 ≤ 2000000) (h2 : n2 ≤ 2000000) (w : World) (hg : g < w.heap.size) (k0 : w.cell? ⟨g, 0, none⟩ = some (.slice a1 n1 c1)) (k1 : w.cell? ⟨g, 1, none⟩ = some (.slice a2 n2 c2)) (r1 : YrR w.heap.size w a1 n1 p1) (r2 : YrR w.heap.size w a2 n2 p2) :
    Calls Try.prog 107 #[.slice (some ⟨g, 0, none⟩) 2 2] w fun e w' => ∃ v, e = .returned v ∧ OwnU w.heap.size v (n1 + n2) (catU p1 n1 p2) w' ∧ Below w.heap.size w w' := by
  have ha' : (n1 : Int) ≤ 2000000 := by omega
  have hb' : (n2 : Int) ≤ 2000000 := by omega
  have t1 : decide ((n1 : Int) + (n2 : Int) < 0) = false := by simp; omega
  have R1 := Lib.hid r1
  have R2 := Lib.hid r2
  clear r1 r2
  go_enter Try.func107, Try.ntmps107
  go_wp2
  refine wp_loop_rounds 3 ?_
  rw [rounds_succ]
  go_wp2
  rw [rounds_succ]
  go_wp2
  rw [rounds_succ]
  go_wp2_with fail
  refine (ugrow_any _ (n1 + n2) (by omega) (by omega) p1 w).mono ?_
  rintro e w1 ⟨v, rfl, O, B⟩
  have hs := B.size
  have h0' := (B.cell (p := ⟨g, 0, none⟩) hg).trans k0
  have h1' := (B.cell (p := ⟨g, 1, none⟩) hg).trans k1
  obtain ⟨v3, w3, hr3, O3, G3⟩ := run_append_y 45 v 0 p1 O a1 n1 c1 p1 ((R1.out.below B (Nat.le_refl _)).mono' B.size) (by omega) B.size
  have B3 := B.trans (grown_belowU O G3 B.size)
  have h0'' := (B3.cell (p := ⟨g, 0, none⟩) hg).trans k0
  have h1'' := (B3.cell (p := ⟨g, 1, none⟩) hg).trans k1
  obtain ⟨v4, w4, hr4, O4, G4⟩ := run_append_y 45 v3 _ _ O3 a2 n2 c2 p2 ((R2.out.below B3 (Nat.le_refl _)).mono' B3.size) (by omega) B3.size
  have B4 := B3.trans (grown_belowU O3 G4 B3.size)
  rw [catU_zero, Nat.zero_add] at O4
  have P : Hid ((fun e w' => ∃ v, e = Ending.returned v ∧ OwnU w.heap.size v (n1 + n2) (catU p1 n1 p2) w' ∧ Below w.heap.size w w') (.returned v4) w4) := Lib.hid ⟨v4, rfl, O4, B4⟩
  clear O O3 O4 G3 G4 B B3 B4 R1 R2
  go_wp2
  refine wp_loop_rounds 3 ?_
  rw [rounds_succ]
  go_wp2_with (at_builtin; refine Lib.wpList_append_run _ rfl _ _ _ _ rfl _ _ rfl rfl _ _ hr3 ?_)
  rw [rounds_succ]
  go_wp2_with (at_builtin; refine Lib.wpList_append_run _ rfl _ _ _ _ rfl _ _ rfl rfl _ _ hr4 ?_)
  rw [rounds_succ]
  go_wp2
  go_ret
  exact P.out
end Go.Proofs.Ytkijgadkgfapgaa
