/-
  CONTRACTS: cmp.Or of two codes; slices.Concat of two slices of blocks.
-/
import Derived.Test.YthfmkejdpflpcaaNh
import Derived.Test.YthfmkejdpflpcaaVa
import Derived.Lib.AppendZerosOnto
import Derived.Deep.Upon
namespace Go.Proofs.Ythfmkejdpflpcaa
open Go.ChangeShapes Go.WideShapes Go.ChangeAt Go.RowKit
theorem or64_any (a b : Int) (g : Nat) (w : World) (h0 : w.cell? ⟨g, 0, none⟩ = some (.int .i64 a)) (h1 : w.cell? ⟨g, 1, none⟩ = some (.int .i64 b)) :
    Calls Try.prog 116 #[.slice (some ⟨g, 0, none⟩) 2 2] w fun e w' => e = .returned (.int .i64 (orI a b)) ∧ w = w' := by
  unfold orI
  by_cases ha : a = 0
  · rw [if_pos ha]
    subst ha
    by_cases hb : b = 0
    · subst hb
      go_enter Try.func116, Try.ntmps116
      go_wp2
      refine wp_loop_rounds 3 ?_
      rw [rounds_succ]
      go_wp2
      rw [rounds_succ]
      go_wp2
      rw [rounds_succ]
      go_wp2
      go_ret
      exact ⟨rfl, rfl⟩
    · have hb' : (b != 0) = true := by simpa using hb
      go_enter Try.func116, Try.ntmps116
      go_wp2
      refine wp_loop_rounds 3 ?_
      rw [rounds_succ]
      go_wp2
      rw [rounds_succ]
      go_wp2
      go_ret
      exact ⟨rfl, rfl⟩
  · rw [if_neg ha]
    have ha' : (a != 0) = true := by simpa using ha
    go_enter Try.func116, Try.ntmps116
    go_wp2
    refine wp_loop_rounds 3 ?_
    rw [rounds_succ]
    go_wp2
    go_ret
    exact ⟨rfl, rfl⟩

def rowK (f : Nat → Int) (n : Nat) : List Value := (List.range (18 * n)).map fun j => bcell f j
theorem rowK_len (f : Nat → Int) (n : Nat) : (rowK f n).length = n * 18 := by simp [rowK]; omega
theorem rowK_get (f : Nat → Int) (n j : Nat) (h : j < 18 * n) : (rowK f n)[j]? = some (bcell f j) := by simp [rowK, h]
theorem rowK_zero (f : Nat → Int) : rowK f 0 = [] := rfl
theorem rowK_one (f : Nat → Int) (n : Nat) : ∀ u ∈ rowK f n, u.oneCell' = true := by
  intro u hu
  simp only [rowK, List.mem_map] at hu
  obtain ⟨j, _, rfl⟩ := hu
  unfold bcell
  split <;> rfl
theorem rowK_congr {f g : Nat → Int} {n : Nat} (h : ∀ j, j < 18 * n → f j = g j) : rowK f n = rowK g n := by
  unfold rowK
  apply List.map_congr_left
  intro j hj
  unfold bcell
  rw [h j (by simpa using hj)]
def catG (f : Nat → Int) (n : Nat) (p : Nat → Int) : Nat → Int := fun j => if j < 18 * n then f j else p (j - 18 * n)
theorem catG_zero (q p : Nat → Int) : catG q 0 p = p := by funext j; unfold catG; rw [if_neg (by omega), Nat.mul_zero, Nat.sub_zero]
theorem rowK_cat (q p : Nat → Int) (n m : Nat) : rowK q n ++ rowK p m = rowK (catG q n p) (n + m) := by
  apply List.ext_getElem?
  intro j
  by_cases h1 : j < 18 * n
  · rw [List.getElem?_append_left (by rw [rowK_len]; omega), rowK_get _ _ _ h1, rowK_get _ _ _ (by omega)]
    unfold bcell catG
    rw [if_pos h1]
  · rw [List.getElem?_append_right (by rw [rowK_len]; omega), rowK_len]
    by_cases h2 : j < 18 * (n + m)
    · rw [rowK_get _ _ _ (by omega), rowK_get _ _ _ h2]
      unfold bcell catG
      rw [if_neg h1, show (j - n * 18) % 18 = j % 18 by omega, show j - n * 18 = j - 18 * n by omega]
    · rw [List.getElem?_eq_none (by rw [rowK_len]; omega), List.getElem?_eq_none (by rw [rowK_len]; omega)]
def OwnG (base : Nat) (v : Value) (n : Nat) (f : Nat → Int) (w : World) : Prop := w.ownsRow base 73 18 v n (rowK f n)
theorem OwnG.congr {base : Nat} {v : Value} {n : Nat} {q r : Nat → Int} {w : World} (h : OwnG base v n q w) (e : ∀ j, j < 18 * n → q j = r j) : OwnG base v n r w := by
  unfold OwnG at *
  rw [← rowK_congr e]; exact h
theorem BlR.monoS {B B' : Nat} {w : World} {a : Option Addr} {n : Nat} {f : Nat → Int} (h : BlR B w a n f) (hB : B ≤ B') : BlR B' w a n f := by
  rcases h with h | ⟨g, off, ha, hg, hc⟩
  · exact .inl h
  · exact .inr ⟨g, off, ha, by omega, hc⟩
theorem blk_infS : (Try.prog.info? 73).map (fun i => (i.zero, i.size, i.bytes)) = some (some (.agg (bl 0 0 zI)), 18, 40) := by kernel_rfl
/-- bytes appended to a row of the call's own, nil or not -/
theorem run_append_g {base : Nat} {w : World} (ty : TypeId) (v : Value) (n : Nat) (q : Nat → Int) (hown : OwnG base v n q w) (a : Option Addr) (m c : Nat) (p : Nat → Int) (hx : BlR w.heap.size w a m p) (hl : n + m ≤ 1000000) (hbase : base ≤ w.heap.size) :
    ∃ v' w', (Builtin.append_ #[80, 80] ty #[v, .slice a m c]).run Try.prog w = .ok v' w' ∧ OwnG base v' (n + m) (catG q n p) w' ∧ w.grownBy w' v.ownBlock := by
  obtain ⟨i0, hi, hz0, hz1, hz2⟩ := info_parts blk_infS
  have key : ∀ ad : Addr, (∀ j u, (rowK p m)[j]? = some u → w.cell? (ad.add j) = some u) → ∃ v' w', (Builtin.append_ #[80, 80] ty #[v, .slice (some ad) m c]).run Try.prog w = .ok v' w' ∧ OwnG base v' (n + m) (catG q n p) w' ∧ w.grownBy w' v.ownBlock := by
    intro ad hc
    obtain ⟨v', w', hrun, r1, r2, -⟩ := run_append_own (P := Try.prog) w base 80 ty 73 i0 (.agg (bl 0 0 zI)) 18 40 Try.underlying80 hi hz0 hz1 hz2 rfl (by decide) v n (rowK q n) hown ad m c (rowK p m) (rowK_len p m) hc (rowK_one p m) (by unfold maxLen; omega) (by omega) hbase
    refine ⟨v', w', hrun, ?_, r2⟩
    unfold OwnG
    rw [← rowK_cat]
    exact r1
  rcases hx with rfl | ⟨b, off, rfl, _, hc⟩
  · cases a with
    | some ad => exact key ad (fun j u hj => by rw [rowK_zero] at hj; cases hj)
    | none =>
      have hle : ∃ a c, v = .slice a n c ∧ n ≤ c := by
        rcases hown.2 with ⟨rfl, h0⟩ | ⟨g, cap, cur, rfl, h1, h2, h3, _⟩
        · exact ⟨none, 0, by rw [h0], by omega⟩
        · exact ⟨_, cap, rfl, h3⟩
      obtain ⟨a, c', rfl, hlc⟩ := hle
      refine ⟨_, _, run_append_nothing (P := Try.prog) w 80 80 ty 73 i0 Try.underlying80 hi a n c' hlc (.slice none 0 c) (Src.ofNil (P := Try.prog) w Try.underlying80 c), ?_, ⟨rfl, rfl, rfl, Nat.le_refl _, fun _ _ _ => rfl⟩⟩
      rw [Nat.add_zero]
      exact OwnG.congr hown fun j hj => ((if_pos hj : catG q n p _ = q _)).symm
  · refine key ⟨b, off, none⟩ fun j u hj => ?_
    have hlt : j < 18 * m := by
      rcases Nat.lt_or_ge j (18 * m) with h | h
      · exact h
      · rw [List.getElem?_eq_none (by rw [rowK_len]; omega)] at hj; cases hj
    rw [rowK_get _ _ _ hlt] at hj
    rw [Go.WideShapes.add_plain, hc j hlt]; exact hj
theorem grown_belowG {base : Nat} {v : Value} {n : Nat} {q : Nat → Int} {w w' : World} (h : OwnG base v n q w) (hg : w.grownBy w' v.ownBlock) (hb : base ≤ w.heap.size) : Below base w w' :=
  (Below.refl _ _).grown hg hb (fun k hk => (World.ownsRow.lt h k hk).1)
set_option maxRecDepth 100000 in
set_option maxHeartbeats 1000000 in
theorem ggrow_any (x : Int) (n : Nat) (hx : x = (n : Int)) (hn : n ≤ 200000) (q : Nat → Int) (w : World) :
    Calls Try.prog 141 #[.slice none 0 0, .int .i64 x] w fun e w' => ∃ v, e = .returned v ∧ OwnG w.heap.size v 0 q w' ∧ Below w.heap.size w w' := by
  subst hx
  obtain ⟨i0, hi, hz0, hz1, hz2⟩ := info_parts blk_infS
  cases n with
  | zero =>
    go_enter Try.func141, Try.ntmps141
    go_wp2
    go_ret
    exact ⟨_, rfl, World.ownsRow_nil _ _ _ _, Below.refl _ _⟩
  | succ k =>
    have hk' : (k : Int) ≤ 199999 := by omega
    have hrz : ∀ ty, (Builtin.append_ #[80, 3] ty #[.slice none 0 0, .int .i64 ((k : Int) + 1)]).run Try.prog w =
        .ok (.slice (some ⟨w.heap.size, 0, none⟩) (k + 1) (grownCap w (k + 1) 0 73)) (w.drew.alloc (.cells ((#[] : Array Value) ++ Builtin.zeroCells (Value.agg (bl 0 0 zI)).cells (k + 1) ++ Builtin.zeroCells (Value.agg (bl 0 0 zI)).cells (grownCap w (k + 1) 0 73 - (k + 1))) 73)) := fun ty => by
      have h := Lib.run_append_grow_zeros (P := Try.prog) w 80 3 ty 73 i0 (.agg (bl 0 0 zI)) .i64 .i64 Try.underlying80 Try.underlying3 hi hz0 none 0 0 [] (run_firstCells_none w.drew i0.size 0 0 0) (k + 1) (by omega) (by rw [hz1]; decide) (by omega) (by omega) (by rw [hz2]; omega) (growslice_fits (by omega) (by rw [hz2]; omega))
      simp only [Nat.zero_add] at h
      exact h
    have hG : k + 1 ≤ grownCap w (k + 1) 0 73 := grownCap_ge w _ _ _
    have hGm := grownCap_le_maxLen w (k + 1) 0 73 (by unfold maxLen; omega)
    obtain ⟨G, hGe⟩ : ∃ G, grownCap w (k + 1) 0 73 = G := ⟨_, rfl⟩
    rw [hGe] at hrz hG hGm
    have hG63 : (G : Int) ≤ 9223372036854775807 := by unfold maxLen at hGm; omega
    have P : Hid ((fun e w' => ∃ v, e = Ending.returned v ∧ OwnG w.heap.size v 0 q w' ∧ Below w.heap.size w w') (.returned (.slice (some ⟨w.heap.size, 0, none⟩) 0 G)) (w.alloc (.cells (Builtin.zeroCells (bl 0 0 zI) (k + 1) ++ Builtin.zeroCells (bl 0 0 zI) (G - (k + 1))) 73)).drew) := Lib.hid
      ⟨_, rfl, ⟨by rfl, .inr ⟨w.heap.size, G, _, rfl, Nat.le_refl _, World.alloc_heap_new w _, Nat.zero_le _, hGm, by simp [size_zeroCells, bl_size]; omega, by simp [rowK]⟩⟩, ((Below.refl _ w).alloc (Nat.le_refl _) _).drew⟩
    clear hGe hGm
    go_enter Try.func141, Try.ntmps141
    go_wp2_with (at_builtin; refine Lib.wpList_append_run _ rfl _ _ _ _ rfl _ _ rfl rfl _ _ (hrz _) ?_)
    all_goals
      go_ret
      exact P.out
set_option maxRecDepth 100000 in
set_option maxHeartbeats 100000 in
theorem gconcat_any (g : Nat) (a1 a2 : Option Addr) (n1 n2 c1 c2 : Nat) (p1 p2 : Nat → Int) (h1 : n1 ≤ 100000) (h2 : n2 ≤ 100000) (w : World) (hg : g < w.heap.size) (k0 : w.cell? ⟨g, 0, none⟩ = some (.slice a1 n1 c1)) (k1 : w.cell? ⟨g, 1, none⟩ = some (.slice a2 n2 c2)) (r1 : BlR w.heap.size w a1 n1 p1) (r2 : BlR w.heap.size w a2 n2 p2) :
    Calls Try.prog 117 #[.slice (some ⟨g, 0, none⟩) 2 2] w fun e w' => ∃ v, e = .returned v ∧ OwnG w.heap.size v (n1 + n2) (catG p1 n1 p2) w' ∧ Below w.heap.size w w' := by
  have ha' : (n1 : Int) ≤ 100000 := by omega
  have hb' : (n2 : Int) ≤ 100000 := by omega
  have t1 : decide ((n1 : Int) + (n2 : Int) < 0) = false := by simp; omega
  have R1 := Lib.hid r1
  have R2 := Lib.hid r2
  clear r1 r2
  go_enter Try.func117, Try.ntmps117
  go_wp2
  refine wp_loop_rounds 3 ?_
  rw [rounds_succ]
  go_wp2
  rw [rounds_succ]
  go_wp2
  rw [rounds_succ]
  go_wp2_with fail
  refine (ggrow_any _ (n1 + n2) (by omega) (by omega) p1 w).mono ?_
  rintro e w1 ⟨v, rfl, O, B⟩
  have hs := B.size
  have h0' := (B.cell (p := ⟨g, 0, none⟩) hg).trans k0
  have h1' := (B.cell (p := ⟨g, 1, none⟩) hg).trans k1
  obtain ⟨v3, w3, hr3, O3, G3⟩ := run_append_g 80 v 0 p1 O a1 n1 c1 p1 ((R1.out.below B (Nat.le_refl _)).monoS B.size) (by omega) B.size
  have B3 := B.trans (grown_belowG O G3 B.size)
  have h0'' := (B3.cell (p := ⟨g, 0, none⟩) hg).trans k0
  have h1'' := (B3.cell (p := ⟨g, 1, none⟩) hg).trans k1
  obtain ⟨v4, w4, hr4, O4, G4⟩ := run_append_g 80 v3 _ _ O3 a2 n2 c2 p2 ((R2.out.below B3 (Nat.le_refl _)).monoS B3.size) (by omega) B3.size
  have B4 := B3.trans (grown_belowG O3 G4 B3.size)
  rw [catG_zero, Nat.zero_add] at O4
  have P : Hid ((fun e w' => ∃ v, e = Ending.returned v ∧ OwnG w.heap.size v (n1 + n2) (catG p1 n1 p2) w' ∧ Below w.heap.size w w') (.returned v4) w4) := Lib.hid ⟨v4, rfl, O4, B4⟩
  clear O O3 O4 G3 G4 B B3 B4 R1 R2
  go_wp2
  refine wp_loop_rounds 3 ?_
  rw [rounds_succ]
  go_wp2_with (at_builtin; refine Lib.wpList_append_run _ rfl _ _ _ _ rfl _ _ rfl rfl _ _ hr3 ?_)
  rw [rounds_succ]
  go_wp2_with (at_builtin; refine Lib.wpList_append_run _ rfl _ _ _ _ rfl _ _ rfl rfl _ _ hr4 ?_)
  rw [rounds_succ]
  go_wp2
  go_ret
  exact P.out
end Go.Proofs.Ythfmkejdpflpcaa
