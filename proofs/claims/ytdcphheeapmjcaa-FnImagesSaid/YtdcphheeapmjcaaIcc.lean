/-
  CONTRACTS: slices.Grow at nil and slices.Concat of two rows of letters; JoinReduced.
-/
import Derived.Test.YtdcphheeapmjcaaIiw
import Derived.Test.YtdcphheeapmjcaaIcs
import Derived.Lib.AppendZerosOnto
import Derived.Deep.Upon
namespace Go.Proofs.Ytdcphheeapmjcaa
open Go.ChangeShapes Go.WideShapes Go.ChangeAt Go.RowKit
open Wd
theorem numC_app (a b : List UInt8) : numC a ++ numC b = numC (a ++ b) := by simp [numC]
theorem numC_get {l : List UInt8} {j : Nat} {u : Value} (h : (numC l)[j]? = some u) : ∃ hj : j < l.length, u = .int .u8 (lnum (l[j]'hj)) := by
  have hj : j < l.length := by
    rcases Nat.lt_or_ge j l.length with h' | h'
    · exact h'
    · rw [List.getElem?_eq_none (by rw [numC_len]; exact h')] at h; cases h
  rw [numC_at l j hj] at h
  exact ⟨hj, (Option.some.inj h).symm⟩
/-- a row of letters appended to a row of the call's own -/
theorem run_append_row {base n₀ : Nat} {w : World} (ty : TypeId) (v : Value) (l : List UInt8) (hown : OwnL base v l w) (x : Value) (m : List UInt8) (hx : LRow n₀ w x m) (hl : l.length + m.length ≤ 100000000) (hbase : base ≤ w.heap.size) :
    ∃ v' w', (Builtin.append_ #[71, 71] ty #[v, x]).run Try.prog w = .ok v' w' ∧ OwnL base v' (l ++ m) w' ∧ w.grownBy w' v.ownBlock := by
  obtain ⟨i0, hi, hz0, hz1, hz2⟩ := info_parts info_let
  rcases hx with ⟨rfl, rfl⟩ | ⟨b, off, cap, rfl, _, hc⟩
  · have hle : ∃ a c, v = .slice a l.length c ∧ l.length ≤ c := by
      rcases hown.2 with ⟨rfl, h0⟩ | ⟨g, cap, cur, rfl, h1, h2, h3, _⟩
      · exact ⟨none, 0, by rw [h0], by omega⟩
      · exact ⟨_, cap, rfl, h3⟩
    obtain ⟨a, c, rfl, hlc⟩ := hle
    refine ⟨_, _, run_append_nothing (P := Try.prog) w 71 71 ty 84 i0 Try.underlying71 hi a l.length c hlc (.slice none 0 0) ⟨.inl ⟨_, Try.underlying71⟩, fun _ => rfl, by simp [Builtin.firstCells], by simp [Builtin.firstCells], by simp, by simp⟩, by rw [List.append_nil]; exact hown, World.grownBy.refl _ _⟩
  · obtain ⟨v', w', hrun, r1, r2, -⟩ := run_append_own (P := Try.prog) w base 71 ty 84 i0 (.int .u8 0) 1 1 Try.underlying71 hi hz0 hz1 hz2 rfl (by decide) v l.length (numC l) hown ⟨b, off, none⟩ m.length cap (numC m) (by rw [numC_len, Nat.mul_one]) (by
      intro j u hj
      obtain ⟨hj', rfl⟩ := numC_get hj
      rw [addr_off]
      exact hc j hj') (by
      intro u hu
      obtain ⟨_, _, rfl⟩ := List.mem_map.1 hu
      rfl) (by unfold maxLen; omega) (by omega) hbase
    refine ⟨v', w', hrun, ?_, r2⟩
    unfold OwnL
    rw [List.length_append, ← numC_app]
    exact r1
theorem grown_below {base : Nat} {v : Value} {l : List UInt8} {w w' : World} (h : OwnL base v l w) (hg : w.grownBy w' v.ownBlock) (hb : base ≤ w.heap.size) : Below base w w' :=
  (Below.refl _ _).grown hg hb (fun k hk => (World.ownsRow.lt h k hk).1)
set_option maxRecDepth 100000 in
set_option maxHeartbeats 1000000 in
theorem lgrow_any (x : Int) (n : Nat) (hx : x = (n : Int)) (hn : n ≤ 4000000) (w : World) :
    Calls Try.prog 105 #[.slice none 0 0, .int .i64 x] w (LetPost [] w) := by
  subst hx
  obtain ⟨i0, hi, hz0, hz1, hz2⟩ := info_parts info_let
  cases n with
  | zero =>
    go_enter Try.func105, Try.ntmps105
    go_wp2
    go_ret
    exact ⟨_, rfl, World.ownsRow_nil _ _ _ _, Below.refl _ _⟩
  | succ k =>
    have hk' : (k : Int) ≤ 3999999 := by omega
    have hrz : ∀ ty, (Builtin.append_ #[71, 3] ty #[.slice none 0 0, .int .i64 ((k : Int) + 1)]).run Try.prog w =
        .ok (.slice (some ⟨w.heap.size, 0, none⟩) (k + 1) (grownCap w (k + 1) 0 84)) (w.drew.alloc (.cells ((#[] : Array Value) ++ Builtin.zeroCells (Value.int .u8 0).cells (k + 1) ++ Builtin.zeroCells (Value.int .u8 0).cells (grownCap w (k + 1) 0 84 - (k + 1))) 84)) := fun ty => by
      have h := Lib.run_append_grow_zeros (P := Try.prog) w 71 3 ty 84 i0 (.int .u8 0) .i64 .i64 Try.underlying71 Try.underlying3 hi hz0 none 0 0 [] (run_firstCells_none w.drew i0.size 0 0 0) (k + 1) (by omega) (by rw [hz1]; decide) (by omega) (by omega) (by rw [hz2]; omega) (growslice_fits (by omega) (by rw [hz2]; omega))
      simp only [Nat.zero_add] at h
      exact h
    have hG : k + 1 ≤ grownCap w (k + 1) 0 84 := grownCap_ge w _ _ _
    have hGm := grownCap_le_maxLen w (k + 1) 0 84 (by unfold maxLen; omega)
    obtain ⟨G, hGe⟩ : ∃ G, grownCap w (k + 1) 0 84 = G := ⟨_, rfl⟩
    rw [hGe] at hrz hG hGm
    have hG63 : (G : Int) ≤ 9223372036854775807 := by unfold maxLen at hGm; omega
    have P : Hid (LetPost [] w (.returned (.slice (some ⟨w.heap.size, 0, none⟩) 0 G)) (w.alloc (.cells (Builtin.zeroCells #[Value.int .u8 0] (k + 1) ++ Builtin.zeroCells #[Value.int .u8 0] (G - (k + 1))) 84)).drew) := Lib.hid
      ⟨_, rfl, ⟨by simp [numC], .inr ⟨w.heap.size, G, _, rfl, Nat.le_refl _, World.alloc_heap_new w _, Nat.zero_le _, hGm, by simp [size_zeroCells]; omega, by simp [numC]⟩⟩, below_drewN ((Below.refl _ w).alloc (Nat.le_refl _) _) 1⟩
    clear hGe hGm
    go_enter Try.func105, Try.ntmps105
    go_wp2_with (at_builtin; refine Lib.wpList_append_run _ rfl _ _ _ _ rfl _ _ rfl rfl _ _ (hrz _) ?_)
    all_goals
      go_ret
      exact P.out
end Go.Proofs.Ytdcphheeapmjcaa
