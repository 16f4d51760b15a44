/-
  CONTRACT: slices.Backward at a row of numbers that the loop's body may turn: what comes in a range over it.
-/
import Derived.Test.YtdcphheeapmjcaaIbk
import Derived.Test.YtdcphheeapmjcaaIch
namespace Go.Proofs.Ytdcphheeapmjcaa
open Go.ChangeShapes Go.WideShapes Go.ChangeAt Go.RowKit Go.Shelf
open Wd
attribute [local go_sem] Oper.semAt_some
/-- block gb is a row of n numbers -/
def IsRow (gb n : Nat) (W : World) : Prop := ∃ f, W.heap[gb]? = some (.cells (rowF f n) 2 (0, 0))
/-- what a round keeps: what lay below n₀, the block Bs, and that block gb is a row -/
def KpR (n₀ Bs gb n : Nat) (W W' : World) : Prop := Below n₀ W W' ∧ W'.heap[Bs]? = W.heap[Bs]? ∧ (IsRow gb n W → IsRow gb n W')
theorem KpR.refl (n₀ Bs gb n : Nat) (W : World) : KpR n₀ Bs gb n W W := ⟨Below.refl _ _, rfl, id⟩
theorem KpR.trans {n₀ Bs gb n : Nat} {A B C : World} (h : KpR n₀ Bs gb n A B) (k : KpR n₀ Bs gb n B C) : KpR n₀ Bs gb n A C := ⟨h.1.trans k.1, k.2.1.trans h.2.1, fun x => k.2.2 (h.2.2 x)⟩
theorem KpR.box {n₀ Bs gb n : Nat} {A B : World} (h : KpR n₀ Bs gb n A B) : B.cell? ⟨Bs, 0, none⟩ = A.cell? ⟨Bs, 0, none⟩ := by
  have h2 := h.2.1
  simp [World.cell?, h2]
theorem kpR_b {n₀ Bs gb n m : Nat} (h1 : n₀ ≤ m) (h2 : Bs < m) (h3 : gb < m) (W : World) (l : Nat) (o o' : Obj) (hl : m ≤ l) (hg : W.heap[l]? = some o) (hc : o.isCells = false) (hw : o.isWalk = false) : KpR n₀ Bs gb n W (W.putObj l o') :=
  ⟨(Below.refl n₀ W).grown (grownBy_putObj' W l o') (by have := (Array.getElem?_eq_some_iff.1 hg).1; omega) (fun k e => by cases e; omega), World.putObj_heap_other (by omega), fun ⟨f, hf⟩ => ⟨f, (World.putObj_heap_other (by omega)).trans hf⟩⟩
/-- a place of a row of n, and a number -/
abbrev Pl (n : Nat) := { x : Nat × Int // x.1 < n }
theorem pl_snoc {n k j : Nat} (h : k + (j + 1) = n) : (List.range n).reverse.take (k + 1) = (List.range n).reverse.take k ++ [j] := by
  have hk : k < (List.range n).reverse.length := by simp; omega
  rw [List.take_succ_eq_append_getElem hk]
  congr 2
  simp
  omega
set_option maxRecDepth 100000 in
set_option maxHeartbeats 1000000 in
theorem iback0_in (F : Fence) (n : Nat) (h7 : F.fn 90) (hro : F.round = none) (l Bs : Nat) (a : Option Addr) (cap : Nat) (J : List (Pl 0) → World → Prop) (W : World) (hBs : W.cell? ⟨Bs, 0, none⟩ = some (.slice a 0 cap)) (h0 : J [] W) :
    CallsIn F n Try.prog 90 #[.func (.yield l) #[] #[], .pointer (some ⟨Bs, 0, none⟩)] W fun e W' => (∃ v, e = .returned v) ∧ J [] W' := by
  refine callsIn_of_wp Try.func90 rfl h7 ?_ hro
  simp only [Try.ntmps90, List.size_toArray, List.length_cons, List.length_nil, Nat.reduceAdd, Nat.reduceSub, Array.replicate_succ, Array.replicate_zero, List.push_toArray, List.append_toArray, List.nil_append, List.cons_append]
  gi_wp2
  gi_loopw [3] (fun i wr => i = .int .i64 (-1) ∧ J [] wr) (fun _ _ => 0)
  case atStart => exact ⟨rfl, h0⟩
  case round =>
    obtain ⟨rfl, hJs⟩ := hrel
    gi_wp2
    go_end0
    exact ⟨⟨_, rfl⟩, hJs⟩
set_option maxRecDepth 100000 in
set_option maxHeartbeats 2000000 in
theorem iback1_in (F : Fence) (n : Nat) (h7 : F.fn 90) (hro : F.round = none) (hn : 1 ≤ n) (l Bs n₀ gb m cap : Nat) (hreach : m + 1 ≤ 4000000) (J Jx : List (Pl (m + 1)) → World → Prop)
    (hY : ∀ pre x W, J pre W → pre.length < m + 1 → YieldAt F (n - 1) Try.prog l #[.int .i64 (x.1.1 : Int), .int .i64 x.1.2] W fun e W' =>
      (e = .returned (.bool true) ∧ J (pre ++ [x]) W' ∧ KpR n₀ Bs gb (m + 1) W W') ∨ (e = .returned (.bool false) ∧ Jx (pre ++ [x]) W'))
    (W : World) (hBs : W.cell? ⟨Bs, 0, none⟩ = some (.slice (some ⟨gb, 0, none⟩) (m + 1) cap)) (hr : IsRow gb (m + 1) W) (h0 : J [] W) :
    CallsIn F n Try.prog 90 #[.func (.yield l) #[] #[], .pointer (some ⟨Bs, 0, none⟩)] W fun e W' => (∃ v, e = .returned v) ∧
      ((∃ ys : List (Pl (m + 1)), ys.map (fun x => x.1.1) = (List.range (m + 1)).reverse ∧ J ys W') ∨ (∃ pre : List (Pl (m + 1)), (∃ k, k < m + 1 ∧ pre.map (fun x => x.1.1) = (List.range (m + 1)).reverse.take (k + 1)) ∧ Jx pre W')) := by
  refine callsIn_of_wp Try.func90 rfl h7 ?_ hro
  simp only [Try.ntmps90, List.size_toArray, List.length_cons, List.length_nil, Nat.reduceAdd, Nat.reduceSub, Array.replicate_succ, Array.replicate_zero, List.push_toArray, List.append_toArray, List.nil_append, List.cons_append]
  have hm' : (m : Int) ≤ 3999999 := by omega
  gi_wp2
  gi_loopw [3] (fun i wr => ∃ (k r : Nat) (pre : List (Pl (m + 1))), k + r = m + 1 ∧ ((r = 0 ∧ i = .int .i64 (-1)) ∨ ∃ j : Nat, r = j + 1 ∧ i = .int .i64 (j : Int)) ∧ pre.map (fun x => x.1.1) = (List.range (m + 1)).reverse.take k ∧ J pre wr ∧ KpR n₀ Bs gb (m + 1) W wr)
    (fun i _ => (intOf i + 1).toNat)
  case atStart => exact ⟨0, m + 1, [], by omega, .inr ⟨m, rfl, rfl⟩, rfl, h0, KpR.refl _ _ _ _ _⟩
  case round =>
    obtain ⟨k, r, pre, hkr, hir, hpre, hJs, hnx⟩ := hrel
    rcases hir with ⟨rfl, rfl⟩ | ⟨j, rfl, rfl⟩
    · obtain rfl : k = m + 1 := by omega
      have hS : pre.map (fun x => x.1.1) = (List.range (m + 1)).reverse := by rw [hpre, List.take_of_length_le (by simp)]
      have HS := Lib.hid hS
      clear hS hpre
      gi_wp2
      go_end0
      exact ⟨⟨_, rfl⟩, .inl ⟨_, HS.out.trans (by simp [List.range_succ]), hJs⟩⟩
    · have hjm : j < m + 1 := by omega
      obtain ⟨f, hf⟩ := hnx.2.2 hr
      have hcx : wr.cell? ⟨gb, j, none⟩ = some (.int .i64 (f j)) := (Lib.cell_of_heap hf j).trans (rowF_get _ _ _ hjm)
      have hbx := hnx.box.trans hBs
      have hj' : (j : Int) ≤ 3999999 := by omega
      have hlen : pre.length < m + 1 := by
        have := congrArg List.length hpre
        simp at this
        omega
      obtain ⟨fn, tmps, assign, body, hy, hR⟩ := hY pre ⟨(j, f j), hjm⟩ wr hJs hlen
      have PN : Hid ((pre ++ [(⟨(j, f j), hjm⟩ : Pl (m + 1))]).map (fun x => x.1.1) = (List.range (m + 1)).reverse.take (k + 1)) := Lib.hid (by
        rw [List.map_append, hpre, pl_snoc hkr]; rfl)
      dsimp only at hy
      clear hpre hf
      gi_wp2
      refine hR.mono ?_
      rintro e W3 (⟨rfl, hJ3, hk3⟩ | ⟨rfl, hJx3⟩)
      · cases j with
        | zero =>
          gi_wp2
          go_roundw
          case rel => exact ⟨k + 1, 0, _, by omega, .inl ⟨rfl, rfl⟩, PN.out, hJ3, hnx.trans hk3⟩
          case measure => simp [intOf]
        | succ j2 =>
          gi_wp2
          go_roundw
          case rel => exact ⟨k + 1, j2 + 1, _, by omega, .inr ⟨j2, rfl, by go_num⟩, PN.out, hJ3, hnx.trans hk3⟩
          case measure => simp [intOf]; omega
      · gi_wp2
        refine bodyPost_ret (results_none rfl _ _ _) rfl ?_
        exact ⟨⟨_, rfl⟩, .inr ⟨_, ⟨k, by omega, PN.out⟩, hJx3⟩⟩
theorem iback_any (a : Option Addr) (len cap : Nat) (w : World) :
    Calls Try.prog 54 #[.slice a len cap] w fun e w' => e = .returned (.func (.func 90) #[] #[.pointer (some ⟨w.heap.size, 0, none⟩)]) ∧ w' = w.alloc (.cells #[.slice a len cap] 65) := by
  go_enter Try.func54, Try.ntmps54
  go_wp2
  go_ret
  exact ⟨rfl, rfl⟩
/-- ALL PLACES COME, the last one first; or the first ones of these. -/
theorem iback_stops (F : Fence) (n : Nat) (h7 : F.fn 90) (hro : F.round = none) (hn : 1 ≤ n) (Bs n₀ gb len cap : Nat) (hreach : len ≤ 4000000) (w : World) (hBs : Bs < w.heap.size)
    (hc : w.cell? ⟨Bs, 0, none⟩ = some (.slice (some ⟨gb, 0, none⟩) len cap)) (hgb : gb < w.heap.size) (hr : IsRow gb len w) :
    SeqStopsK F n Try.prog 90 #[.pointer (some ⟨Bs, 0, none⟩)] (fun x : Pl len => #[Value.int .i64 (x.1.1 : Int), Value.int .i64 x.1.2]) (KpR n₀ Bs gb len) (fun ys => ys.map (fun x => x.1.1) = (List.range len).reverse) (fun pre => ∃ k, k < len ∧ pre.map (fun x => x.1.1) = (List.range len).reverse.take (k + 1)) len w := fun L J Jx W hW _ _ hY h0 => by
  have hc' := (hW.cell (p := ⟨Bs, 0, none⟩) hBs).trans hc
  have hr' : IsRow gb len W := by
    obtain ⟨f, hf⟩ := hr
    exact ⟨f, (hW.block _ hgb).trans hf⟩
  cases len with
  | zero => exact (iback0_in F n h7 hro L Bs _ _ J W hc' h0).mono fun e W' ⟨he, hj⟩ => ⟨he, .inl ⟨[], rfl, hj⟩⟩
  | succ m => exact iback1_in F n h7 hro hn L Bs n₀ gb m cap (by omega) J Jx hY W hc' hr' h0
end Go.Proofs.Ytdcphheeapmjcaa
