/-
  CONTRACT: slices.Backward at a row of letters: what comes in a range over it.
-/
import Derived.Test.YtdcphheeapmjcaaIsv
import Derived.RangeFuncNested
import Derived.RangeFuncCalls
namespace Go.Proofs.Ytdcphheeapmjcaa
open Go.ChangeShapes Go.WideShapes Go.ChangeAt Go.RowKit Go.Shelf
open Wd
attribute [local go_sem] Oper.semAt_some
/-- what comes at last of all first: with its place -/
def bkAt (z : Nat → Lt) (len k : Nat) : Int × Lt := (((len - 1 - k : Nat) : Int), z (len - 1 - k))
theorem bk_vals (l : List UInt8) (h : ∀ c ∈ l, isL c = true) {k : Nat} (hk : k ≤ l.length) : (upto (bkAt (ltAt l h) l.length) k).map (fun x => x.2.1) = l.reverse.take k := by
  apply List.ext_getElem
  · simp [upto, hk]
  · intro i h1 h2
    have h3 : i < l.length := by simp [upto] at h1; omega
    simp only [upto, List.map_map, List.getElem_map, List.getElem_range, Function.comp, bkAt, List.getElem_take, List.getElem_reverse]
    exact ltAt_val l h (by omega)
/-- what a round keeps: what lay below n₀, and the block Bs -/
def KpB (n₀ Bs : Nat) (W W' : World) : Prop := Below n₀ W W' ∧ W'.heap[Bs]? = W.heap[Bs]?
theorem KpB.refl (n₀ Bs : Nat) (W : World) : KpB n₀ Bs W W := ⟨Below.refl _ _, rfl⟩
theorem KpB.trans {n₀ Bs : Nat} {A B C : World} (h : KpB n₀ Bs A B) (k : KpB n₀ Bs B C) : KpB n₀ Bs A C := ⟨h.1.trans k.1, k.2.trans h.2⟩
theorem KpB.box {n₀ Bs : Nat} {A B : World} (h : KpB n₀ Bs A B) : B.cell? ⟨Bs, 0, none⟩ = A.cell? ⟨Bs, 0, none⟩ := by
  have h2 := h.2
  simp [World.cell?, h2]
theorem kpB_b {n₀ Bs m : Nat} (h1 : n₀ ≤ m) (h2 : Bs < m) (W : World) (l : Nat) (o o' : Obj) (hl : m ≤ l) (hg : W.heap[l]? = some o) (hc : o.isCells = false) (hw : o.isWalk = false) : KpB n₀ Bs W (W.putObj l o') :=
  ⟨(Below.refl n₀ W).grown (grownBy_putObj' W l o') (by have := (Array.getElem?_eq_some_iff.1 hg).1; omega) (fun k e => by cases e; omega), World.putObj_heap_other (by omega)⟩
set_option maxRecDepth 100000 in
set_option maxHeartbeats 1000000 in
theorem lback0_in (F : Fence) (n : Nat) (h7 : F.fn 117) (hro : F.round = none) (l Bs : Nat) (a : Option Addr) (cap : Nat) (J : List (Int × Lt) → World → Prop) (W : World) (hBs : W.cell? ⟨Bs, 0, none⟩ = some (.slice a 0 cap)) (h0 : J [] W) :
    CallsIn F n Try.prog 117 #[.func (.yield l) #[] #[], .pointer (some ⟨Bs, 0, none⟩)] W fun e W' => (∃ v, e = .returned v) ∧ J [] W' := by
  refine callsIn_of_wp Try.func117 rfl h7 ?_ hro
  simp only [Try.ntmps117, List.size_toArray, List.length_cons, List.length_nil, Nat.reduceAdd, Nat.reduceSub, Array.replicate_succ, Array.replicate_zero, List.push_toArray, List.append_toArray, List.nil_append, List.cons_append]
  gi_wp2
  gi_loopw [3] (fun i wr => i = .int .i64 (-1) ∧ J [] wr) (fun _ _ => 0)
  case atStart => exact ⟨rfl, h0⟩
  case round =>
    obtain ⟨rfl, hJs⟩ := hrel
    gi_wp2
    go_end0
    exact ⟨⟨_, rfl⟩, hJs⟩
set_option maxRecDepth 100000 in
set_option maxHeartbeats 2000000 in
theorem lback1_in (F : Fence) (n : Nat) (h7 : F.fn 117) (hro : F.round = none) (hn : 1 ≤ n) (l Bs n₀ b off m cap : Nat) (z : Nat → Lt) (hreach : m + 1 ≤ 4000000) (hb : b < n₀) (J Jx : List (Int × Lt) → World → Prop)
    (hY : ∀ pre x W, J pre W → pre.length < m + 1 → YieldAt F (n - 1) Try.prog l #[.int .i64 x.1, .int .u8 (lnum x.2.1)] W fun e W' =>
      (e = .returned (.bool true) ∧ J (pre ++ [x]) W' ∧ KpB n₀ Bs W W') ∨ (e = .returned (.bool false) ∧ Jx (pre ++ [x]) W'))
    (W : World) (hBs : W.cell? ⟨Bs, 0, none⟩ = some (.slice (some ⟨b, off, none⟩) (m + 1) cap)) (hc : ∀ j, j < m + 1 → W.cell? ⟨b, off + j, none⟩ = some (.int .u8 (lnum (z j).1))) (h0 : J [] W) :
    CallsIn F n Try.prog 117 #[.func (.yield l) #[] #[], .pointer (some ⟨Bs, 0, none⟩)] W fun e W' => (∃ v, e = .returned v) ∧
      ((∃ ys, ys = upto (bkAt z (m + 1)) (m + 1) ∧ J ys W') ∨ (∃ pre, (∃ k, k ≤ m + 1 ∧ pre = upto (bkAt z (m + 1)) k) ∧ Jx pre W')) := by
  refine callsIn_of_wp Try.func117 rfl h7 ?_ hro
  simp only [Try.ntmps117, List.size_toArray, List.length_cons, List.length_nil, Nat.reduceAdd, Nat.reduceSub, Array.replicate_succ, Array.replicate_zero, List.push_toArray, List.append_toArray, List.nil_append, List.cons_append]
  have hm' : (m : Int) ≤ 3999999 := by omega
  gi_wp2
  gi_loopw [3] (fun i wr => ∃ k r : Nat, k + r = m + 1 ∧ ((r = 0 ∧ i = .int .i64 (-1)) ∨ ∃ j : Nat, r = j + 1 ∧ i = .int .i64 (j : Int)) ∧ J (upto (bkAt z (m + 1)) k) wr ∧ KpB n₀ Bs W wr)
    (fun i _ => (intOf i + 1).toNat)
  case atStart => exact ⟨0, m + 1, by omega, .inr ⟨m, rfl, rfl⟩, h0, KpB.refl _ _ _⟩
  case round =>
    obtain ⟨k, r, hkr, hir, hJs, hnx⟩ := hrel
    rcases hir with ⟨rfl, rfl⟩ | ⟨j, rfl, rfl⟩
    · obtain rfl : k = m + 1 := by omega
      gi_wp2
      go_end0
      first | exact ⟨⟨_, rfl⟩, .inl hJs⟩ | exact ⟨⟨_, rfl⟩, .inl ⟨_, rfl, hJs⟩⟩
    · have hjm : j < m + 1 := by omega
      have hcx := (hnx.1.cell (p := ⟨b, off + j, none⟩) hb).trans (hc j hjm)
      have hbx := hnx.box.trans hBs
      have hj' : (j : Int) ≤ 3999999 := by omega
      have hz : bkAt z (m + 1) k = ((j : Int), z j) := by unfold bkAt; rw [show m + 1 - 1 - k = j by omega]
      obtain ⟨fn, tmps, assign, body, hy, hR⟩ := hY _ ((j : Int), z j) wr hJs (by rw [upto_length]; omega)
      dsimp only at hy
      gi_wp2
      refine hR.mono ?_
      rintro e W3 (⟨rfl, hJ3, hk3⟩ | ⟨rfl, hJx3⟩)
      · cases j with
        | zero =>
          gi_wp2
          go_roundw
          case rel => exact ⟨k + 1, 0, by omega, .inl ⟨rfl, rfl⟩, by rw [upto_succ, hz]; exact hJ3, hnx.trans hk3⟩
          case measure => simp [intOf]
        | succ j2 =>
          gi_wp2
          go_roundw
          case rel => exact ⟨k + 1, j2 + 1, by omega, .inr ⟨j2, rfl, by go_num⟩, by rw [upto_succ, hz]; exact hJ3, hnx.trans hk3⟩
          case measure => simp [intOf]; omega
      · gi_wp2
        refine bodyPost_ret (results_none rfl _ _ _) rfl ?_
        exact ⟨⟨_, rfl⟩, .inr ⟨_, ⟨k + 1, by omega, by rw [upto_succ, hz]⟩, hJx3⟩⟩
theorem lback_any (a : Option Addr) (len cap : Nat) (w : World) :
    Calls Try.prog 104 #[.slice a len cap] w fun e w' => e = .returned (.func (.func 117) #[] #[.pointer (some ⟨w.heap.size, 0, none⟩)]) ∧ w' = w.alloc (.cells #[.slice a len cap] 71) := by
  go_enter Try.func104, Try.ntmps104
  go_wp2
  go_ret
  exact ⟨rfl, rfl⟩
/-- ALL LETTERS COME, the last one first; or the first ones of these. -/
theorem lback_stops (F : Fence) (n : Nat) (h7 : F.fn 117) (hro : F.round = none) (hn : 1 ≤ n) (Bs n₀ : Nat) (sv : Value) (l : List UInt8) (hl : ∀ c ∈ l, isL c = true) (hreach : l.length ≤ 4000000) (w : World) (hBs : Bs < w.heap.size) (hn₀ : n₀ ≤ w.heap.size)
    (hc : w.cell? ⟨Bs, 0, none⟩ = some sv) (hI : LRow n₀ w sv l) :
    SeqStopsK F n Try.prog 117 #[.pointer (some ⟨Bs, 0, none⟩)] (fun x : Int × Lt => #[Value.int .i64 x.1, Value.int .u8 (lnum x.2.1)]) (KpB n₀ Bs) (fun ys => ys.map (fun x => x.2.1) = l.reverse) (fun _ => True) l.length w := fun L J Jx W hW _ _ hY h0 => by
  have hc' := (hW.cell (p := ⟨Bs, 0, none⟩) hBs).trans hc
  obtain ⟨a0, cap0, rfl⟩ := hI.len
  cases hln : l.length with
  | zero =>
    obtain rfl : l = [] := List.length_eq_zero_iff.1 hln
    exact (lback0_in F n h7 hro L Bs _ _ J W hc' h0).mono fun e W' ⟨he, hj⟩ => ⟨he, .inl ⟨_, rfl, hj⟩⟩
  | succ m =>
    rcases hI.below (hW.mono hn₀) with ⟨_, rfl⟩ | ⟨b, off, cap, e, hb, hcs⟩
    · cases hln
    · cases e
      rw [hln] at hc'
      rw [hln] at hY
      refine (lback1_in F n h7 hro hn L Bs n₀ b off m cap0 (ltAt l hl) (by omega) hb J Jx hY W hc' (fun j hj => by rw [ltAt_val l hl (by omega)]; exact hcs j (by omega)) h0).mono ?_
      rintro e W' ⟨he, ⟨ys, rfl, hj⟩ | ⟨pre, ⟨k, hk, rfl⟩, hj⟩⟩
      · refine ⟨he, .inl ⟨_, ?_, hj⟩⟩
        have := bk_vals l hl (Nat.le_refl _)
        rw [hln] at this
        exact this.trans (List.take_of_length_le (by simp [hln]))
      · exact ⟨he, .inr ⟨_, trivial, hj⟩⟩
end Go.Proofs.Ytdcphheeapmjcaa
