/-
  CONTRACT: slices.Chunk at bytes: what comes in a range over it, at any length and any size of the pieces.
-/
import Derived.Test.YthfmkejdpflpcaaGpa
import Derived.Test.YthfmkejdpflpcaaQr
import Derived.RangeFuncBox
import Derived.RangeFuncLeaves
import Derived.RangeFuncNested
import Derived.RangeFuncCalls
import Derived.RangeFuncWrites
import Derived.Shelf.Abstract
import Derived.OwnWalkIn
import Derived.TacticsInMore
import Derived.LoopNIn
import Derived.LoopIn
namespace Go.Proofs.Ythfmkejdpflpcaa
open Go.ChangeShapes Go.WideShapes Go.ChangeAt Go.RowKit Go.Shelf
attribute [local go_sem] Oper.semAt_some
/-- the number of a piece -/
abbrev Cm (m : Nat) := { j : Nat // j < m }
def cmL (m k : Nat) : List (Cm m) := (List.range k).filterMap fun j => if h : j < m then some ⟨j, h⟩ else none
theorem cmL_succ {m k : Nat} (h : k < m) : cmL m (k + 1) = cmL m k ++ [⟨k, h⟩] := by
  unfold cmL
  rw [List.range_succ, List.filterMap_append]
  congr 1
  simp [h]
theorem cmL_len {m : Nat} : ∀ {k : Nat}, k ≤ m → (cmL m k).length = k
  | 0, _ => rfl
  | k + 1, h => by rw [cmL_succ (by omega), List.length_append, cmL_len (by omega)]; rfl
/-- how long the piece at a place is -/
def pcL (s n i : Nat) : Nat := min s (n - i)
abbrev cmV (s n g off : Nat) (m : Nat) (c : Cm m) : Array Value := #[Value.slice (some ⟨g, off + s * c.1, none⟩) (pcL s n (s * c.1)) (pcL s n (s * c.1))]
/-- the blocks B and B' lie as they lay -/
def KpD (B B' : Nat) (W W' : World) : Prop := W.heap.size ≤ W'.heap.size ∧ W'.heap[B]? = W.heap[B]? ∧ W'.heap[B']? = W.heap[B']?
theorem KpD.refl (B B' : Nat) (W : World) : KpD B B' W W := ⟨Nat.le_refl _, rfl, rfl⟩
theorem KpD.trans {B B' : Nat} {W W' W'' : World} (h : KpD B B' W W') (h' : KpD B B' W' W'') : KpD B B' W W'' := ⟨Nat.le_trans h.1 h'.1, h'.2.1.trans h.2.1, h'.2.2.trans h.2.2⟩
theorem KpD.put {B B' : Nat} {w : World} (hB : B < w.heap.size) (hB' : B' < w.heap.size) (W : World) (l : Nat) (o o' : Obj) (hl : w.heap.size ≤ l) (_ : W.heap[l]? = some o) (_ : o.isCells = false) (_ : o.isWalk = false) : KpD B B' W (W.putObj l o') :=
  ⟨by simp, World.putObj_heap_other (by omega), World.putObj_heap_other (by omega)⟩
theorem hmxD : Try.prog.follows .mixedOrders = true := by kernel_rfl
set_option maxRecDepth 100000 in
set_option maxHeartbeats 4000000 in
theorem chunkG_in (F : Fence) (hF : F = Fence.wide) (n : Nat) (hn : 1 ≤ n) (ll B1 B2 s m len cap : Nat) (a : Option Addr) (g off : Nat) (hs : 1 ≤ s) (hs2 : s ≤ 1000) (hlen : len ≤ 100000000) (hcap : len ≤ cap) (hcap2 : cap ≤ 9223372036854775807) (hm1 : s * m < len + s) (hm2 : len ≤ s * m) (ha : 0 < len → a = some ⟨g, off, none⟩) (J Jx : List (Cm m) → World → Prop) (hJa : ∀ pre W q, J pre W → J pre (W.drewN q))
    (hY : ∀ pre x W, J pre W → pre.length < m → YieldAt F (n - 1) Try.prog ll (cmV s len g off m x) W fun e W' =>
      (e = .returned (.bool true) ∧ J (pre ++ [x]) W' ∧ KpD B1 B2 W W') ∨ (e = .returned (.bool false) ∧ Jx (pre ++ [x]) W'))
    (W : World) (h1 : W.heap[B1]? = some (.cells #[.slice a len cap] 95 (0, 0))) (h2 : W.heap[B2]? = some (.cells #[.int .i64 (s : Int)] 3 (0, 0))) (h0 : J [] W) :
    CallsIn F n Try.prog 176 #[.func (.yield ll) #[] #[], .pointer (some ⟨B1, 0, none⟩), .pointer (some ⟨B2, 0, none⟩)] W fun e W' => (∃ v, e = .returned v) ∧
      ((∃ ys, ys = cmL m m ∧ J ys W') ∨ (∃ pre, Jx pre W')) := by
  have h7 : F.fn 176 := by rw [hF]; trivial
  have hro : F.round = none := by rw [hF]; rfl
  have JA := Lib.hid hJa
  have K1 := Lib.hid h1
  have K2 := Lib.hid h2
  have CZ : Hid (cmL m 0 = []) := Lib.hid rfl
  have HA := Lib.hid ha
  have HM : Hid (s * m < len + s ∧ len ≤ s * m) := Lib.hid ⟨hm1, hm2⟩
  have HC := Lib.hid hcap
  have HS : Hid (1 ≤ s ∧ s ≤ 1000) := Lib.hid ⟨hs, hs2⟩
  have HLN := Lib.hid hlen
  clear hF hJa h1 h2 ha hm1 hm2 hs hs2 hlen
  have hcap' : (len : Int) ≤ cap := by omega
  clear hcap
  refine callsIn_of_wp Try.func176 rfl h7 ?_ hro
  simp only [Try.ntmps176, List.size_toArray, List.length_cons, List.length_nil, Nat.reduceAdd, Nat.reduceSub, Array.replicate_succ, Array.replicate_zero, List.push_toArray, List.append_toArray, List.nil_append, List.cons_append]
  gi_wp2
  gi_loopw [4, 5] (fun i _ wr => ∃ k : Nat, k ≤ m ∧ i = .int .i64 ((s * k : Nat) : Int) ∧ J (cmL m k) wr ∧ KpD B1 B2 W wr)
    (fun i _ _ => len + s - (intOf i).toNat)
  case atStart => exact ⟨0, by omega, rfl, by rw [CZ.out]; exact h0, KpD.refl _ _ _⟩
  case round =>
    obtain ⟨k, hk, rfl, hJ, hB⟩ := hrel
    have HB := Lib.hid hB
    have HJ := Lib.hid hJ
    clear hB hJ h0
    have c1 : wr.cell? ⟨B1, 0, none⟩ = some (.slice a len cap) := Lib.cell_of_heap (HB.out.2.1.trans K1.out) 0
    have c2 : wr.cell? ⟨B2, 0, none⟩ = some (.int .i64 (s : Int)) := Lib.cell_of_heap (HB.out.2.2.trans K2.out) 0
    by_cases hlt : k < m
    · have HK := Lib.hid hlt
      have hsk : s * k + s ≤ s * m := by rw [← Nat.mul_succ]; exact Nat.mul_le_mul_left _ hlt
      obtain ⟨i, hi⟩ : ∃ i, s * k = i := ⟨_, rfl⟩
      have hil : i < len := by have := HM.out; omega
      obtain rfl := HA.out (by omega)
      rw [hi]
      have ti : (i : Int) < (len : Int) := by omega
      obtain ⟨L, hL⟩ : ∃ L, pcL s len i = L := ⟨_, rfl⟩
      have hL1 : L ≤ s ∧ L ≤ len - i ∧ (s ≤ len - i → L = s) ∧ (len - i ≤ s → L = len - i) := by rw [← hL]; unfold pcL; omega
      have tmE : Hid ((if len - i < s then ((len - i : Nat) : Int) else (s : Int)) = (L : Int)) := Lib.hid (by split <;> omega)
      have tlen : (i : Int) + (L : Int) ≤ (len : Int) := by omega
      have tcap : (i : Int) + (L : Int) ≤ (cap : Int) := by omega
      have tn : ((i : Int) + (L : Int)).toNat - i = L := by omega
      have HI := Lib.hid hi
      have VI : Hid (cmV s len g off m ⟨k, HK.out⟩ = #[.slice (some ⟨g, off + i, none⟩) L L]) := Lib.hid (by unfold cmV; simp only [hi, hL])
      have sI0 : (1 : Int) ≤ (s : Int) ∧ (s : Int) ≤ 1000 := by have := HS.out; omega
      have lnI : (len : Int) ≤ 100000000 := by have := HLN.out; omega
      have ncap : ¬ cap = i := by have := HC.out; omega
      have LI : (L : Int) ≤ 1000 := by omega
      have LP : ¬ L = 0 := by have := HS.out; omega
      have LP2 : (1 : Int) ≤ (L : Int) := by omega
      clear hlt hk hi hsk hil hL hL1
      have hd : 1 ≤ n := hn
      gi_wp2
      refine wpIn_region_quiet_r hmxD (by kernel_rfl) ?_
      repeat (gi_big_quiet_step (fail))
      rw [tmE.out]
      refine wpQuietIn_nil ?_
      intro _ hw'
      obtain ⟨q1, hw''⟩ := hw'
      subst hw''
      have d1 : (wr.drewN q1).cell? ⟨B1, 0, none⟩ = some (.slice (some ⟨g, off, none⟩) len cap) := c1
      have d2 : (wr.drewN q1).cell? ⟨B2, 0, none⟩ = some (.int .i64 (s : Int)) := c2
      have LN : Hid ((cmL m k).length < m) := Lib.hid (by rw [cmL_len (Nat.le_of_lt HK.out)]; exact HK.out)
      obtain ⟨fn, tmps, assign, body, hy', hYR⟩ := hY (cmL m k) ⟨k, HK.out⟩ (wr.drewN q1) (JA.out _ _ _ HJ.out) LN.out
      rw [VI.out] at hy'
      have KD : Hid (KpD B1 B2 W (wr.drewN q1)) := Lib.hid HB.out
      clear c1 c2
      generalize wr.drewN q1 = W1 at d1 d2 hy' hYR KD ⊢
      gi_wp2
      refine hYR.mono ?_
      rintro e W3 (⟨rfl, hJ3, hk3⟩ | ⟨rfl, hJx3⟩)
      · have HJ3 : Hid (J (cmL m (k + 1)) W3) := Lib.hid (by rw [cmL_succ HK.out]; exact hJ3)
        have HB3 := Lib.hid (KD.out.trans hk3)
        clear hJ3 hk3
        have d3 : W3.cell? ⟨B2, 0, none⟩ = some (.int .i64 (s : Int)) := Lib.cell_of_heap (HB3.out.2.2.trans K2.out) 0
        gi_wp2
        go_roundw
        case rel => exact ⟨k + 1, HK.out, by have := HI.out; rw [Nat.mul_succ, this]; push_cast; rfl, HJ3.out, HB3.out⟩
        case measure => have := HK.out; have := HI.out; have := HS.out; simp [intOf]; omega
      · have NJ : Hid (∃ pre, Jx pre W3) := Lib.hid ⟨_, hJx3⟩
        clear hJx3
        gi_wp2
        refine bodyPost_ret (results_none rfl _ _ _) rfl ?_
        exact ⟨⟨_, rfl⟩, .inr NJ.out⟩
    · obtain rfl : k = m := by omega
      clear hlt hk
      have tnn : ¬ ((s * k : Nat) : Int) < (len : Int) := by have := HM.out; omega
      obtain ⟨i, hi⟩ : ∃ i, s * k = i := ⟨_, rfl⟩
      rw [hi] at tnn ⊢
      have tge : (len : Int) ≤ (i : Int) := by omega
      clear tnn
      gi_wp2
      go_end0
      exact ⟨⟨_, rfl⟩, .inl ⟨_, rfl, HJ.out⟩⟩
theorem chunkG_any (a : Option Addr) (len cap s : Nat) (hs : 1 ≤ s) (w : World) :
    Calls Try.prog 145 #[.slice a len cap, .int .i64 (s : Int)] w fun e w' => e = .returned (.func (.func 176) #[] #[.pointer (some ⟨w.heap.size, 0, none⟩), .pointer (some ⟨w.heap.size + 1, 0, none⟩)]) ∧ w' = (w.alloc (.cells #[.slice a len cap] 95)).alloc (.cells #[.int .i64 (s : Int)] 3) := by
  have hs' : (1 : Int) ≤ (s : Int) := by omega
  clear hs
  go_enter Try.func145, Try.ntmps145
  go_wp2
  go_ret
  exact ⟨rfl, rfl⟩
/-- ALL PIECES COME, in their order. -/
theorem chunkG_stops (F : Fence) (hF : F = Fence.wide) (n : Nat) (hn : 1 ≤ n) (B1 B2 s m len cap : Nat) (a : Option Addr) (g off : Nat) (hs : 1 ≤ s) (hs2 : s ≤ 1000) (hlen : len ≤ 100000000) (hcap : len ≤ cap) (hcap2 : cap ≤ 9223372036854775807) (hm1 : s * m < len + s) (hm2 : len ≤ s * m) (ha : 0 < len → a = some ⟨g, off, none⟩) (w : World) (h1 : w.heap[B1]? = some (.cells #[.slice a len cap] 95 (0, 0))) (h2 : w.heap[B2]? = some (.cells #[.int .i64 (s : Int)] 3 (0, 0))) :
    SeqStopsK F n Try.prog 176 #[.pointer (some ⟨B1, 0, none⟩), .pointer (some ⟨B2, 0, none⟩)] (cmV s len g off m) (KpD B1 B2) (fun ys => ys = cmL m m) (fun _ => True) m w := fun L J Jx W hW hJ _ hY h0 => by
  have b1 : B1 < w.heap.size := (Array.getElem?_eq_some_iff.1 h1).1
  have b2 : B2 < w.heap.size := (Array.getElem?_eq_some_iff.1 h2).1
  refine (chunkG_in F hF n hn L B1 B2 s m len cap a g off hs hs2 hlen hcap hcap2 hm1 hm2 ha J Jx (fun pre W q h => hJ _ _ _ none h ⟨rfl, rfl, rfl, Nat.le_refl _, fun _ _ _ => rfl⟩ (fun r e => by cases e)) hY W ((hW.block _ b1).trans h1) ((hW.block _ b2).trans h2) h0).mono ?_
  rintro e W' ⟨he, ⟨ys, rfl, hj⟩ | ⟨pre, hj⟩⟩
  · exact ⟨he, .inl ⟨_, rfl, hj⟩⟩
  · exact ⟨he, .inr ⟨_, trivial, hj⟩⟩
end Go.Proofs.Ythfmkejdpflpcaa
