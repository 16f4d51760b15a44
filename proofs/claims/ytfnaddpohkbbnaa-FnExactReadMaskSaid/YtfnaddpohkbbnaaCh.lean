/-
  CONTRACT: slices.Chunk at 272 bytes, 17 at a time: what comes in a range over it.
-/
import Derived.Test.YtfnaddpohkbbnaaRk
import Derived.Test.YtfnaddpohkbbnaaQr
import Derived.RangeFuncBox
import Derived.RangeFuncLeaves
import Derived.RangeFuncNested
import Derived.RangeFuncCalls
import Derived.Shelf.Abstract
import Derived.OwnWalkIn
import Derived.TacticsInMore
import Derived.LoopNIn
import Derived.LoopIn
namespace Go.Proofs.Ytfnaddpohkbbnaa
open Go.ChangeShapes Go.WideShapes Go.ChangeAt Go.RowKit Go.Shelf
attribute [local go_sem] Oper.semAt_some
/-- the number of a chunk -/
abbrev Ck := { j : Nat // j < 16 }
def ckAt (k : Nat) : Ck := ⟨k % 16, by omega⟩
def ckK (k : Nat) : List Ck := (List.range k).map ckAt
theorem ckK_succ {k : Nat} (h : k < 16) : ckK (k + 1) = ckK k ++ [⟨k, h⟩] := by
  unfold ckK
  rw [List.range_succ, List.map_append]
  congr 1
  show [ckAt k] = _
  congr 1
  exact Subtype.ext (Nat.mod_eq_of_lt h)
theorem ckK_len (k : Nat) : (ckK k).length = k := by simp [ckK]
abbrev ckV (g : Nat) (c : Ck) : Array Value := #[Value.slice (some ⟨g, 17 * c.1, none⟩) 17 17]
/-- the blocks B and B' lie as they lay -/
def KpC (B B' : Nat) (W W' : World) : Prop := W.heap.size ≤ W'.heap.size ∧ W'.heap[B]? = W.heap[B]? ∧ W'.heap[B']? = W.heap[B']?
theorem KpC.refl (B B' : Nat) (W : World) : KpC B B' W W := ⟨Nat.le_refl _, rfl, rfl⟩
theorem KpC.trans {B B' : Nat} {W W' W'' : World} (h : KpC B B' W W') (h' : KpC B B' W' W'') : KpC B B' W W'' := ⟨Nat.le_trans h.1 h'.1, h'.2.1.trans h.2.1, h'.2.2.trans h.2.2⟩
theorem KpC.put {B B' : Nat} {w : World} (hB : B < w.heap.size) (hB' : B' < w.heap.size) (W : World) (l : Nat) (o o' : Obj) (hl : w.heap.size ≤ l) (_ : W.heap[l]? = some o) (_ : o.isCells = false) (_ : o.isWalk = false) : KpC B B' W (W.putObj l o') :=
  ⟨by simp, World.putObj_heap_other (by omega), World.putObj_heap_other (by omega)⟩
theorem hmxC : Try.prog.follows .mixedOrders = true := by kernel_rfl
set_option maxRecDepth 100000 in
set_option maxHeartbeats 4000000 in
theorem chunk1_in (F : Fence) (hF : F = Fence.wide) (n : Nat) (hn : 1 ≤ n) (ll B1 B2 g cap : Nat) (hcap : 272 ≤ cap) (J Jx : List Ck → World → Prop) (hJa : ∀ pre W q, J pre W → J pre (W.drewN q))
    (hY : ∀ pre x W, J pre W → pre.length < 16 → YieldAt F (n - 1) Try.prog ll (ckV g x) W fun e W' =>
      (e = .returned (.bool true) ∧ J (pre ++ [x]) W' ∧ KpC B1 B2 W W') ∨ (e = .returned (.bool false) ∧ Jx (pre ++ [x]) W'))
    (W : World) (h1 : W.heap[B1]? = some (.cells #[.slice (some ⟨g, 0, none⟩) 272 cap] 29 (0, 0))) (h2 : W.heap[B2]? = some (.cells #[.int .i64 17] 3 (0, 0))) (h0 : J [] W) :
    CallsIn F n Try.prog 94 #[.func (.yield ll) #[] #[], .pointer (some ⟨B1, 0, none⟩), .pointer (some ⟨B2, 0, none⟩)] W fun e W' => (∃ v, e = .returned v) ∧
      ((∃ ys, ys = ckK 16 ∧ J ys W') ∨ (∃ pre, Jx pre W')) := by
  have h7 : F.fn 94 := by rw [hF]; trivial
  have hro : F.round = none := by rw [hF]; rfl
  have JA := Lib.hid hJa
  have K1 := Lib.hid h1
  have K2 := Lib.hid h2
  have CZ : Hid (ckK 0 = []) := Lib.hid rfl
  clear hF hJa h1 h2
  have hcap' : (272 : Int) ≤ cap := by omega
  refine callsIn_of_wp Try.func94 rfl h7 ?_ hro
  simp only [Try.ntmps94, List.size_toArray, List.length_cons, List.length_nil, Nat.reduceAdd, Nat.reduceSub, Array.replicate_succ, Array.replicate_zero, List.push_toArray, List.append_toArray, List.nil_append, List.cons_append]
  gi_wp2
  gi_loopw [4, 5] (fun i _ wr => ∃ k : Nat, k ≤ 16 ∧ i = .int .i64 ((17 * k : Nat) : Int) ∧ J (ckK k) wr ∧ KpC B1 B2 W wr)
    (fun i _ _ => 272 - (intOf i).toNat)
  case atStart => exact ⟨0, by omega, rfl, by rw [CZ.out]; exact h0, KpC.refl _ _ _⟩
  case round =>
    obtain ⟨k, hk, rfl, hJ, hB⟩ := hrel
    have HB := Lib.hid hB
    have HJ := Lib.hid hJ
    clear hB hJ h0
    have c1 : wr.cell? ⟨B1, 0, none⟩ = some (.slice (some ⟨g, 0, none⟩) 272 cap) := Lib.cell_of_heap (HB.out.2.1.trans K1.out) 0
    have c2 : wr.cell? ⟨B2, 0, none⟩ = some (.int .i64 17) := Lib.cell_of_heap (HB.out.2.2.trans K2.out) 0
    by_cases hlt : k < 16
    · have HK := Lib.hid hlt
      obtain ⟨i, hi⟩ : ∃ i, 17 * k = i := ⟨_, rfl⟩
      rw [hi]
      have ti : (i : Int) < 272 := by omega
      have ti0 : (i : Int) + 17 ≤ 272 := by omega
      have ti1 : (17 : Int) ≤ 272 - (i : Int) := by omega
      have tm : min 17 ((272 - i : Nat) : Int) = 17 := by omega
      have tn : ((i : Int) + 17).toNat - i = 17 := by omega
      have HI := Lib.hid hi
      have VI : Hid (ckV g ⟨k, HK.out⟩ = #[.slice (some ⟨g, i, none⟩) 17 17]) := Lib.hid (by rw [← hi])
      clear hlt hk hi
      have hd : 1 ≤ n := hn
      gi_wp2
      refine wpIn_region_quiet_r hmxC (by kernel_rfl) ?_
      repeat (gi_big_quiet_step (fail))
      refine wpQuietIn_nil ?_
      intro _ hw'
      obtain ⟨q1, hw''⟩ := hw'
      subst hw''
      have d1 : (wr.drewN q1).cell? ⟨B1, 0, none⟩ = some (.slice (some ⟨g, 0, none⟩) 272 cap) := c1
      have d2 : (wr.drewN q1).cell? ⟨B2, 0, none⟩ = some (.int .i64 17) := c2
      have LN : Hid ((ckK k).length < 16) := Lib.hid (by rw [ckK_len]; exact HK.out)
      obtain ⟨fn, tmps, assign, body, hy', hYR⟩ := hY (ckK k) ⟨k, HK.out⟩ (wr.drewN q1) (JA.out _ _ _ HJ.out) LN.out
      rw [VI.out] at hy'
      have KD : Hid (KpC B1 B2 W (wr.drewN q1)) := Lib.hid HB.out
      clear c1 c2
      generalize wr.drewN q1 = W1 at d1 d2 hy' hYR KD ⊢
      gi_wp2
      refine hYR.mono ?_
      rintro e W3 (⟨rfl, hJ3, hk3⟩ | ⟨rfl, hJx3⟩)
      · have HJ3 : Hid (J (ckK (k + 1)) W3) := Lib.hid (by rw [ckK_succ HK.out]; exact hJ3)
        have HB3 := Lib.hid (KD.out.trans hk3)
        clear hJ3 hk3
        have d3 : W3.cell? ⟨B2, 0, none⟩ = some (.int .i64 17) := Lib.cell_of_heap (HB3.out.2.2.trans K2.out) 0
        gi_wp2
        go_roundw
        case rel => exact ⟨k + 1, HK.out, by have := HI.out; simp; omega, HJ3.out, HB3.out⟩
        case measure => have := HK.out; have := HI.out; simp [intOf]; omega
      · have NJ : Hid (∃ pre, Jx pre W3) := Lib.hid ⟨_, hJx3⟩
        clear hJx3
        gi_wp2
        refine bodyPost_ret (results_none rfl _ _ _) rfl ?_
        exact ⟨⟨_, rfl⟩, .inr NJ.out⟩
    · obtain rfl : k = 16 := by omega
      clear hlt hk
      gi_wp2
      go_end0
      exact ⟨⟨_, rfl⟩, .inl ⟨_, rfl, HJ.out⟩⟩
theorem chunk_any (a : Option Addr) (len cap : Nat) (w : World) :
    Calls Try.prog 57 #[.slice a len cap, .int .i64 17] w fun e w' => e = .returned (.func (.func 94) #[] #[.pointer (some ⟨w.heap.size, 0, none⟩), .pointer (some ⟨w.heap.size + 1, 0, none⟩)]) ∧ w' = (w.alloc (.cells #[.slice a len cap] 29)).alloc (.cells #[.int .i64 17] 3) := by
  go_enter Try.func57, Try.ntmps57
  go_wp2
  go_ret
  exact ⟨rfl, rfl⟩
/-- ALL CHUNKS COME, in their order. -/
theorem chunk_stops (F : Fence) (hF : F = Fence.wide) (n : Nat) (hn : 1 ≤ n) (B1 B2 g cap : Nat) (hcap : 272 ≤ cap) (w : World) (h1 : w.heap[B1]? = some (.cells #[.slice (some ⟨g, 0, none⟩) 272 cap] 29 (0, 0))) (h2 : w.heap[B2]? = some (.cells #[.int .i64 17] 3 (0, 0))) :
    SeqStopsK F n Try.prog 94 #[.pointer (some ⟨B1, 0, none⟩), .pointer (some ⟨B2, 0, none⟩)] (ckV g) (KpC B1 B2) (fun ys => ys = ckK 16) (fun _ => True) 16 w := fun L J Jx W hW hJ _ hY h0 => by
  have b1 : B1 < w.heap.size := (Array.getElem?_eq_some_iff.1 h1).1
  have b2 : B2 < w.heap.size := (Array.getElem?_eq_some_iff.1 h2).1
  refine (chunk1_in F hF n hn L B1 B2 g cap hcap J Jx (fun pre W q h => hJ _ _ _ none h ⟨rfl, rfl, rfl, Nat.le_refl _, fun _ _ _ => rfl⟩ (fun r e => by cases e)) hY W ((hW.block _ b1).trans h1) ((hW.block _ b2).trans h2) h0).mono ?_
  rintro e W' ⟨he, ⟨ys, rfl, hj⟩ | ⟨pre, hj⟩⟩
  · exact ⟨he, .inl ⟨_, rfl, hj⟩⟩
  · exact ⟨he, .inr ⟨_, trivial, hj⟩⟩
end Go.Proofs.Ytfnaddpohkbbnaa
