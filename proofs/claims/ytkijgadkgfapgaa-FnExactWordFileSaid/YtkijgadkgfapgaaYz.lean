/-
  CONTRACTS: a point in eight bytes, by both sides.
-/
import Derived.Test.YtkijgadkgfapgaaGab
import Derived.Test.YtkijgadkgfapgaaYn
namespace Go.Proofs.Ytkijgadkgfapgaa
open Go.ChangeShapes Go.WideShapes Go.ChangeAt Go.RowKit
theorem pk_info (A : Array Value) (h : A.size = 8) : (Try.prog.info? 156).map (·.size) = some A.size := by rw [h]; kernel_rfl
/-- the first bytes, zeros behind them -/
def fP (f : Nat → Int) (k : Nat) : Nat → Int := fun j => if j < k then f j else 0
theorem fP_next (f : Nat → Int) (k : Nat) : updI (fP f k) k (f k) = fP f (k + 1) := by
  funext j
  unfold updI fP
  by_cases h : j = k
  · subst h; rw [if_pos rfl, if_pos (by omega)]
  · rw [if_neg h]
    by_cases h2 : j < k
    · rw [if_pos h2, if_pos (by omega)]
    · rw [if_neg h2, if_neg (by omega)]
theorem fP_all (f : Nat → Int) : arr .u8 8 (fP f 8) = arr .u8 8 f := arr_congr fun i hi => by unfold fP; rw [if_pos hi]
set_option maxRecDepth 20000 in
set_option maxHeartbeats 4000000 in
theorem l09Point_any (a : Option Addr) (n cap : Nat) (f : Nat → Int) (hn : 8 ≤ n) (hf : ∀ i, i < 8 → 0 ≤ f i ∧ f i ≤ 255) (w : World) (h : YrR w.heap.size w a n f) :
    Calls Try.prog 71 #[.slice a n cap] w fun e w' => e = .returned (.tuple #[.complex .f32 (reB f) (imB f), .bool (okB f)]) ∧ Below w.heap.size w w' := by
  rcases h with h | ⟨g, off, rfl, hg, hc⟩
  · omega
  obtain ⟨w1, hw1⟩ : ∃ x, w.alloc (.cells (arr .u8 8 (fP f 0)) 156) = x := ⟨_, rfl⟩
  have K1 : Hid (w1.heap[w.heap.size]? = some (.cells (arr .u8 8 (fP f 0)) 156 (0, 0))) := Lib.hid (by rw [← hw1]; exact World.alloc_heap_new w _)
  have B1 : Hid (Below w.heap.size w w1) := Lib.hid (by rw [← hw1]; exact (Below.refl _ _).alloc (Nat.le_refl _) _)
  have E8 : Hid (arr .u8 8 (fP f 0) = #[Value.int .u8 0, Value.int .u8 0, Value.int .u8 0, Value.int .u8 0, Value.int .u8 0, Value.int .u8 0, Value.int .u8 0, Value.int .u8 0]) := Lib.hid rfl
  have SS : Hid (w1.setRow w.heap.size #[Value.int .u8 0, Value.int .u8 0, Value.int .u8 0, Value.int .u8 0, Value.int .u8 0, Value.int .u8 0, Value.int .u8 0, Value.int .u8 0] = w1) := Lib.hid (by rw [← E8.out]; exact setRow_self _ _ _ _ _ K1.out)
  have hw1' : w.alloc (.cells #[Value.int .u8 0, Value.int .u8 0, Value.int .u8 0, Value.int .u8 0, Value.int .u8 0, Value.int .u8 0, Value.int .u8 0, Value.int .u8 0] 156) = w1 := by rw [← hw1, ← E8.out]
  have CF : Hid (∀ W, Below w.heap.size w W → ∀ j, j < 8 → W.cell? ⟨g, off + j, none⟩ = some (.int .u8 (f j))) := Lib.hid fun W hW j hj => (Below.cell (p := ⟨g, off + j, none⟩) hW hg).trans (hc j (by omega))
  have NX : Hid (∀ k, updI (fP f k) k (f k) = fP f (k + 1)) := Lib.hid (fP_next f)
  have FA : Hid (arr .u8 8 (fP f 8) = arr .u8 8 f) := Lib.hid (fP_all f)
  have LF := Lib.hid (l02FromKey_any f hf)
  have K1' : Hid (w1.heap[w.heap.size]? = some (.cells #[Value.int .u8 0, Value.int .u8 0, Value.int .u8 0, Value.int .u8 0, Value.int .u8 0, Value.int .u8 0, Value.int .u8 0, Value.int .u8 0] 156 (0, 0))) := Lib.hid (by rw [← E8.out]; exact K1.out)
  clear hc hf hw1 E8
  go_enter Try.func71, Try.ntmps71
  go_wp2_with (refine wpList_store_row rfl 156 _ _ rfl w.heap.size _ rfl rfl 156 _ K1'.out (pk_info _ rfl) rfl (by simp [Value.oneCell']) ?_; rw [SS.out])
  clear hw1' K1' SS
  generalize fP f = F at K1 NX FA
  go_loopw [5] (fun vi wr => ∃ k : Nat, k ≤ 8 ∧ vi = .int .i64 (k : Int) ∧ Hid (wr.heap[w.heap.size]? = some (.cells (arr .u8 8 (F k)) 156 (0, 0))) ∧ Hid (Below w.heap.size w wr)) (fun vi _ => 8 - (intOf vi).toNat)
  case atStart => exact ⟨0, by omega, rfl, K1, B1⟩
  case round =>
    obtain ⟨k, hk, rfl, hR, hB⟩ := hrel
    by_cases hlt : k < 8
    · have tk : (k : Int) < 8 := by omega
      have tn : (k : Int) < (n : Int) := by omega
      have HL := Lib.hid hlt
      have c0 := CF.out wr hB.out k hlt
      have d0 : wr.cell? ⟨w.heap.size, k, none⟩ = some (.int .u8 (F k k)) := (Lib.cell_of_heap hR.out k).trans (arr_get _ _ _ _ hlt)
      have f0 : wr.frozen? ⟨w.heap.size, k, none⟩ = false := Lib.frozen_of_heap hR.out k
      generalize F k k = x at d0
      go_wp2
      go_roundw
      case rel => exact ⟨k + 1, by have := HL.out; omega, by go_num, Lib.hid (by rw [fset_at hR.out, arr_set _ _ _ _ _ HL.out, NX.out]), Lib.hid (hB.out.setCell (p := ⟨w.heap.size, _, none⟩) (Nat.le_refl _) _)⟩
      case measure => have := HL.out; simp [intOf]; omega
    · obtain rfl : k = 8 := by omega
      have R : Hid (wr.heap[w.heap.size]? = some (.cells (arr .u8 8 f) 156 (0, 0))) := Lib.hid (by rw [← FA.out]; exact hR.out)
      have AS : Hid ((arr .u8 8 f).size = 8) := Lib.hid (arr_size _ _ _)
      generalize arr .u8 8 f = A at R AS LF
      clear hR K1 FA
      go_wp2_with (refine wpList_load_row rfl 156 _ rfl w.heap.size rfl 156 _ _ _ R.out Try.underlying156 rfl (pk_info _ AS.out) ?_)
      refine (LF.out _).mono ?_
      rintro e w2 ⟨rfl, b⟩
      have B2 := Lib.hid (hB.out.trans (b.mono hB.out.size))
      clear b
      go_wp2
      exact bodyPost_ret (v := .tuple #[.complex .f32 (reB f) (imB f), .bool (okB f)]) (by simp [results, Try.results71, go_sem]) rfl ⟨rfl, B2.out⟩
theorem wpList_load_partq {P : Program} {ops : Array Oper} {rest : List Oper} {o : Oper} {a : Act} {w : World} {Q : Exit → Act → World → Prop} (hw : Region.wanted o (yielded ops a.tmps) = true) (ty : TypeId) (x : Operand) (ho : o.op = .load ty x)
    (g off : Nat) (hx : a.eval x = .pointer (some ⟨g, off, none⟩)) (cs : Array Value) (d : TypeDesc) (hc : ∀ j v, cs[j]? = some v → w.cell? ⟨g, off + j, none⟩ = some v)
    (hu : P.underlying ty = some d) (hd : (match d with | .struct _ | .array _ _ => true | _ => false) = true) (hi : (P.info? ty).map (·.size) = some cs.size)
    (h : wpList P ops Q rest (a.put o.dst (.agg cs)) w) : wpList P ops Q (o :: rest) a w := by
  unfold wpList
  rw [if_pos hw]
  left
  unfold Oper.wp execOp
  simp only [ho, hx, Instr.loadAt, Instr.sureAddr, Sem.run_bind, Sem.run_pure, Result.andThen_ok, run_loadVar_part w g off ty cs d hc hu hd hi]
  exact h
set_option maxRecDepth 20000 in
set_option maxHeartbeats 4000000 in
theorem readPoint_any (a : Option Addr) (n cap : Nat) (f : Nat → Int) (hn : 8 ≤ n) (hf : ∀ i, i < 8 → 0 ≤ f i ∧ f i ≤ 255) (w : World) (h : YrR w.heap.size w a n f) :
    Calls Try.prog 73 #[.slice a n cap] w fun e w' => e = .returned (if okB f then .tuple #[.complex .f32 (reB f) (imB f), .int .i64 0] else .tuple #[.complex .f32 0 0, .int .i64 2]) ∧ Below w.heap.size w w' := by
  rcases h with h | ⟨g, off, rfl, hg, hc⟩
  · omega
  have CF : Hid (∀ j v, (arr .u8 8 f)[j]? = some v → w.cell? ⟨g, off + j, none⟩ = some v) := Lib.hid fun j v hj => by
    have h8 : j < 8 := by
      have := (Array.getElem?_eq_some_iff.1 hj).1
      rwa [arr_size] at this
    rw [arr_get _ _ _ _ h8] at hj
    rw [← hj]
    exact hc j (by omega)
  have LF := Lib.hid (implFromKey_any f hf)
  have AS : Hid ((arr .u8 8 f).size = 8) := Lib.hid (arr_size _ _ _)
  generalize arr .u8 8 f = A at CF AS LF
  have hat := fun W => run_arrayAtF (P := Try.prog) 156 _ 8 (some ⟨g, off, none⟩) n cap Try.underlying156 hn W
  clear hc hf
  cases hok : okB f
  all_goals
    have lf := LF.out
    rw [hok] at lf
    simp only [if_true, Bool.false_eq_true, if_false] at lf ⊢
    have LF2 := Lib.hid lf
    clear lf
    go_enter Try.func73, Try.ntmps73
    go_wp2_with (refine wpList_load_partq rfl 156 _ rfl g off rfl A _ CF.out Try.underlying156 rfl (pk_info _ AS.out) ?_)
    refine (LF2.out _).mono ?_
    rintro e w2 ⟨rfl, b⟩
    have B2 := Lib.hid b
    clear b
    go_wp2
    go_ret2
    exact ⟨rfl, B2.out⟩
end Go.Proofs.Ytkijgadkgfapgaa
