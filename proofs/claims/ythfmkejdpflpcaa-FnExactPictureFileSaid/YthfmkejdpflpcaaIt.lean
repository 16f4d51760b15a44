/-
  CONTRACT: (Mask).cells: what comes in a range over it.
-/
import Derived.Test.YthfmkejdpflpcaaGpc
import Derived.RangeFuncBox
import Derived.RangeFuncLeaves
import Derived.RangeFuncNested
import Derived.RangeFuncCalls
import Derived.Shelf.Abstract
import Derived.OwnWalkIn
import Derived.TacticsInMore
import Derived.LoopNIn
import Derived.LoopIn
namespace Go.Proofs.Ythfmkejdpflpcaa
open Go.ChangeShapes Go.WideShapes Go.ChangeAt Go.RowKit Go.Shelf
attribute [local go_sem] Oper.semAt_some
section
variable {F : Fence} {n : Nat} {P : Program}
theorem wpListIn_load_row {ops : Array Oper} {rest : List Oper} {o : Oper} {a : Act} {w : World} {Q : Exit → Act → World → Prop} (hgd : o.guard = none) (ty : TypeId) (x : Operand) (ho : o.op = .load ty x)
    (g : Nat) (hx : a.eval x = .pointer (some ⟨g, 0, none⟩)) (t : TypeId) (cs : Array Value) (fr : Nat × Nat) (d : TypeDesc) (hg : w.heap[g]? = some (.cells cs t fr))
    (hu : P.underlying ty = some d) (hd : (match d with | .struct _ | .array _ _ => true | _ => false) = true) (hi : (P.info? ty).map (·.size) = some cs.size)
    (h : wpListIn F n P ops Q rest (a.put o.dst (.agg cs)) w) : wpListIn F n P ops Q (o :: rest) a w := by
  refine wpListIn_plain hgd fun K hK' => ?_
  unfold Oper.wpIn
  refine ⟨?_, ?_⟩
  · simp [Oper.about, ho]
  · rw [Oper.semAt_plain F _ _ (by rw [ho]; intro c hc'; cases hc')]
    simp only [execOp, ho, hx, Instr.loadAt, Instr.sureAddr, Sem.run_bind, Sem.run_pure, Result.andThen_ok, run_loadVar_row w g t ty cs fr d hg hu hd hi]
    exact hK' _ _ h
theorem wpListIn_store_row {ops : Array Oper} {rest : List Oper} {o : Oper} {a : Act} {w : World} {Q : Exit → Act → World → Prop} (hgd : o.guard = none) (ty : TypeId) (x y : Operand) (ho : o.op = .store ty x y)
    (g : Nat) (cells : Array Value) (hx : a.eval x = .pointer (some ⟨g, 0, none⟩)) (hy : a.eval y = .agg cells)
    (t : TypeId) (old : Array Value) (hg : w.heap[g]? = some (.cells old t (0, 0))) (hi : (P.info? ty).map (·.size) = some cells.size)
    (hold : old.size = cells.size) (h1 : cells.all (·.oneCell') = true)
    (h : wpListIn F n P ops Q rest (a.put o.dst undef) (w.setRow g cells)) : wpListIn F n P ops Q (o :: rest) a w := by
  refine wpListIn_plain hgd fun K hK' => ?_
  unfold Oper.wpIn
  refine ⟨?_, ?_⟩
  · simp [Oper.about, ho]
  · rw [Oper.semAt_plain F _ _ (by rw [ho]; intro c hc'; cases hc')]
    simp only [execOp, ho, hx, hy, Instr.storeAt, Instr.sureAddr, Sem.run_bind, Sem.run_pure, Result.andThen_ok, run_storeVar_row w g t ty old cells hg hi hold h1]
    exact hK' _ _ h
end
/-- a cell of a mask -/
abbrev Cl := { p : Nat × Nat // p.1 < 16 ∧ p.2 < 16 }
def atC (k : Nat) : Cl := ⟨(k % 16, k / 16 % 16), by constructor <;> (simp; omega)⟩
theorem atC_eq {x y : Nat} (hx : x < 16) (hy : y < 16) : atC (16 * y + x) = ⟨(x, y), hx, hy⟩ := by
  apply Subtype.ext
  apply Prod.ext
  · show (16 * y + x) % 16 = x; omega
  · show (16 * y + x) / 16 % 16 = y; omega
/-- the set cells among the first k, row by row -/
def cellK (f : Nat → Int) (k : Nat) : List Cl := ((List.range k).map atC).filter fun c => hasF f c.1.1 c.1.2
abbrev cellL (f : Nat → Int) : List Cl := cellK f 256
theorem cellK_zero (f : Nat → Int) : cellK f 0 = [] := rfl
theorem cellK_len (f : Nat → Int) (k : Nat) : (cellK f k).length ≤ k := by
  have := List.length_filter_le (fun c : Cl => hasF f c.1.1 c.1.2) ((List.range k).map atC)
  simpa [cellK] using this
theorem cellK_yes {f : Nat → Int} {x y : Nat} (hx : x < 16) (hy : y < 16) (h : hasF f x y = true) : cellK f (16 * y + x + 1) = cellK f (16 * y + x) ++ [⟨(x, y), hx, hy⟩] := by
  unfold cellK
  rw [List.range_succ, List.map_append, List.filter_append]
  congr 1
  simp [atC_eq hx hy, h]
theorem cellK_no {f : Nat → Int} {x y : Nat} (hx : x < 16) (hy : y < 16) (h : hasF f x y = false) : cellK f (16 * y + x + 1) = cellK f (16 * y + x) := by
  unfold cellK
  rw [List.range_succ, List.map_append, List.filter_append]
  simp [atC_eq hx hy, h]
/-- the block B lies as it lay -/
def KpM (B : Nat) (W W' : World) : Prop := W.heap.size ≤ W'.heap.size ∧ W'.heap[B]? = W.heap[B]?
theorem KpM.refl (B : Nat) (W : World) : KpM B W W := ⟨Nat.le_refl _, rfl⟩
theorem KpM.trans {B : Nat} {W W' W'' : World} (h : KpM B W W') (h' : KpM B W' W'') : KpM B W W'' := ⟨Nat.le_trans h.1 h'.1, h'.2.trans h.2⟩
theorem KpM.alloc {B : Nat} {W W' : World} (h : KpM B W W') (hB : B < W'.heap.size) (o : Obj) : KpM B W (W'.alloc o) := ⟨by simp; have := h.1; omega, (Below.heap_alloc _ _ _ hB).trans h.2⟩
theorem KpM.put {B : Nat} {w : World} (hB : B < w.heap.size) (W : World) (l : Nat) (o o' : Obj) (hl : w.heap.size ≤ l) (_ : W.heap[l]? = some o) (_ : o.isCells = false) (_ : o.isWalk = false) : KpM B W (W.putObj l o') :=
  ⟨by simp, World.putObj_heap_other (by omega)⟩
abbrev clV (c : Cl) : Array Value := #[Value.int .i64 (c.1.1 : Int), .int .i64 (c.1.2 : Int)]
set_option maxRecDepth 100000 in
set_option maxHeartbeats 4000000 in
theorem mcells1_in (F : Fence) (hF : F = Fence.wide) (n : Nat) (hn : 1 ≤ n) (ll Bm : Nat) (f : Nat → Int) (hf : MB f) (J Jx : List Cl → World → Prop) (hJa : ∀ pre W o, J pre W → J pre (W.alloc o))
    (hY : ∀ pre x W, J pre W → pre.length < 256 → YieldAt F (n - 1) Try.prog ll (clV x) W fun e W' =>
      (e = .returned (.bool true) ∧ J (pre ++ [x]) W' ∧ KpM Bm W W') ∨ (e = .returned (.bool false) ∧ Jx (pre ++ [x]) W'))
    (W : World) (hBm : W.heap[Bm]? = some (.cells (M16 f) 71 (0, 0))) (h0 : J [] W) :
    CallsIn F n Try.prog 139 #[.func (.yield ll) #[] #[], .pointer (some ⟨Bm, 0, none⟩)] W fun e W' => (∃ v, e = .returned v) ∧
      ((∃ ys, ys = cellL f ∧ J ys W') ∨ (∃ pre, Jx pre W')) := by
  have h7 : F.fn 139 := by rw [hF]; trivial
  have h9 : F.fn 114 := by rw [hF]; trivial
  have hro : F.round = none := by rw [hF]; rfl
  have MH : Hid (∀ (x y : Nat), x < 16 → y < 16 → ∀ (w : World) (m : Nat), CallsIn F m Try.prog 114 #[.agg (M16 f), .int .i64 (x : Int), .int .i64 (y : Int)] w fun e w' => e = .returned (.bool (hasF f x y)) ∧ w' = w.alloc (.cells (M16 f) 71)) :=
    Lib.hid fun x y hx hy w m => by rw [hF]; exact callsIn_wide.2 (mhas_any f hf x y hx hy w)
  have JA := Lib.hid hJa
  have BM := Lib.hid hBm
  have CZ := Lib.hid (cellK_zero f)
  clear hF hf hBm hJa
  refine callsIn_of_wp Try.func139 rfl h7 ?_ hro
  simp only [Try.ntmps139, List.size_toArray, List.length_cons, List.length_nil, Nat.reduceAdd, Nat.reduceSub, Array.replicate_succ, Array.replicate_zero, List.push_toArray, List.append_toArray, List.nil_append, List.cons_append]
  gi_wp2
  gi_loopw [5] (fun i wr => ∃ y : Nat, y ≤ 16 ∧ i = .int .i64 y ∧ J (cellK f (16 * y)) wr ∧ KpM Bm W wr)
    (fun i _ => 16 - (intOf i).toNat)
  case atStart => exact ⟨0, by omega, rfl, by rw [CZ.out]; exact h0, KpM.refl _ _⟩
  case round =>
    obtain ⟨y, hy, rfl, hJ, hB⟩ := hrel
    have HB := Lib.hid hB
    have HJ := Lib.hid hJ
    clear hB hJ h0
    by_cases hlt : y < 16
    · have ty : (y : Int) < 16 := by omega
      have HY := Lib.hid hlt
      clear hlt hy
      gi_wp2
      gi_loopw [8] (fun i w2 => ∃ x : Nat, x ≤ 16 ∧ i = .int .i64 x ∧ J (cellK f (16 * y + x)) w2 ∧ KpM Bm W w2)
        (fun i _ => 16 - (intOf i).toNat)
      case atStart => exact ⟨0, by omega, rfl, HJ.out, HB.out⟩
      case round =>
        obtain ⟨x, hx, rfl, hJ2, hB2⟩ := hrel
        have HB2 := Lib.hid hB2
        have HJ2 := Lib.hid hJ2
        clear hB2 hJ2 HJ HB
        by_cases hlx : x < 16
        · have tx : (x : Int) < 16 := by omega
          have HX := Lib.hid hlx
          have MH2 := Lib.hid (MH.out x y hlx HY.out)
          have RW : Hid (wr.heap[Bm]? = some (.cells (M16 f) 71 (0, 0))) := Lib.hid (HB2.out.2.trans BM.out)
          have NB : Hid (Bm < wr.heap.size) := Lib.hid (Array.getElem?_eq_some_iff.1 RW.out).1
          cases hc : hasF f x y
          · rw [hc] at MH2
            have NX := Lib.hid (cellK_no hlx HY.out hc)
            clear hc
            gi_wp2_with (first | (refine wpListIn_skip (by rfl) (by rfl) ?_) | (refine wpListIn_load_row rfl 71 _ rfl Bm rfl 71 _ _ _ RW.out Try.underlying71 rfl (mask_info _ (arr_size _ _ _)) ?_) | (gi_at_call 114; refine (MH2.out _ _).mono ?_; rintro e w' ⟨rfl, rfl⟩))
            go_roundw
            case rel => exact ⟨x + 1, HX.out, by go_num, by rw [← Nat.add_assoc, NX.out]; exact JA.out _ _ _ HJ2.out, HB2.out.alloc NB.out _⟩
            case measure => have := HX.out; simp [intOf]; omega
          · rw [hc] at MH2
            have NX := Lib.hid (cellK_yes hlx HY.out hc)
            have LN : Hid ((cellK f (16 * y + x)).length < 256) := Lib.hid (by have := cellK_len f (16 * y + x); have := HY.out; omega)
            obtain ⟨fn, tmps, assign, body, hy', hYR⟩ := hY (cellK f (16 * y + x)) ⟨(x, y), hlx, HY.out⟩ (wr.alloc (.cells (M16 f) 71)) (JA.out _ _ _ HJ2.out) LN.out
            clear hc
            gi_wp2_with (first | (refine wpListIn_load_row rfl 71 _ rfl Bm rfl 71 _ _ _ RW.out Try.underlying71 rfl (mask_info _ (arr_size _ _ _)) ?_) | (gi_at_call 114; refine (MH2.out _ _).mono ?_; rintro e w' ⟨rfl, rfl⟩))
            refine hYR.mono ?_
            rintro e W3 (⟨rfl, hJ3, hk3⟩ | ⟨rfl, hJx3⟩)
            · have HJ3 : Hid (J (cellK f (16 * y + x + 1)) W3) := Lib.hid (by rw [NX.out]; exact hJ3)
              have HB3 := Lib.hid ((HB2.out.alloc NB.out _).trans hk3)
              clear hJ3 hk3
              gi_wp2
              go_roundw
              case rel => exact ⟨x + 1, HX.out, by go_num, HJ3.out, HB3.out⟩
              case measure => have := HX.out; simp [intOf]; omega
            · have NJ : Hid (∃ pre, Jx pre W3) := Lib.hid ⟨_, hJx3⟩
              clear hJx3
              gi_wp2
              refine bodyPost_ret (results_none rfl _ _ _) rfl ?_
              exact ⟨⟨_, rfl⟩, .inr NJ.out⟩
        · obtain rfl : x = 16 := by omega
          clear hlx hx
          gi_wp2
          go_roundw
          case rel => exact ⟨y + 1, HY.out, by go_num, by rw [show 16 * (y + 1) = 16 * y + 16 by omega]; exact HJ2.out, HB2.out⟩
          case measure => have := HY.out; simp [intOf]; omega
    · obtain rfl : y = 16 := by omega
      clear hlt hy
      gi_wp2
      go_end0
      exact ⟨⟨_, rfl⟩, .inl ⟨_, rfl, HJ.out⟩⟩
theorem mcells_any (f : Nat → Int) (w : World) :
    Calls Try.prog 110 #[.agg (M16 f)] w fun e w' => e = .returned (.func (.func 139) #[] #[.pointer (some ⟨w.heap.size, 0, none⟩)]) ∧ w' = w.alloc (.cells (M16 f) 71) := by
  go_enter Try.func110, Try.ntmps110
  go_wp2
  go_ret
  exact ⟨rfl, rfl⟩
/-- ALL SET CELLS COME, row by row. -/
theorem mcells_stops (F : Fence) (hF : F = Fence.wide) (n : Nat) (hn : 1 ≤ n) (Bm : Nat) (f : Nat → Int) (hf : MB f) (w : World) (hBm : w.heap[Bm]? = some (.cells (M16 f) 71 (0, 0))) :
    SeqStopsK F n Try.prog 139 #[.pointer (some ⟨Bm, 0, none⟩)] clV (KpM Bm) (fun ys => ys = cellL f) (fun _ => True) 256 w := fun L J Jx W hW hJ _ hY h0 => by
  have hb : Bm < w.heap.size := (Array.getElem?_eq_some_iff.1 hBm).1
  refine (mcells1_in F hF n hn L Bm f hf J Jx (fun pre W o h => hJ _ _ _ none h (World.grownBy_alloc W o none) (fun r e => by cases e)) hY W ((hW.block _ hb).trans hBm) h0).mono ?_
  rintro e W' ⟨he, ⟨ys, rfl, hj⟩ | ⟨pre, hj⟩⟩
  · exact ⟨he, .inl ⟨_, rfl, hj⟩⟩
  · exact ⟨he, .inr ⟨_, trivial, hj⟩⟩
end Go.Proofs.Ythfmkejdpflpcaa
