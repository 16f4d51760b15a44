/-
  CONTRACTS: is a frame sound? both sides.
-/
import Derived.Test.YtkijgadkgfapgaaGa
namespace Go.Proofs.Ytkijgadkgfapgaa
open Go.ChangeShapes Go.WideShapes Go.ChangeAt Go.RowKit
theorem wpList_load_rowgF {P : Program} {ops : Array Oper} {rest : List Oper} {o : Oper} {a : Act} {w : World} {Q : Exit → Act → World → Prop} (hw : Region.wanted o (yielded ops a.tmps) = true) (ty : TypeId) (x : Operand) (ho : o.op = .load ty x)
    (g : Nat) (hx : a.eval x = .pointer (some ⟨g, 0, none⟩)) (t : TypeId) (cs : Array Value) (fr : Nat × Nat) (d : TypeDesc) (hg : w.heap[g]? = some (.cells cs t fr))
    (hu : P.underlying ty = some d) (hd : (match d with | .struct _ | .array _ _ => true | _ => false) = true) (hi : (P.info? ty).map (·.size) = some cs.size)
    (h : wpList P ops Q rest (a.put o.dst (.agg cs)) w) : wpList P ops Q (o :: rest) a w := by
  unfold wpList
  rw [if_pos hw]
  left
  unfold Oper.wp execOp
  simp only [ho, hx, Instr.loadAt, Instr.sureAddr, Sem.run_bind, Sem.run_pure, Result.andThen_ok, run_loadVar_row w g t ty cs fr d hg hu hd hi]
  exact h
theorem eqFr (f g : Nat → Int) (w : World) : (Op.equalIn 10000 93 (.agg (Q16 f)) (.agg (Q16 g))).run Try.prog w = .ok ((List.range 16).all fun i => f i == g i) w :=
  eqArrI (P := Try.prog) (t := 93) (e := 5) (n := 16) (q := .u8) f g Try.underlying93 Try.underlying5 (by kernel_rfl) w
def snd2 (m f : Nat → Int) : Bool := (List.range 16).all fun j => m j == f j
theorem snd2_iff (m f : Nat → Int) : snd2 m f = true ↔ ∀ j, j < 16 → m j = f j := by
  unfold snd2
  rw [List.all_eq_true]
  constructor
  · intro h j hj
    have := h j (by simpa using hj)
    simpa using this
  · intro h j hj
    have := h j (by simpa using hj)
    simpa using this
theorem snd2_comm (m f : Nat → Int) : snd2 m f = snd2 f m := by
  rw [Bool.eq_iff_iff, snd2_iff, snd2_iff]
  exact ⟨fun h j hj => (h j hj).symm, fun h j hj => (h j hj).symm⟩
/-- is a frame sound at an index? -/
def sndF (i : Nat) (f : Nat → Int) : Bool := snd2 (mkfF i f) f
def sndX (i : Int) (f : Nat → Int) : Bool := if inX i then sndF i.toNat f else false
theorem ByF.mono {n m : Nat} {f : Nat → Int} (h : ByF n f) (hm : m ≤ n) : ByF m f := fun j hj => h j (by omega)
set_option maxRecDepth 20000 in
set_option maxHeartbeats 4000000 in
theorem l09Sound_any (i : Nat) (f : Nat → Int) (hf : ByF 16 f) (hi : i < 4294967296) (w : World) :
    Calls Try.prog 69 #[.agg (Q16 f), .int .i64 (i : Int)] w fun e w' => e = .returned (.bool (sndF i f)) ∧ Below w.heap.size w w' := by
  have PA := Lib.hid (sPay_any f)
  have MK := Lib.hid (l09Make_any i f (hf.mono (by omega)) hi)
  have RR : Hid (sndF i f = snd2 (mkfF i f) f) := Lib.hid rfl
  rw [RR.out]
  obtain ⟨m, hm⟩ : ∃ m, mkfF i f = m := ⟨_, rfl⟩
  rw [hm] at MK ⊢
  have EQ : Hid (∀ W, (Op.equalIn 10000 93 (.agg (Q16 m)) (.agg (Q16 f))).run Try.prog W = .ok (snd2 m f) W) := Lib.hid fun W => eqFr m f W
  clear hm hf hi RR
  obtain ⟨w1, hw1⟩ : ∃ w1, w.alloc (.cells (Q16 f) 93) = w1 := ⟨_, rfl⟩
  have B0 : Hid (Below w.heap.size w w1) := Lib.hid (by rw [← hw1]; exact (Below.refl _ _).alloc (Nat.le_refl _) _)
  have S0 : Hid (w1.heap[w.heap.size]? = some (.cells (Q16 f) 93 (0, 0))) := Lib.hid (by rw [← hw1]; exact World.alloc_heap_new w _)
  have L0 : Hid (w.heap.size < w1.heap.size) := Lib.hid (by rw [← hw1]; simp)
  go_enter Try.func69, Try.ntmps69
  go_wp2_with fail
  clear hw1
  refine wp_region_inv (by kernel_rfl) (fun listed act W => listed.size = 7 ∧ Below w1.heap.size w1 W ∧ ∃ x0 x1 x2 x3 x4 x5 x6, act = { tmps := #[.agg (Q16 f), .int .i64 (i : Int), .pointer (some ⟨w.heap.size, 0, none⟩), undef, x6, x0, x1, x2, x3, x4, x5], defers := [] } ∧ (listed.getD 0 false = true → x0 = .int .i64 (i : Int)) ∧ (listed.getD 1 false = true → x1 = .agg (Q16 f)) ∧ (listed.getD 2 false = true → x2 = .agg (Q12 f)) ∧ (listed.getD 3 false = true → x3 = .agg (Q16 m)) ∧ (listed.getD 4 false = true → x4 = .agg (Q16 f)) ∧ (listed.getD 5 false = true → x5 = .bool (snd2 m f)) ∧ (listed.getD 6 false = true → x6 = .bool (snd2 m f))) (by kernel_rfl) ?h01 (fun _ _ _ h => h.1) ?hstep1 ?hend1
  case h01 =>
    refine ⟨rfl, (Below.refl _ _).drew, _, _, _, _, _, _, _, rfl, ?_, ?_, ?_, ?_, ?_, ?_, ?_⟩ <;> (intro h; exact absurd h (by decide))
  case hstep1 =>
    rintro listed act W i o ⟨hs, hB, x0, x1, x2, x3, x4, x5, x6, rfl, e0, e1, e2, e3, e4, e5, e6⟩ hun hio hpre
    have HB := Lib.hid hB
    have E0 := Lib.hid e0
    have E1 := Lib.hid e1
    have E2 := Lib.hid e2
    have E3 := Lib.hid e3
    have E4 := Lib.hid e4
    have E5 := Lib.hid e5
    have E6 := Lib.hid e6
    have HS := Lib.hid hs
    have HU := Lib.hid hun
    have PRE := Lib.hid hpre
    clear e0 e1 e2 e3 e4 e5 e6 hs hpre hB hun
    match i, hio with
    | 0, hio =>
      clear hio
      refine wpOp_by rfl fun K HK => ?_
      go_wp2_with (fail)
      exact HK.out _ _ ⟨by rw [Array.size_setIfInBounds, HS.out], HB.out, _, _, _, _, _, _, _, rfl, fun _ => rfl, fun h => E1.out ((listed_set h).resolve_left (by decide)), fun h => E2.out ((listed_set h).resolve_left (by decide)), fun h => E3.out ((listed_set h).resolve_left (by decide)), fun h => E4.out ((listed_set h).resolve_left (by decide)), fun h => E5.out ((listed_set h).resolve_left (by decide)), fun h => E6.out ((listed_set h).resolve_left (by decide))⟩
    | 1, hio =>
      clear hio
      have S := Lib.hid ((HB.out.block w.heap.size (by have := L0.out; omega)).trans S0.out)
      refine wpOp_by rfl fun K HK => ?_
      refine wpList_load_row rfl 93 _ rfl w.heap.size rfl 93 _ _ _ S.out Try.underlying93 rfl (fr_info _ (arr_size _ _ _)) ?_
      go_wp2_with (fail)
      exact HK.out _ _ ⟨by rw [Array.size_setIfInBounds, HS.out], HB.out, _, _, _, _, _, _, _, rfl, fun h => E0.out ((listed_set h).resolve_left (by decide)), fun _ => rfl, fun h => E2.out ((listed_set h).resolve_left (by decide)), fun h => E3.out ((listed_set h).resolve_left (by decide)), fun h => E4.out ((listed_set h).resolve_left (by decide)), fun h => E5.out ((listed_set h).resolve_left (by decide)), fun h => E6.out ((listed_set h).resolve_left (by decide))⟩
    | 2, hio =>
      simp only [List.getElem?_toArray, List.getElem?_cons_succ, List.getElem?_cons_zero, Option.some.injEq] at hio
      subst hio
      have p1 := PRE.out ⟨1, .data⟩ (by simp) rfl
      obtain rfl := E1.out p1
      refine wpOp_by rfl fun K HK => ?_
      go_wp2_with fail
      refine Calls.mono (PA.out _) ?_
      rintro e W' ⟨rfl, hb⟩
      go_wp2
      exact HK.out _ _ ⟨by rw [Array.size_setIfInBounds, HS.out], HB.out.trans (hb.mono HB.out.size), _, _, _, _, _, _, _, rfl, fun h => E0.out ((listed_set h).resolve_left (by decide)), fun _ => rfl, fun _ => rfl, fun h => E3.out ((listed_set h).resolve_left (by decide)), fun h => E4.out ((listed_set h).resolve_left (by decide)), fun h => E5.out ((listed_set h).resolve_left (by decide)), fun h => E6.out ((listed_set h).resolve_left (by decide))⟩
    | 3, hio =>
      simp only [List.getElem?_toArray, List.getElem?_cons_succ, List.getElem?_cons_zero, Option.some.injEq] at hio
      subst hio
      have p0 := PRE.out ⟨0, .data⟩ (by simp) rfl
      have p2 := PRE.out ⟨2, .data⟩ (by simp) rfl
      obtain rfl := E0.out p0
      obtain rfl := E2.out p2
      refine wpOp_by rfl fun K HK => ?_
      go_wp2_with fail
      refine Calls.mono (MK.out _) ?_
      rintro e W' ⟨rfl, hb⟩
      go_wp2
      exact HK.out _ _ ⟨by rw [Array.size_setIfInBounds, HS.out], HB.out.trans (hb.mono HB.out.size), _, _, _, _, _, _, _, rfl, fun _ => rfl, fun h => E1.out ((listed_set h).resolve_left (by decide)), fun _ => rfl, fun _ => rfl, fun h => E4.out ((listed_set h).resolve_left (by decide)), fun h => E5.out ((listed_set h).resolve_left (by decide)), fun h => E6.out ((listed_set h).resolve_left (by decide))⟩
    | 4, hio =>
      clear hio
      have S := Lib.hid ((HB.out.block w.heap.size (by have := L0.out; omega)).trans S0.out)
      refine wpOp_by rfl fun K HK => ?_
      refine wpList_load_row rfl 93 _ rfl w.heap.size rfl 93 _ _ _ S.out Try.underlying93 rfl (fr_info _ (arr_size _ _ _)) ?_
      go_wp2_with (fail)
      exact HK.out _ _ ⟨by rw [Array.size_setIfInBounds, HS.out], HB.out, _, _, _, _, _, _, _, rfl, fun h => E0.out ((listed_set h).resolve_left (by decide)), fun h => E1.out ((listed_set h).resolve_left (by decide)), fun h => E2.out ((listed_set h).resolve_left (by decide)), fun h => E3.out ((listed_set h).resolve_left (by decide)), fun _ => rfl, fun h => E5.out ((listed_set h).resolve_left (by decide)), fun h => E6.out ((listed_set h).resolve_left (by decide))⟩
    | 5, hio =>
      simp only [List.getElem?_toArray, List.getElem?_cons_succ, List.getElem?_cons_zero, Option.some.injEq] at hio
      subst hio
      have p3 := PRE.out ⟨3, .data⟩ (by simp) rfl
      have p4 := PRE.out ⟨4, .data⟩ (by simp) rfl
      obtain rfl := E3.out p3
      obtain rfl := E4.out p4
      have hE := EQ.out
      refine wpOp_by rfl fun K HK => ?_
      go_wp2_with (fail)
      exact HK.out _ _ ⟨by rw [Array.size_setIfInBounds, HS.out], HB.out, _, _, _, _, _, _, _, rfl, fun h => E0.out ((listed_set h).resolve_left (by decide)), fun h => E1.out ((listed_set h).resolve_left (by decide)), fun h => E2.out ((listed_set h).resolve_left (by decide)), fun _ => rfl, fun _ => rfl, fun _ => rfl, fun h => E6.out ((listed_set h).resolve_left (by decide))⟩
    | 6, hio =>
      simp only [List.getElem?_toArray, List.getElem?_cons_succ, List.getElem?_cons_zero, Option.some.injEq] at hio
      subst hio
      have p5 := PRE.out ⟨5, .data⟩ (by simp) rfl
      obtain rfl := E5.out p5
      refine wpOp_by rfl fun K HK => ?_
      go_wp2_with (fail)
      exact HK.out _ _ ⟨by rw [Array.size_setIfInBounds, HS.out], HB.out, _, _, _, _, _, _, _, rfl, fun h => E0.out ((listed_set h).resolve_left (by decide)), fun h => E1.out ((listed_set h).resolve_left (by decide)), fun h => E2.out ((listed_set h).resolve_left (by decide)), fun h => E3.out ((listed_set h).resolve_left (by decide)), fun h => E4.out ((listed_set h).resolve_left (by decide)), fun _ => rfl, fun _ => rfl⟩
    | k + 7, hio => simp at hio
  case hend1 =>
    rintro listed act W1 ⟨hs, hB, x0, x1, x2, x3, x4, x5, x6, rfl, e0, e1, e2, e3, e4, e5, e6⟩ hall
    obtain rfl := e0 (hall 0 (by decide))
    obtain rfl := e1 (hall 1 (by decide))
    obtain rfl := e2 (hall 2 (by decide))
    obtain rfl := e3 (hall 3 (by decide))
    obtain rfl := e4 (hall 4 (by decide))
    obtain rfl := e5 (hall 5 (by decide))
    obtain rfl := e6 (hall 6 (by decide))
    clear hs
    have WB : Hid (Below w.heap.size w W1) := Lib.hid (B0.out.trans (hB.mono (Nat.le_of_lt L0.out)))
    clear hB hall
    go_wp2
    go_ret
    exact ⟨rfl, WB.out⟩
set_option maxRecDepth 20000 in
set_option maxHeartbeats 4000000 in
theorem iSound_any (i : Int) (f : Nat → Int) (hf : ByF 16 f) (w : World) :
    Calls Try.prog 101 #[.agg (Q16 f), .int .i64 i] w fun e w' => e = .returned (.tuple #[.bool (sndX i f), .int .i64 (codeX i)]) ∧ Below w.heap.size w w' := by
  obtain ⟨w1, hw1⟩ : ∃ w1, w.alloc (.cells (Q16 f) 93) = w1 := ⟨_, rfl⟩
  have B0 : Hid (Below w.heap.size w w1) := Lib.hid (by rw [← hw1]; exact (Below.refl _ _).alloc (Nat.le_refl _) _)
  have S0 : Hid (w1.heap[w.heap.size]? = some (.cells (Q16 f) 93 (0, 0))) := Lib.hid (by rw [← hw1]; exact World.alloc_heap_new w _)
  have L0 : Hid (w.heap.size < w1.heap.size) := Lib.hid (by rw [← hw1]; simp)
  have PA := Lib.hid (iPay_any f)
  have MK := Lib.hid (iMake_any i f (hf.mono (by omega)))
  have RR : Hid (sndX i f = (inX i && snd2 f (mkX i f))) := Lib.hid (by
    unfold sndX mkX sndF
    cases inX i
    · rfl
    · simp only [if_true, Bool.true_and]; exact snd2_comm _ _)
  rw [RR.out]
  have CX : Hid (codeX i = if inX i then 0 else 2) := Lib.hid rfl
  rw [CX.out] at MK ⊢
  obtain ⟨m, hm⟩ : ∃ m, mkX i f = m := ⟨_, rfl⟩
  rw [hm] at MK ⊢
  have EQ : Hid (∀ W, (Op.equalIn 10000 93 (.agg (Q16 f)) (.agg (Q16 m))).run Try.prog W = .ok (snd2 f m) W) := Lib.hid fun W => eqFr f m W
  obtain ⟨b, hb⟩ : ∃ b, snd2 f m = b := ⟨_, rfl⟩
  rw [hb] at EQ ⊢
  have Z16 : Hid (#[Value.int .u8 0, Value.int .u8 0, Value.int .u8 0, Value.int .u8 0, Value.int .u8 0, Value.int .u8 0, Value.int .u8 0, Value.int .u8 0, Value.int .u8 0, Value.int .u8 0, Value.int .u8 0, Value.int .u8 0, Value.int .u8 0, Value.int .u8 0, Value.int .u8 0, Value.int .u8 0] = Q16 zI) := Lib.hid rfl
  obtain ⟨x, hx⟩ : ∃ x, inX i = x := ⟨_, rfl⟩
  rw [hx] at MK ⊢
  clear hm hf RR CX hb hx
  cases x
  all_goals
    simp only [if_true, Bool.false_eq_true, if_false, Bool.true_and, Bool.false_and] at MK ⊢
    go_enter Try.func101, Try.ntmps101
    go_wp2_with (refine wpList_load_row rfl 93 _ rfl w.heap.size rfl 93 _ _ _ S0.out Try.underlying93 rfl (fr_info _ (arr_size _ _ _)) ?_)
    refine (PA.out _).mono ?_
    rintro e w2 ⟨rfl, b2⟩
    have S2 := Lib.hid ((b2.block w.heap.size L0.out).trans S0.out)
    have B2 := Lib.hid (B0.out.trans (b2.mono (Nat.le_of_lt L0.out)))
    have L2 : Hid (w.heap.size < w2.heap.size) := Lib.hid (Nat.lt_of_lt_of_le L0.out b2.size)
    clear b2 hw1
    go_wp2_with fail
    refine (MK.out _).mono ?_
    rintro e w3 ⟨rfl, b3⟩
    have S3 := Lib.hid ((b3.block w.heap.size L2.out).trans S2.out)
    have B3 := Lib.hid (B2.out.trans (b3.mono (Nat.le_of_lt L2.out)))
    have L3 : Hid (w.heap.size < w3.heap.size) := Lib.hid (Nat.lt_of_lt_of_le L2.out b3.size)
    clear b3
    obtain ⟨n3, hn3⟩ : ∃ n3, w3.heap.size = n3 := ⟨_, rfl⟩
    obtain ⟨w4, hw4⟩ : ∃ w4, w3.alloc (.cells #[Value.int .u8 0, Value.int .u8 0, Value.int .u8 0, Value.int .u8 0, Value.int .u8 0, Value.int .u8 0, Value.int .u8 0, Value.int .u8 0, Value.int .u8 0, Value.int .u8 0, Value.int .u8 0, Value.int .u8 0, Value.int .u8 0, Value.int .u8 0, Value.int .u8 0, Value.int .u8 0] 93) = w4 := ⟨_, rfl⟩
    have A4 : Hid (w4.heap[w3.heap.size]? = some (.cells #[Value.int .u8 0, Value.int .u8 0, Value.int .u8 0, Value.int .u8 0, Value.int .u8 0, Value.int .u8 0, Value.int .u8 0, Value.int .u8 0, Value.int .u8 0, Value.int .u8 0, Value.int .u8 0, Value.int .u8 0, Value.int .u8 0, Value.int .u8 0, Value.int .u8 0, Value.int .u8 0] 93 (0, 0))) := Lib.hid (by rw [← hw4]; exact World.alloc_heap_new w3 _)
    have S4 : Hid (w4.heap[w.heap.size]? = some (.cells (Q16 f) 93 (0, 0))) := Lib.hid (by rw [← hw4]; exact (Below.heap_alloc _ _ _ L3.out).trans S3.out)
    have B4 : Hid (Below w.heap.size w w4) := Lib.hid (by rw [← hw4]; exact B3.out.alloc (Nat.le_of_lt L3.out) _)
    obtain ⟨w5, hw5⟩ : ∃ w5, w4.setRow w3.heap.size (Q16 m) = w5 := ⟨_, rfl⟩
    have A5 : Hid (w5.heap[w3.heap.size]? = some (.cells (Q16 m) 93 (0, 0))) := Lib.hid (by rw [← hw5]; exact setRow_heap _ _ _ _ _ _ A4.out)
    have S5 : Hid (w5.heap[w.heap.size]? = some (.cells (Q16 f) 93 (0, 0))) := Lib.hid (by rw [← hw5, setRow_other _ _ _ _ (by have := L3.out; omega)]; exact S4.out)
    have B5 : Hid (Below w.heap.size w w5) := Lib.hid (by rw [← hw5]; exact below_setRow B4.out (Nat.le_of_lt L3.out) _)
    have hE := EQ.out
    clear hn3
    first
    | (go_wp2_with (first | (refine wpList_store_row rfl 93 _ _ rfl w3.heap.size (Q16 m) rfl rfl 93 _ A4.out (fr_info _ rfl) rfl (arr_cells _ _ _) ?_; rw [hw5]) | (refine wpList_load_rowgF rfl 93 _ rfl w.heap.size rfl 93 _ _ _ S5.out Try.underlying93 rfl (fr_info _ (arr_size _ _ _)) ?_) | (refine wpList_load_rowgF rfl 93 _ rfl w3.heap.size rfl 93 _ _ _ A5.out Try.underlying93 rfl (fr_info _ (arr_size _ _ _)) ?_)); go_ret2; exact ⟨rfl, B5.out⟩)
    | (go_wp2_with (refine wpList_store_row rfl 93 _ _ rfl w3.heap.size (Q16 m) rfl rfl 93 _ A4.out (fr_info _ rfl) rfl (arr_cells _ _ _) ?_; rw [hw5]); go_ret2; exact ⟨rfl, B5.out⟩)
end Go.Proofs.Ytkijgadkgfapgaa
