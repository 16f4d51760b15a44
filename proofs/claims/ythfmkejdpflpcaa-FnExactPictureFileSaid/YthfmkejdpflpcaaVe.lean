/-
  VALID PICTURES, the program's isPicture.
-/
import Derived.Test.YthfmkejdpflpcaaVd
import Derived.Test.YthfmkejdpflpcaaRt
namespace Go.Proofs.Ythfmkejdpflpcaa
open Go.ChangeShapes Go.WideShapes Go.ChangeAt Go.RowKit
theorem wpList_load_rowg {P : Program} {ops : Array Oper} {rest : List Oper} {o : Oper} {a : Act} {w : World} {Q : Exit → Act → World → Prop} (hw : Region.wanted o (yielded ops a.tmps) = true) (ty : TypeId) (x : Operand) (ho : o.op = .load ty x)
    (g : Nat) (hx : a.eval x = .pointer (some ⟨g, 0, none⟩)) (t : TypeId) (cs : Array Value) (fr : Nat × Nat) (d : TypeDesc) (hg : w.heap[g]? = some (.cells cs t fr))
    (hu : P.underlying ty = some d) (hd : (match d with | .struct _ | .array _ _ => true | _ => false) = true) (hi : (P.info? ty).map (·.size) = some cs.size)
    (h : wpList P ops Q rest (a.put o.dst (.agg cs)) w) : wpList P ops Q (o :: rest) a w := by
  unfold wpList
  rw [if_pos hw]
  left
  unfold Oper.wp execOp
  simp only [ho, hx, Instr.loadAt, Instr.sureAddr, Sem.run_bind, Sem.run_pure, Result.andThen_ok, run_loadVar_row w g t ty cs fr d hg hu hd hi]
  exact h
set_option maxRecDepth 20000 in
set_option maxHeartbeats 16000000 in
theorem isPic_any (a : Option Addr) (n cap : Nat) (f : Nat → Int) (B : Nat) (w : World) (hB : B ≤ w.heap.size) (hn : n ≤ 1048576) (h : BlR B w a n f) (hf : BlF n f) :
    Calls Try.prog 108 #[.slice a n cap] w fun e w' => e = .returned (.bool (validP f n)) ∧ Below w.heap.size w w' := by
  by_cases h64 : 64 < n
  · have hv : validP f n = false := by unfold validP; rw [decide_eq_false (by omega)]; rfl
    rw [hv]
    have t64 : (64 : Int) < (n : Int) := by omega
    go_enter Try.func108, Try.ntmps108
    go_wp2
    go_ret
    exact ⟨rfl, Below.refl _ _⟩
  have hv : validP f n = (List.range n).all (okB f) := by unfold validP; rw [decide_eq_true (by omega)]; rfl
  rw [hv]
  clear hv
  have t64 : (n : Int) ≤ 64 := by omega
  have HR := Lib.hid h
  have HF := Lib.hid hf
  have SE := Lib.hid sEmpty_any
  have SFI := Lib.hid sFits_any
  have SBE := Lib.hid sBefore_any
  have CR := Lib.hid cmpRows_any
  have HPI := Lib.hid hasPic_any
  clear h hf h64 hn
  go_enter Try.func108, Try.ntmps108
  go_wp2
  go_loopw [10] (fun vi wr => ∃ i : Nat, i ≤ n ∧ vi = .int .i64 (i : Int) ∧ Below w.heap.size w wr ∧ ((List.range i).all (okB f)) = true) (fun vi _ => n - (intOf vi).toNat)
  case atStart => exact ⟨0, Nat.zero_le _, rfl, Below.refl _ _, rfl⟩
  case round =>
    obtain ⟨i, hi, rfl, hb, hall⟩ := hrel
    have HB := Lib.hid hb
    have HA := Lib.hid hall
    clear hb hall
    by_cases hlt : i < n
    · obtain ⟨g, o, rfl, hg, hc⟩ : ∃ b off, a = some ⟨b, off, none⟩ ∧ b < B ∧ ∀ j, j < 18 * n → w.cell? ⟨b, off + j, none⟩ = some (bcell f j) := by
        rcases HR.out with h | h
        · omega
        · exact h
      have tk : (i : Int) < (n : Int) := by omega
      have GC : Hid (∀ k, k < n → ∀ W, Below wr.heap.size wr W → ∀ j v, (blk f k)[j]? = some v → W.cell? ⟨g, o + k * 18 + j, none⟩ = some v) := Lib.hid fun k hk W hW j v e => by
        have hj : j < 18 := by
          rcases Nat.lt_or_ge j 18 with h | h
          · exact h
          · rw [Array.getElem?_eq_none (by rw [blk_size]; exact h)] at e; cases e
        have hs := HB.out.size
        rw [hW.cell (p := ⟨g, o + k * 18 + j, none⟩) (by show g < _; omega), HB.out.cell (p := ⟨g, o + k * 18 + j, none⟩) (by show g < _; omega), Nat.add_assoc, hc (k * 18 + j) (by omega), ← blk_get f k j hj]
        exact e
      have GB : Hid (g < wr.heap.size) := Lib.hid (by have := HB.out.size; omega)
      obtain ⟨hp, hq⟩ := blf_co HF.out hlt
      have hmb := blf_mk HF.out hlt
      have HI := Lib.hid hlt
      obtain ⟨p, ep⟩ : ∃ p, f (i * 18) = p := ⟨_, rfl⟩
      obtain ⟨q, eq⟩ : ∃ q, f (i * 18 + 1) = q := ⟨_, rfl⟩
      obtain ⟨mk, em⟩ : ∃ mk, mkF f i = mk := ⟨_, rfl⟩
      have eb : blk f i = bl p q mk := by rw [blk_eq, ep, eq, em]
      have OKI : Hid (okB f i = (((cellL mk).all (cellIn p q) && !emptyF mk) && (decide (i = 0) || lessAt f i))) := Lib.hid (by unfold okB hasPic; rw [ep, eq, em])
      rw [ep] at hp
      rw [eq] at hq
      rw [em] at hmb
      obtain ⟨p0, ep0⟩ : ∃ p0, f ((i - 1) * 18) = p0 := ⟨_, rfl⟩
      obtain ⟨q0, eq0⟩ : ∃ q0, f ((i - 1) * 18 + 1) = q0 := ⟨_, rfl⟩
      have LC0 : Hid (∀ W, Below wr.heap.size wr W → ∀ j v, (#[Value.int .i32 p0, .int .i32 q0] : Array Value)[j]? = some v → W.cell? ⟨g, o + (i - 1) * 18 + j, none⟩ = some v) := Lib.hid fun W hW j v e => GC.out (i - 1) (by have := HI.out; omega) W hW j v (by rw [blk_eq, ep0, eq0]; have := bl_co p0 q0 (mkF f (i - 1)) j v e; rwa [Nat.zero_add] at this)
      have CMPR : Hid (∀ W, Calls Try.prog 100 #[.agg #[.int .i32 p0, .int .i32 q0], .agg #[.int .i32 p, .int .i32 q]] W fun e w' => e = .returned (.int .i64 (cmpR p0 q0 p q)) ∧ Below W.heap.size W w') := Lib.hid fun W => CR.out p0 q0 p q W
      have CL : Hid ((cmpR p0 q0 p q < 0) ↔ lessAt f i = true) := Lib.hid (by unfold lessAt; rw [ep0, eq0, ep, eq]; exact cmpR_less p0 q0 p q)
      have HPC : Hid (∀ W, Calls Try.prog 137 #[.agg (bl p q mk)] W fun e w' => e = .returned (.bool (hasPic p q mk)) ∧ Below W.heap.size W w') := Lib.hid fun W => HPI.out p q hp hq mk hmb W
      have OKH : Hid (okB f i = (hasPic p q mk && (decide (i = 0) || lessAt f i))) := Lib.hid (by unfold okB; rw [ep, eq, em])
      have PA : Hid (∀ j v, (#[Value.int .i32 p, .int .i32 q] : Array Value)[j]? = some v → (bl p q mk)[0 + j]? = some v) := Lib.hid (bl_co p q mk)
      have GCI : Hid (∀ j v, (bl p q mk)[j]? = some v → wr.cell? ⟨g, o + i * 18 + j, none⟩ = some v) := Lib.hid fun j v e => GC.out i hlt wr (Below.refl _ _) j v (by rw [eb]; exact e)
      have A18 : Hid ((bl p q mk).size = 18) := Lib.hid (bl_size _ _ _)
      have AON : Hid ((bl p q mk).all (·.oneCell') = true) := Lib.hid (bl_one _ _ _)
      generalize hH : hasPic p q mk = Hp at HPC OKH
      generalize hA : bl p q mk = A at HPC PA GCI A18 AON
      generalize hcc : cmpR p0 q0 p q = c at CMPR CL
      generalize hL : lessAt f i = L at CL OKH
      clear hH hA hcc hL eb hmb ep eq em ep0 eq0 SE SFI SBE CR HPI OKI hp hq
      clear hc hlt hi hg
      have NW : Hid ((wr.alloc (.cells #[Value.int .i32 0, Value.int .i32 0, Value.int .u16 0, Value.int .u16 0, Value.int .u16 0, Value.int .u16 0, Value.int .u16 0, Value.int .u16 0, Value.int .u16 0, Value.int .u16 0, Value.int .u16 0, Value.int .u16 0, Value.int .u16 0, Value.int .u16 0, Value.int .u16 0, Value.int .u16 0, Value.int .u16 0, Value.int .u16 0] 73)).heap[wr.heap.size]? = some (.cells #[Value.int .i32 0, Value.int .i32 0, Value.int .u16 0, Value.int .u16 0, Value.int .u16 0, Value.int .u16 0, Value.int .u16 0, Value.int .u16 0, Value.int .u16 0, Value.int .u16 0, Value.int .u16 0, Value.int .u16 0, Value.int .u16 0, Value.int .u16 0, Value.int .u16 0, Value.int .u16 0, Value.int .u16 0, Value.int .u16 0] 73 (0, 0))) := Lib.hid (World.alloc_heap_new wr _)
      go_wp2_with (first | (refine wpList_load_part rfl 73 _ rfl g (o + i * 18) rfl A _ GCI.out Try.underlying73 rfl (ib_info _ A18.out) ?_) | (refine wpList_store_row rfl 73 _ _ rfl wr.heap.size A rfl rfl 73 _ NW.out (ib_info _ A18.out) (by rw [A18.out]; rfl) AON.out ?_))
      have X0 : Hid (((wr.alloc (.cells #[Value.int .i32 0, Value.int .i32 0, Value.int .u16 0, Value.int .u16 0, Value.int .u16 0, Value.int .u16 0, Value.int .u16 0, Value.int .u16 0, Value.int .u16 0, Value.int .u16 0, Value.int .u16 0, Value.int .u16 0, Value.int .u16 0, Value.int .u16 0, Value.int .u16 0, Value.int .u16 0, Value.int .u16 0, Value.int .u16 0] 73)).setRow wr.heap.size A).heap[wr.heap.size]? = some (.cells A 73 (0, 0))) := Lib.hid (setRow_heap _ _ _ _ _ _ NW.out)
      have X1 : Hid (Below wr.heap.size wr ((wr.alloc (.cells #[Value.int .i32 0, Value.int .i32 0, Value.int .u16 0, Value.int .u16 0, Value.int .u16 0, Value.int .u16 0, Value.int .u16 0, Value.int .u16 0, Value.int .u16 0, Value.int .u16 0, Value.int .u16 0, Value.int .u16 0, Value.int .u16 0, Value.int .u16 0, Value.int .u16 0, Value.int .u16 0, Value.int .u16 0, Value.int .u16 0] 73)).setRow wr.heap.size A)) := Lib.hid (below_setRow ((Below.refl _ wr).alloc (Nat.le_refl _) _) (Nat.le_refl _) _)
      have X2 : Hid (((wr.alloc (.cells #[Value.int .i32 0, Value.int .i32 0, Value.int .u16 0, Value.int .u16 0, Value.int .u16 0, Value.int .u16 0, Value.int .u16 0, Value.int .u16 0, Value.int .u16 0, Value.int .u16 0, Value.int .u16 0, Value.int .u16 0, Value.int .u16 0, Value.int .u16 0, Value.int .u16 0, Value.int .u16 0, Value.int .u16 0, Value.int .u16 0] 73)).setRow wr.heap.size A).heap.size = wr.heap.size + 1) := Lib.hid (by simp)
      generalize (wr.alloc (.cells #[Value.int .i32 0, Value.int .i32 0, Value.int .u16 0, Value.int .u16 0, Value.int .u16 0, Value.int .u16 0, Value.int .u16 0, Value.int .u16 0, Value.int .u16 0, Value.int .u16 0, Value.int .u16 0, Value.int .u16 0, Value.int .u16 0, Value.int .u16 0, Value.int .u16 0, Value.int .u16 0, Value.int .u16 0, Value.int .u16 0] 73)).setRow wr.heap.size A = W5 at X0 X1 X2 ⊢
      have Y0 : Hid (∀ W, Below W5.heap.size W5 W → Below wr.heap.size wr W) := Lib.hid fun W h => X1.out.trans (h.mono X1.out.size)
      have YB : Hid (∀ W, Below W5.heap.size W5 W → W.heap[wr.heap.size]? = some (.cells A 73 (0, 0))) := Lib.hid fun W h => (h.block _ (by have := X2.out; omega)).trans X0.out
      clear NW
      rw [show ∀ a : Act, a.put none undef = a from fun _ => rfl]
      by_cases hz0 : i = 0
      · have hzn : decide (0 < i) = false := decide_eq_false (by omega)
        have HZ0 := Lib.hid hz0
        clear hz0
        cases Hp with
        | true =>
          obtain ⟨V, v0, v1, v2, v3, v4, v5, v6, v7, v8, v9, v10, v11, v12, v13, v14, v15, v16, v17, v18⟩ : ∃ V : Nat → Value, V 0 = .int .i64 (i : Int) ∧ V 1 = .bool false ∧ V 2 = .bool false ∧ V 3 = undef ∧ V 4 = undef ∧ V 5 = undef ∧ V 6 = undef ∧ V 7 = undef ∧ V 8 = undef ∧ V 9 = undef ∧ V 10 = undef ∧ V 11 = undef ∧ V 12 = undef ∧ V 13 = .bool false ∧ V 14 = .bool false ∧ V 15 = .agg A ∧ V 16 = .bool true ∧ V 17 = .bool false ∧ V 18 = .bool false := ⟨fun s0 => match s0 with | 0 => .int .i64 (i : Int) | 1 => .bool false | 2 => .bool false | 3 => undef | 4 => undef | 5 => undef | 6 => undef | 7 => undef | 8 => undef | 9 => undef | 10 => undef | 11 => undef | 12 => undef | 13 => .bool false | 14 => .bool false | 15 => .agg A | 16 => .bool true | 17 => .bool false | 18 => .bool false | _ => undef, rfl, rfl, rfl, rfl, rfl, rfl, rfl, rfl, rfl, rfl, rfl, rfl, rfl, rfl, rfl, rfl, rfl, rfl, rfl⟩
          have hconc : tabT #[.slice (some ⟨g, o, none⟩) n cap, undef, u2, .int .i64 (i : Int), .pointer (some ⟨wr.heap.size, 0, none⟩), .slice (some ⟨g, o, none⟩) n cap, .int .i64 (n : Int), .bool (decide ((64 : Int) < (n : Int))), .slice (some ⟨g, o, none⟩) n cap, .int .i64 (n : Int), .int .i64 (i : Int), .bool true, .int .i64 (i : Int), .pointer (some ⟨g, o + i * 18, none⟩), .agg A, u15, u16, u17, u18, u19, u20, u21, u22, u23, u24, u25, u26, u27, u28, u29, u30, u31, u32, u33, u34] (ownR 15 19) V (Array.replicate 19 true) = #[.slice (some ⟨g, o, none⟩) n cap, undef, u2, .int .i64 (i : Int), .pointer (some ⟨wr.heap.size, 0, none⟩), .slice (some ⟨g, o, none⟩) n cap, .int .i64 (n : Int), .bool (decide ((64 : Int) < (n : Int))), .slice (some ⟨g, o, none⟩) n cap, .int .i64 (n : Int), .int .i64 (i : Int), .bool true, .int .i64 (i : Int), .pointer (some ⟨g, o + i * 18, none⟩), .agg A, .int .i64 (i : Int), .bool false, .bool false, undef, undef, undef, undef, undef, undef, undef, undef, undef, undef, .bool false, .bool false, .agg A, .bool true, .bool false, .bool false, u34] := by simp [tabT, ownR, v0, v1, v2, v3, v4, v5, v6, v7, v8, v9, v10, v11, v12, v13, v14, v15, v16, v17, v18]
          have V0 := Lib.hid v0
          have V1 := Lib.hid v1
          have V2 := Lib.hid v2
          have V3 := Lib.hid v3
          have V4 := Lib.hid v4
          have V5 := Lib.hid v5
          have V6 := Lib.hid v6
          have V7 := Lib.hid v7
          have V8 := Lib.hid v8
          have V9 := Lib.hid v9
          have V10 := Lib.hid v10
          have V11 := Lib.hid v11
          have V12 := Lib.hid v12
          have V13 := Lib.hid v13
          have V14 := Lib.hid v14
          have V15 := Lib.hid v15
          have V16 := Lib.hid v16
          have V17 := Lib.hid v17
          have V18 := Lib.hid v18
          have HCONC := Lib.hid hconc
          clear hconc v0 v1 v2 v3 v4 v5 v6 v7 v8 v9 v10 v11 v12 v13 v14 v15 v16 v17 v18
          refine wp_region_table (by kernel_rfl) (by kernel_rfl) 19 rfl V (ownR 15 19) (fun i => i + 15) (fun i hi => ownR_hit (show i < 19 from hi)) (fun s i hs => (show i < 19 from ownR_lt hs)) ?hstepP ?hendP
          case hstepP =>
            intro oi oo listed T W hio hB hpre hts htn
            have HB := Lib.hid hB
            have PRE := Lib.hid hpre
            have TS : Hid (∀ (s j : Nat) (v : Value), s < 35 → (ownR 15 19) s = some j → listed.getD j false = true → V j = v → T.getD s undef = v ∧ T[s]? = some v) := Lib.hid hts
            have R0 : Hid (T.getD 0 undef = .slice (some ⟨g, o, none⟩) n cap) := Lib.hid (htn 0 (by decide))
            have R3 : Hid (T.getD 3 undef = .int .i64 (i : Int)) := Lib.hid (htn 3 (by decide))
            have R4 : Hid (T.getD 4 undef = .pointer (some ⟨wr.heap.size, 0, none⟩)) := Lib.hid (htn 4 (by decide))
            clear hB hpre hts htn HCONC
            match oi, hio with
            | 0, hio =>
              clear hio
              have t3 : T.getD 3 undef = .int .i64 (i : Int) := R3.out
              have vj := V0.out
              refine wpOp_by rfl fun K HK => ?_
              rw [vj] at HK
              clear vj
              go_wp2_with (fail)
              exact HK.out _ _ ⟨rfl, HB.out⟩
            | 1, hio =>
              simp only [List.getElem?_toArray, List.getElem?_cons_succ, List.getElem?_cons_zero, Option.some.injEq] at hio
              subst hio
              have t15 : T.getD 15 undef = .int .i64 (i : Int) := (TS.out 15 0 _ (by decide) (by decide) (PRE.out ⟨0, .data⟩ (by simp) rfl) V0.out).1
              have vj := V1.out
              refine wpOp_by rfl fun K HK => ?_
              rw [vj] at HK
              clear vj
              go_wp2_with (fail)
              exact HK.out _ _ ⟨rfl, HB.out⟩
            | 2, hio =>
              simp only [List.getElem?_toArray, List.getElem?_cons_succ, List.getElem?_cons_zero, Option.some.injEq] at hio
              subst hio
              have t16 : T.getD 16 undef = .bool false := (TS.out 16 1 _ (by decide) (by decide) (PRE.out ⟨1, .data⟩ (by simp) rfl) V1.out).1
              have vj := V2.out
              refine wpOp_by rfl fun K HK => ?_
              rw [vj] at HK
              clear vj
              go_wp2_with (fail)
              exact HK.out _ _ ⟨rfl, HB.out⟩
            | 3, hio =>
              simp only [List.getElem?_toArray, List.getElem?_cons_succ, List.getElem?_cons_zero, Option.some.injEq] at hio
              subst hio
              have g17 : T[17]? = some (.bool false) := (TS.out 17 2 _ (by decide) (by decide) (PRE.out ⟨2, .guard⟩ (by simp) rfl) V2.out).2
              have t0 : T.getD 0 undef = .slice (some ⟨g, o, none⟩) n cap := R0.out
              have vj := V3.out
              refine wpOp_by rfl fun K HK => ?_
              rw [vj] at HK
              clear vj
              go_wp2_with (fail)
              exact HK.out _ _ ⟨rfl, HB.out⟩
            | 4, hio =>
              simp only [List.getElem?_toArray, List.getElem?_cons_succ, List.getElem?_cons_zero, Option.some.injEq] at hio
              subst hio
              have g17 : T[17]? = some (.bool false) := (TS.out 17 2 _ (by decide) (by decide) (PRE.out ⟨2, .guard⟩ (by simp) rfl) V2.out).2
              have t3 : T.getD 3 undef = .int .i64 (i : Int) := R3.out
              have vj := V4.out
              refine wpOp_by rfl fun K HK => ?_
              rw [vj] at HK
              clear vj
              go_wp2_with (fail)
              exact HK.out _ _ ⟨rfl, HB.out⟩
            | 5, hio =>
              simp only [List.getElem?_toArray, List.getElem?_cons_succ, List.getElem?_cons_zero, Option.some.injEq] at hio
              subst hio
              have g17 : T[17]? = some (.bool false) := (TS.out 17 2 _ (by decide) (by decide) (PRE.out ⟨2, .guard⟩ (by simp) rfl) V2.out).2
              have vj := V5.out
              refine wpOp_by rfl fun K HK => ?_
              rw [vj] at HK
              clear vj
              go_wp2_with (fail)
              exact HK.out _ _ ⟨rfl, HB.out⟩
            | 6, hio =>
              simp only [List.getElem?_toArray, List.getElem?_cons_succ, List.getElem?_cons_zero, Option.some.injEq] at hio
              subst hio
              have g17 : T[17]? = some (.bool false) := (TS.out 17 2 _ (by decide) (by decide) (PRE.out ⟨2, .guard⟩ (by simp) rfl) V2.out).2
              have vj := V6.out
              refine wpOp_by rfl fun K HK => ?_
              rw [vj] at HK
              clear vj
              go_wp2_with (fail)
              exact HK.out _ _ ⟨rfl, HB.out⟩
            | 7, hio =>
              simp only [List.getElem?_toArray, List.getElem?_cons_succ, List.getElem?_cons_zero, Option.some.injEq] at hio
              subst hio
              have g17 : T[17]? = some (.bool false) := (TS.out 17 2 _ (by decide) (by decide) (PRE.out ⟨2, .guard⟩ (by simp) rfl) V2.out).2
              have vj := V7.out
              refine wpOp_by rfl fun K HK => ?_
              rw [vj] at HK
              clear vj
              go_wp2_with (fail)
              exact HK.out _ _ ⟨rfl, HB.out⟩
            | 8, hio =>
              simp only [List.getElem?_toArray, List.getElem?_cons_succ, List.getElem?_cons_zero, Option.some.injEq] at hio
              subst hio
              have g17 : T[17]? = some (.bool false) := (TS.out 17 2 _ (by decide) (by decide) (PRE.out ⟨2, .guard⟩ (by simp) rfl) V2.out).2
              have vj := V8.out
              refine wpOp_by rfl fun K HK => ?_
              rw [vj] at HK
              clear vj
              go_wp2_with (fail)
              exact HK.out _ _ ⟨rfl, HB.out⟩
            | 9, hio =>
              simp only [List.getElem?_toArray, List.getElem?_cons_succ, List.getElem?_cons_zero, Option.some.injEq] at hio
              subst hio
              have g17 : T[17]? = some (.bool false) := (TS.out 17 2 _ (by decide) (by decide) (PRE.out ⟨2, .guard⟩ (by simp) rfl) V2.out).2
              have t4 : T.getD 4 undef = .pointer (some ⟨wr.heap.size, 0, none⟩) := R4.out
              have vj := V9.out
              refine wpOp_by rfl fun K HK => ?_
              rw [vj] at HK
              clear vj
              go_wp2_with (fail)
              exact HK.out _ _ ⟨rfl, HB.out⟩
            | 10, hio =>
              simp only [List.getElem?_toArray, List.getElem?_cons_succ, List.getElem?_cons_zero, Option.some.injEq] at hio
              subst hio
              have g17 : T[17]? = some (.bool false) := (TS.out 17 2 _ (by decide) (by decide) (PRE.out ⟨2, .guard⟩ (by simp) rfl) V2.out).2
              have vj := V10.out
              refine wpOp_by rfl fun K HK => ?_
              rw [vj] at HK
              clear vj
              go_wp2_with (fail)
              exact HK.out _ _ ⟨rfl, HB.out⟩
            | 11, hio =>
              simp only [List.getElem?_toArray, List.getElem?_cons_succ, List.getElem?_cons_zero, Option.some.injEq] at hio
              subst hio
              have g17 : T[17]? = some (.bool false) := (TS.out 17 2 _ (by decide) (by decide) (PRE.out ⟨2, .guard⟩ (by simp) rfl) V2.out).2
              have vj := V11.out
              refine wpOp_by rfl fun K HK => ?_
              rw [vj] at HK
              clear vj
              go_wp2_with (fail)
              exact HK.out _ _ ⟨rfl, HB.out⟩
            | 12, hio =>
              simp only [List.getElem?_toArray, List.getElem?_cons_succ, List.getElem?_cons_zero, Option.some.injEq] at hio
              subst hio
              have g17 : T[17]? = some (.bool false) := (TS.out 17 2 _ (by decide) (by decide) (PRE.out ⟨2, .guard⟩ (by simp) rfl) V2.out).2
              have vj := V12.out
              refine wpOp_by rfl fun K HK => ?_
              rw [vj] at HK
              clear vj
              go_wp2_with (fail)
              exact HK.out _ _ ⟨rfl, HB.out⟩
            | 13, hio =>
              simp only [List.getElem?_toArray, List.getElem?_cons_succ, List.getElem?_cons_zero, Option.some.injEq] at hio
              subst hio
              have t17 : T.getD 17 undef = .bool false := (TS.out 17 2 _ (by decide) (by decide) (PRE.out ⟨2, .data⟩ (by simp) rfl) V2.out).1
              have vj := V13.out
              refine wpOp_by rfl fun K HK => ?_
              rw [vj] at HK
              clear vj
              go_wp2_with (fail)
              exact HK.out _ _ ⟨rfl, HB.out⟩
            | 14, hio =>
              simp only [List.getElem?_toArray, List.getElem?_cons_succ, List.getElem?_cons_zero, Option.some.injEq] at hio
              subst hio
              have t28 : T.getD 28 undef = .bool false := (TS.out 28 13 _ (by decide) (by decide) (PRE.out ⟨13, .data⟩ (by simp) rfl) V13.out).1
              have vj := V14.out
              refine wpOp_by rfl fun K HK => ?_
              rw [vj] at HK
              clear vj
              go_wp2_with (fail)
              exact HK.out _ _ ⟨rfl, HB.out⟩
            | 15, hio =>
              simp only [List.getElem?_toArray, List.getElem?_cons_succ, List.getElem?_cons_zero, Option.some.injEq] at hio
              subst hio
              have g29 : T[29]? = some (.bool false) := (TS.out 29 14 _ (by decide) (by decide) (PRE.out ⟨14, .guard⟩ (by simp) rfl) V14.out).2
              have t4 : T.getD 4 undef = .pointer (some ⟨wr.heap.size, 0, none⟩) := R4.out
              have vj := V15.out
              refine wpOp_by rfl fun K HK => ?_
              rw [vj] at HK
              clear vj
              refine wpList_load_rowg (by simp [Region.wanted, yielded, g29]) 73 _ rfl wr.heap.size t4 73 _ _ _ (YB.out W HB.out) Try.underlying73 rfl (ib_info _ A18.out) ?_
              go_wp2
              exact HK.out _ _ ⟨rfl, HB.out⟩
            | 16, hio =>
              simp only [List.getElem?_toArray, List.getElem?_cons_succ, List.getElem?_cons_zero, Option.some.injEq] at hio
              subst hio
              have t30 : T.getD 30 undef = .agg A := (TS.out 30 15 _ (by decide) (by decide) (PRE.out ⟨15, .data⟩ (by simp) rfl) V15.out).1
              have g29 : T[29]? = some (.bool false) := (TS.out 29 14 _ (by decide) (by decide) (PRE.out ⟨14, .guard⟩ (by simp) rfl) V14.out).2
              have vj := V16.out
              refine wpOp_by rfl fun K HK => ?_
              rw [vj] at HK
              clear vj
              go_wp2_with fail
              refine (HPC.out W).mono ?_
              rintro e W' ⟨rfl, hb⟩
              go_wp2
              exact HK.out _ _ ⟨rfl, HB.out.trans (hb.mono HB.out.size)⟩
            | 17, hio =>
              simp only [List.getElem?_toArray, List.getElem?_cons_succ, List.getElem?_cons_zero, Option.some.injEq] at hio
              subst hio
              have t31 : T.getD 31 undef = .bool true := (TS.out 31 16 _ (by decide) (by decide) (PRE.out ⟨16, .data⟩ (by simp) rfl) V16.out).1
              have g29 : T[29]? = some (.bool false) := (TS.out 29 14 _ (by decide) (by decide) (PRE.out ⟨14, .guard⟩ (by simp) rfl) V14.out).2
              have vj := V17.out
              refine wpOp_by rfl fun K HK => ?_
              rw [vj] at HK
              clear vj
              go_wp2_with (fail)
              exact HK.out _ _ ⟨rfl, HB.out⟩
            | 18, hio =>
              simp only [List.getElem?_toArray, List.getElem?_cons_succ, List.getElem?_cons_zero, Option.some.injEq] at hio
              subst hio
              have t29 : T.getD 29 undef = .bool false := (TS.out 29 14 _ (by decide) (by decide) (PRE.out ⟨14, .data⟩ (by simp) rfl) V14.out).1
              have t32 : T.getD 32 undef = .bool false := (TS.out 32 17 _ (by decide) (by decide) (PRE.out ⟨17, .data⟩ (by simp) rfl) V17.out).1
              have vj := V18.out
              refine wpOp_by rfl fun K HK => ?_
              rw [vj] at HK
              clear vj
              go_wp2_with (fail)
              exact HK.out _ _ ⟨rfl, HB.out⟩
            | k + 19, hio => simp at hio
          case hendP =>
            intro W1 hB
            rw [show tabT _ (ownR 15 19) V (Array.replicate _ true) = #[.slice (some ⟨g, o, none⟩) n cap, undef, u2, .int .i64 (i : Int), .pointer (some ⟨wr.heap.size, 0, none⟩), .slice (some ⟨g, o, none⟩) n cap, .int .i64 (n : Int), .bool (decide ((64 : Int) < (n : Int))), .slice (some ⟨g, o, none⟩) n cap, .int .i64 (n : Int), .int .i64 (i : Int), .bool true, .int .i64 (i : Int), .pointer (some ⟨g, o + i * 18, none⟩), .agg A, .int .i64 (i : Int), .bool false, .bool false, undef, undef, undef, undef, undef, undef, undef, undef, undef, undef, .bool false, .bool false, .agg A, .bool true, .bool false, .bool false, u34] from HCONC.out]
            clear HCONC V0 V1 V2 V3 V4 V5 V6 V7 V8 V9 V10 V11 V12 V13 V14 V15 V16 V17 V18
            have HB1 := Lib.hid (HB.out.trans ((Y0.out _ hB).mono HB.out.size))
            clear hB
            have hres : okB f i = true := by rw [OKH.out]; simp [HZ0.out]
            have HRES := Lib.hid (okB_next HA.out hres)
            clear hres
            go_wp2
            go_roundw
            case rel => exact ⟨i + 1, HI.out, by go_num, HB1.out, HRES.out⟩
            case measure => have := HI.out; simp [intOf]; omega
        | false =>
          obtain ⟨V, v0, v1, v2, v3, v4, v5, v6, v7, v8, v9, v10, v11, v12, v13, v14, v15, v16, v17, v18⟩ : ∃ V : Nat → Value, V 0 = .int .i64 (i : Int) ∧ V 1 = .bool false ∧ V 2 = .bool false ∧ V 3 = undef ∧ V 4 = undef ∧ V 5 = undef ∧ V 6 = undef ∧ V 7 = undef ∧ V 8 = undef ∧ V 9 = undef ∧ V 10 = undef ∧ V 11 = undef ∧ V 12 = undef ∧ V 13 = .bool false ∧ V 14 = .bool false ∧ V 15 = .agg A ∧ V 16 = .bool false ∧ V 17 = .bool true ∧ V 18 = .bool true := ⟨fun s0 => match s0 with | 0 => .int .i64 (i : Int) | 1 => .bool false | 2 => .bool false | 3 => undef | 4 => undef | 5 => undef | 6 => undef | 7 => undef | 8 => undef | 9 => undef | 10 => undef | 11 => undef | 12 => undef | 13 => .bool false | 14 => .bool false | 15 => .agg A | 16 => .bool false | 17 => .bool true | 18 => .bool true | _ => undef, rfl, rfl, rfl, rfl, rfl, rfl, rfl, rfl, rfl, rfl, rfl, rfl, rfl, rfl, rfl, rfl, rfl, rfl, rfl⟩
          have hconc : tabT #[.slice (some ⟨g, o, none⟩) n cap, undef, u2, .int .i64 (i : Int), .pointer (some ⟨wr.heap.size, 0, none⟩), .slice (some ⟨g, o, none⟩) n cap, .int .i64 (n : Int), .bool (decide ((64 : Int) < (n : Int))), .slice (some ⟨g, o, none⟩) n cap, .int .i64 (n : Int), .int .i64 (i : Int), .bool true, .int .i64 (i : Int), .pointer (some ⟨g, o + i * 18, none⟩), .agg A, u15, u16, u17, u18, u19, u20, u21, u22, u23, u24, u25, u26, u27, u28, u29, u30, u31, u32, u33, u34] (ownR 15 19) V (Array.replicate 19 true) = #[.slice (some ⟨g, o, none⟩) n cap, undef, u2, .int .i64 (i : Int), .pointer (some ⟨wr.heap.size, 0, none⟩), .slice (some ⟨g, o, none⟩) n cap, .int .i64 (n : Int), .bool (decide ((64 : Int) < (n : Int))), .slice (some ⟨g, o, none⟩) n cap, .int .i64 (n : Int), .int .i64 (i : Int), .bool true, .int .i64 (i : Int), .pointer (some ⟨g, o + i * 18, none⟩), .agg A, .int .i64 (i : Int), .bool false, .bool false, undef, undef, undef, undef, undef, undef, undef, undef, undef, undef, .bool false, .bool false, .agg A, .bool false, .bool true, .bool true, u34] := by simp [tabT, ownR, v0, v1, v2, v3, v4, v5, v6, v7, v8, v9, v10, v11, v12, v13, v14, v15, v16, v17, v18]
          have V0 := Lib.hid v0
          have V1 := Lib.hid v1
          have V2 := Lib.hid v2
          have V3 := Lib.hid v3
          have V4 := Lib.hid v4
          have V5 := Lib.hid v5
          have V6 := Lib.hid v6
          have V7 := Lib.hid v7
          have V8 := Lib.hid v8
          have V9 := Lib.hid v9
          have V10 := Lib.hid v10
          have V11 := Lib.hid v11
          have V12 := Lib.hid v12
          have V13 := Lib.hid v13
          have V14 := Lib.hid v14
          have V15 := Lib.hid v15
          have V16 := Lib.hid v16
          have V17 := Lib.hid v17
          have V18 := Lib.hid v18
          have HCONC := Lib.hid hconc
          clear hconc v0 v1 v2 v3 v4 v5 v6 v7 v8 v9 v10 v11 v12 v13 v14 v15 v16 v17 v18
          refine wp_region_table (by kernel_rfl) (by kernel_rfl) 19 rfl V (ownR 15 19) (fun i => i + 15) (fun i hi => ownR_hit (show i < 19 from hi)) (fun s i hs => (show i < 19 from ownR_lt hs)) ?hstepQ ?hendQ
          case hstepQ =>
            intro oi oo listed T W hio hB hpre hts htn
            have HB := Lib.hid hB
            have PRE := Lib.hid hpre
            have TS : Hid (∀ (s j : Nat) (v : Value), s < 35 → (ownR 15 19) s = some j → listed.getD j false = true → V j = v → T.getD s undef = v ∧ T[s]? = some v) := Lib.hid hts
            have R0 : Hid (T.getD 0 undef = .slice (some ⟨g, o, none⟩) n cap) := Lib.hid (htn 0 (by decide))
            have R3 : Hid (T.getD 3 undef = .int .i64 (i : Int)) := Lib.hid (htn 3 (by decide))
            have R4 : Hid (T.getD 4 undef = .pointer (some ⟨wr.heap.size, 0, none⟩)) := Lib.hid (htn 4 (by decide))
            clear hB hpre hts htn HCONC
            match oi, hio with
            | 0, hio =>
              clear hio
              have t3 : T.getD 3 undef = .int .i64 (i : Int) := R3.out
              have vj := V0.out
              refine wpOp_by rfl fun K HK => ?_
              rw [vj] at HK
              clear vj
              go_wp2_with (fail)
              exact HK.out _ _ ⟨rfl, HB.out⟩
            | 1, hio =>
              simp only [List.getElem?_toArray, List.getElem?_cons_succ, List.getElem?_cons_zero, Option.some.injEq] at hio
              subst hio
              have t15 : T.getD 15 undef = .int .i64 (i : Int) := (TS.out 15 0 _ (by decide) (by decide) (PRE.out ⟨0, .data⟩ (by simp) rfl) V0.out).1
              have vj := V1.out
              refine wpOp_by rfl fun K HK => ?_
              rw [vj] at HK
              clear vj
              go_wp2_with (fail)
              exact HK.out _ _ ⟨rfl, HB.out⟩
            | 2, hio =>
              simp only [List.getElem?_toArray, List.getElem?_cons_succ, List.getElem?_cons_zero, Option.some.injEq] at hio
              subst hio
              have t16 : T.getD 16 undef = .bool false := (TS.out 16 1 _ (by decide) (by decide) (PRE.out ⟨1, .data⟩ (by simp) rfl) V1.out).1
              have vj := V2.out
              refine wpOp_by rfl fun K HK => ?_
              rw [vj] at HK
              clear vj
              go_wp2_with (fail)
              exact HK.out _ _ ⟨rfl, HB.out⟩
            | 3, hio =>
              simp only [List.getElem?_toArray, List.getElem?_cons_succ, List.getElem?_cons_zero, Option.some.injEq] at hio
              subst hio
              have g17 : T[17]? = some (.bool false) := (TS.out 17 2 _ (by decide) (by decide) (PRE.out ⟨2, .guard⟩ (by simp) rfl) V2.out).2
              have t0 : T.getD 0 undef = .slice (some ⟨g, o, none⟩) n cap := R0.out
              have vj := V3.out
              refine wpOp_by rfl fun K HK => ?_
              rw [vj] at HK
              clear vj
              go_wp2_with (fail)
              exact HK.out _ _ ⟨rfl, HB.out⟩
            | 4, hio =>
              simp only [List.getElem?_toArray, List.getElem?_cons_succ, List.getElem?_cons_zero, Option.some.injEq] at hio
              subst hio
              have g17 : T[17]? = some (.bool false) := (TS.out 17 2 _ (by decide) (by decide) (PRE.out ⟨2, .guard⟩ (by simp) rfl) V2.out).2
              have t3 : T.getD 3 undef = .int .i64 (i : Int) := R3.out
              have vj := V4.out
              refine wpOp_by rfl fun K HK => ?_
              rw [vj] at HK
              clear vj
              go_wp2_with (fail)
              exact HK.out _ _ ⟨rfl, HB.out⟩
            | 5, hio =>
              simp only [List.getElem?_toArray, List.getElem?_cons_succ, List.getElem?_cons_zero, Option.some.injEq] at hio
              subst hio
              have g17 : T[17]? = some (.bool false) := (TS.out 17 2 _ (by decide) (by decide) (PRE.out ⟨2, .guard⟩ (by simp) rfl) V2.out).2
              have vj := V5.out
              refine wpOp_by rfl fun K HK => ?_
              rw [vj] at HK
              clear vj
              go_wp2_with (fail)
              exact HK.out _ _ ⟨rfl, HB.out⟩
            | 6, hio =>
              simp only [List.getElem?_toArray, List.getElem?_cons_succ, List.getElem?_cons_zero, Option.some.injEq] at hio
              subst hio
              have g17 : T[17]? = some (.bool false) := (TS.out 17 2 _ (by decide) (by decide) (PRE.out ⟨2, .guard⟩ (by simp) rfl) V2.out).2
              have vj := V6.out
              refine wpOp_by rfl fun K HK => ?_
              rw [vj] at HK
              clear vj
              go_wp2_with (fail)
              exact HK.out _ _ ⟨rfl, HB.out⟩
            | 7, hio =>
              simp only [List.getElem?_toArray, List.getElem?_cons_succ, List.getElem?_cons_zero, Option.some.injEq] at hio
              subst hio
              have g17 : T[17]? = some (.bool false) := (TS.out 17 2 _ (by decide) (by decide) (PRE.out ⟨2, .guard⟩ (by simp) rfl) V2.out).2
              have vj := V7.out
              refine wpOp_by rfl fun K HK => ?_
              rw [vj] at HK
              clear vj
              go_wp2_with (fail)
              exact HK.out _ _ ⟨rfl, HB.out⟩
            | 8, hio =>
              simp only [List.getElem?_toArray, List.getElem?_cons_succ, List.getElem?_cons_zero, Option.some.injEq] at hio
              subst hio
              have g17 : T[17]? = some (.bool false) := (TS.out 17 2 _ (by decide) (by decide) (PRE.out ⟨2, .guard⟩ (by simp) rfl) V2.out).2
              have vj := V8.out
              refine wpOp_by rfl fun K HK => ?_
              rw [vj] at HK
              clear vj
              go_wp2_with (fail)
              exact HK.out _ _ ⟨rfl, HB.out⟩
            | 9, hio =>
              simp only [List.getElem?_toArray, List.getElem?_cons_succ, List.getElem?_cons_zero, Option.some.injEq] at hio
              subst hio
              have g17 : T[17]? = some (.bool false) := (TS.out 17 2 _ (by decide) (by decide) (PRE.out ⟨2, .guard⟩ (by simp) rfl) V2.out).2
              have t4 : T.getD 4 undef = .pointer (some ⟨wr.heap.size, 0, none⟩) := R4.out
              have vj := V9.out
              refine wpOp_by rfl fun K HK => ?_
              rw [vj] at HK
              clear vj
              go_wp2_with (fail)
              exact HK.out _ _ ⟨rfl, HB.out⟩
            | 10, hio =>
              simp only [List.getElem?_toArray, List.getElem?_cons_succ, List.getElem?_cons_zero, Option.some.injEq] at hio
              subst hio
              have g17 : T[17]? = some (.bool false) := (TS.out 17 2 _ (by decide) (by decide) (PRE.out ⟨2, .guard⟩ (by simp) rfl) V2.out).2
              have vj := V10.out
              refine wpOp_by rfl fun K HK => ?_
              rw [vj] at HK
              clear vj
              go_wp2_with (fail)
              exact HK.out _ _ ⟨rfl, HB.out⟩
            | 11, hio =>
              simp only [List.getElem?_toArray, List.getElem?_cons_succ, List.getElem?_cons_zero, Option.some.injEq] at hio
              subst hio
              have g17 : T[17]? = some (.bool false) := (TS.out 17 2 _ (by decide) (by decide) (PRE.out ⟨2, .guard⟩ (by simp) rfl) V2.out).2
              have vj := V11.out
              refine wpOp_by rfl fun K HK => ?_
              rw [vj] at HK
              clear vj
              go_wp2_with (fail)
              exact HK.out _ _ ⟨rfl, HB.out⟩
            | 12, hio =>
              simp only [List.getElem?_toArray, List.getElem?_cons_succ, List.getElem?_cons_zero, Option.some.injEq] at hio
              subst hio
              have g17 : T[17]? = some (.bool false) := (TS.out 17 2 _ (by decide) (by decide) (PRE.out ⟨2, .guard⟩ (by simp) rfl) V2.out).2
              have vj := V12.out
              refine wpOp_by rfl fun K HK => ?_
              rw [vj] at HK
              clear vj
              go_wp2_with (fail)
              exact HK.out _ _ ⟨rfl, HB.out⟩
            | 13, hio =>
              simp only [List.getElem?_toArray, List.getElem?_cons_succ, List.getElem?_cons_zero, Option.some.injEq] at hio
              subst hio
              have t17 : T.getD 17 undef = .bool false := (TS.out 17 2 _ (by decide) (by decide) (PRE.out ⟨2, .data⟩ (by simp) rfl) V2.out).1
              have vj := V13.out
              refine wpOp_by rfl fun K HK => ?_
              rw [vj] at HK
              clear vj
              go_wp2_with (fail)
              exact HK.out _ _ ⟨rfl, HB.out⟩
            | 14, hio =>
              simp only [List.getElem?_toArray, List.getElem?_cons_succ, List.getElem?_cons_zero, Option.some.injEq] at hio
              subst hio
              have t28 : T.getD 28 undef = .bool false := (TS.out 28 13 _ (by decide) (by decide) (PRE.out ⟨13, .data⟩ (by simp) rfl) V13.out).1
              have vj := V14.out
              refine wpOp_by rfl fun K HK => ?_
              rw [vj] at HK
              clear vj
              go_wp2_with (fail)
              exact HK.out _ _ ⟨rfl, HB.out⟩
            | 15, hio =>
              simp only [List.getElem?_toArray, List.getElem?_cons_succ, List.getElem?_cons_zero, Option.some.injEq] at hio
              subst hio
              have g29 : T[29]? = some (.bool false) := (TS.out 29 14 _ (by decide) (by decide) (PRE.out ⟨14, .guard⟩ (by simp) rfl) V14.out).2
              have t4 : T.getD 4 undef = .pointer (some ⟨wr.heap.size, 0, none⟩) := R4.out
              have vj := V15.out
              refine wpOp_by rfl fun K HK => ?_
              rw [vj] at HK
              clear vj
              refine wpList_load_rowg (by simp [Region.wanted, yielded, g29]) 73 _ rfl wr.heap.size t4 73 _ _ _ (YB.out W HB.out) Try.underlying73 rfl (ib_info _ A18.out) ?_
              go_wp2
              exact HK.out _ _ ⟨rfl, HB.out⟩
            | 16, hio =>
              simp only [List.getElem?_toArray, List.getElem?_cons_succ, List.getElem?_cons_zero, Option.some.injEq] at hio
              subst hio
              have t30 : T.getD 30 undef = .agg A := (TS.out 30 15 _ (by decide) (by decide) (PRE.out ⟨15, .data⟩ (by simp) rfl) V15.out).1
              have g29 : T[29]? = some (.bool false) := (TS.out 29 14 _ (by decide) (by decide) (PRE.out ⟨14, .guard⟩ (by simp) rfl) V14.out).2
              have vj := V16.out
              refine wpOp_by rfl fun K HK => ?_
              rw [vj] at HK
              clear vj
              go_wp2_with fail
              refine (HPC.out W).mono ?_
              rintro e W' ⟨rfl, hb⟩
              go_wp2
              exact HK.out _ _ ⟨rfl, HB.out.trans (hb.mono HB.out.size)⟩
            | 17, hio =>
              simp only [List.getElem?_toArray, List.getElem?_cons_succ, List.getElem?_cons_zero, Option.some.injEq] at hio
              subst hio
              have t31 : T.getD 31 undef = .bool false := (TS.out 31 16 _ (by decide) (by decide) (PRE.out ⟨16, .data⟩ (by simp) rfl) V16.out).1
              have g29 : T[29]? = some (.bool false) := (TS.out 29 14 _ (by decide) (by decide) (PRE.out ⟨14, .guard⟩ (by simp) rfl) V14.out).2
              have vj := V17.out
              refine wpOp_by rfl fun K HK => ?_
              rw [vj] at HK
              clear vj
              go_wp2_with (fail)
              exact HK.out _ _ ⟨rfl, HB.out⟩
            | 18, hio =>
              simp only [List.getElem?_toArray, List.getElem?_cons_succ, List.getElem?_cons_zero, Option.some.injEq] at hio
              subst hio
              have t29 : T.getD 29 undef = .bool false := (TS.out 29 14 _ (by decide) (by decide) (PRE.out ⟨14, .data⟩ (by simp) rfl) V14.out).1
              have t32 : T.getD 32 undef = .bool true := (TS.out 32 17 _ (by decide) (by decide) (PRE.out ⟨17, .data⟩ (by simp) rfl) V17.out).1
              have vj := V18.out
              refine wpOp_by rfl fun K HK => ?_
              rw [vj] at HK
              clear vj
              go_wp2_with (fail)
              exact HK.out _ _ ⟨rfl, HB.out⟩
            | k + 19, hio => simp at hio
          case hendQ =>
            intro W1 hB
            rw [show tabT _ (ownR 15 19) V (Array.replicate _ true) = #[.slice (some ⟨g, o, none⟩) n cap, undef, u2, .int .i64 (i : Int), .pointer (some ⟨wr.heap.size, 0, none⟩), .slice (some ⟨g, o, none⟩) n cap, .int .i64 (n : Int), .bool (decide ((64 : Int) < (n : Int))), .slice (some ⟨g, o, none⟩) n cap, .int .i64 (n : Int), .int .i64 (i : Int), .bool true, .int .i64 (i : Int), .pointer (some ⟨g, o + i * 18, none⟩), .agg A, .int .i64 (i : Int), .bool false, .bool false, undef, undef, undef, undef, undef, undef, undef, undef, undef, undef, .bool false, .bool false, .agg A, .bool false, .bool true, .bool true, u34] from HCONC.out]
            clear HCONC V0 V1 V2 V3 V4 V5 V6 V7 V8 V9 V10 V11 V12 V13 V14 V15 V16 V17 V18
            have HB1 := Lib.hid (HB.out.trans ((Y0.out _ hB).mono HB.out.size))
            clear hB
            have hres : okB f i = false := by rw [OKH.out]; simp
            have HRES := Lib.hid (okB_false HI.out hres)
            clear hres
            go_wp2
            go_ret
            rw [HRES.out]
            exact ⟨rfl, HB1.out⟩
      · have hz : (0 : Int) < (i : Int) := by omega
        have hzn : decide (0 < i) = true := decide_eq_true (by omega)
        have HZ0 := Lib.hid hz0
        clear hz0
        have hz1 : (0 : Int) ≤ (i : Int) - 1 := by omega
        have hz2 : ((i : Int) - 1).toNat = i - 1 := by omega
        have hz3 : (i : Int) - 1 < (n : Int) := by omega
        cases L with
        | false =>
          have hc0 : (0 : Int) ≤ c := by have := CL.out; rcases Int.lt_or_le c 0 with h | h; exact absurd (this.1 h) (by simp); exact h
          have hc1 : decide (c ≥ 0) = true := decide_eq_true hc0
          obtain ⟨V, v0, v1, v2, v3, v4, v5, v6, v7, v8, v9, v10, v11, v12, v13, v14, v15, v16, v17, v18⟩ : ∃ V : Nat → Value, V 0 = .int .i64 (i : Int) ∧ V 1 = .bool true ∧ V 2 = .bool true ∧ V 3 = .slice (some ⟨g, o, none⟩) n cap ∧ V 4 = .int .i64 (i : Int) ∧ V 5 = .int .i64 ((i : Int) - 1) ∧ V 6 = .pointer (some ⟨g, o + (i - 1) * 18, none⟩) ∧ V 7 = .pointer (some ⟨g, o + (i - 1) * 18, none⟩) ∧ V 8 = .agg #[.int .i32 p0, .int .i32 q0] ∧ V 9 = .pointer (some ⟨wr.heap.size, 0, none⟩) ∧ V 10 = .agg #[.int .i32 p, .int .i32 q] ∧ V 11 = .int .i64 c ∧ V 12 = .bool true ∧ V 13 = .bool true ∧ V 14 = .bool true ∧ V 15 = undef ∧ V 16 = undef ∧ V 17 = undef ∧ V 18 = .bool true := ⟨fun s0 => match s0 with | 0 => .int .i64 (i : Int) | 1 => .bool true | 2 => .bool true | 3 => .slice (some ⟨g, o, none⟩) n cap | 4 => .int .i64 (i : Int) | 5 => .int .i64 ((i : Int) - 1) | 6 => .pointer (some ⟨g, o + (i - 1) * 18, none⟩) | 7 => .pointer (some ⟨g, o + (i - 1) * 18, none⟩) | 8 => .agg #[.int .i32 p0, .int .i32 q0] | 9 => .pointer (some ⟨wr.heap.size, 0, none⟩) | 10 => .agg #[.int .i32 p, .int .i32 q] | 11 => .int .i64 c | 12 => .bool true | 13 => .bool true | 14 => .bool true | 15 => undef | 16 => undef | 17 => undef | 18 => .bool true | _ => undef, rfl, rfl, rfl, rfl, rfl, rfl, rfl, rfl, rfl, rfl, rfl, rfl, rfl, rfl, rfl, rfl, rfl, rfl, rfl⟩
          have hconc : tabT #[.slice (some ⟨g, o, none⟩) n cap, undef, u2, .int .i64 (i : Int), .pointer (some ⟨wr.heap.size, 0, none⟩), .slice (some ⟨g, o, none⟩) n cap, .int .i64 (n : Int), .bool (decide ((64 : Int) < (n : Int))), .slice (some ⟨g, o, none⟩) n cap, .int .i64 (n : Int), .int .i64 (i : Int), .bool true, .int .i64 (i : Int), .pointer (some ⟨g, o + i * 18, none⟩), .agg A, u15, u16, u17, u18, u19, u20, u21, u22, u23, u24, u25, u26, u27, u28, u29, u30, u31, u32, u33, u34] (ownR 15 19) V (Array.replicate 19 true) = #[.slice (some ⟨g, o, none⟩) n cap, undef, u2, .int .i64 (i : Int), .pointer (some ⟨wr.heap.size, 0, none⟩), .slice (some ⟨g, o, none⟩) n cap, .int .i64 (n : Int), .bool (decide ((64 : Int) < (n : Int))), .slice (some ⟨g, o, none⟩) n cap, .int .i64 (n : Int), .int .i64 (i : Int), .bool true, .int .i64 (i : Int), .pointer (some ⟨g, o + i * 18, none⟩), .agg A, .int .i64 (i : Int), .bool true, .bool true, .slice (some ⟨g, o, none⟩) n cap, .int .i64 (i : Int), .int .i64 ((i : Int) - 1), .pointer (some ⟨g, o + (i - 1) * 18, none⟩), .pointer (some ⟨g, o + (i - 1) * 18, none⟩), .agg #[.int .i32 p0, .int .i32 q0], .pointer (some ⟨wr.heap.size, 0, none⟩), .agg #[.int .i32 p, .int .i32 q], .int .i64 c, .bool true, .bool true, .bool true, undef, undef, undef, .bool true, u34] := by simp [tabT, ownR, v0, v1, v2, v3, v4, v5, v6, v7, v8, v9, v10, v11, v12, v13, v14, v15, v16, v17, v18]
          have V0 := Lib.hid v0
          have V1 := Lib.hid v1
          have V2 := Lib.hid v2
          have V3 := Lib.hid v3
          have V4 := Lib.hid v4
          have V5 := Lib.hid v5
          have V6 := Lib.hid v6
          have V7 := Lib.hid v7
          have V8 := Lib.hid v8
          have V9 := Lib.hid v9
          have V10 := Lib.hid v10
          have V11 := Lib.hid v11
          have V12 := Lib.hid v12
          have V13 := Lib.hid v13
          have V14 := Lib.hid v14
          have V15 := Lib.hid v15
          have V16 := Lib.hid v16
          have V17 := Lib.hid v17
          have V18 := Lib.hid v18
          have HCONC := Lib.hid hconc
          clear hconc v0 v1 v2 v3 v4 v5 v6 v7 v8 v9 v10 v11 v12 v13 v14 v15 v16 v17 v18
          refine wp_region_table (by kernel_rfl) (by kernel_rfl) 19 rfl V (ownR 15 19) (fun i => i + 15) (fun i hi => ownR_hit (show i < 19 from hi)) (fun s i hs => (show i < 19 from ownR_lt hs)) ?hstepR ?hendR
          case hstepR =>
            intro oi oo listed T W hio hB hpre hts htn
            have HB := Lib.hid hB
            have PRE := Lib.hid hpre
            have TS : Hid (∀ (s j : Nat) (v : Value), s < 35 → (ownR 15 19) s = some j → listed.getD j false = true → V j = v → T.getD s undef = v ∧ T[s]? = some v) := Lib.hid hts
            have R0 : Hid (T.getD 0 undef = .slice (some ⟨g, o, none⟩) n cap) := Lib.hid (htn 0 (by decide))
            have R3 : Hid (T.getD 3 undef = .int .i64 (i : Int)) := Lib.hid (htn 3 (by decide))
            have R4 : Hid (T.getD 4 undef = .pointer (some ⟨wr.heap.size, 0, none⟩)) := Lib.hid (htn 4 (by decide))
            clear hB hpre hts htn HCONC
            match oi, hio with
            | 0, hio =>
              clear hio
              have t3 : T.getD 3 undef = .int .i64 (i : Int) := R3.out
              have vj := V0.out
              refine wpOp_by rfl fun K HK => ?_
              rw [vj] at HK
              clear vj
              go_wp2_with (fail)
              exact HK.out _ _ ⟨rfl, HB.out⟩
            | 1, hio =>
              simp only [List.getElem?_toArray, List.getElem?_cons_succ, List.getElem?_cons_zero, Option.some.injEq] at hio
              subst hio
              have t15 : T.getD 15 undef = .int .i64 (i : Int) := (TS.out 15 0 _ (by decide) (by decide) (PRE.out ⟨0, .data⟩ (by simp) rfl) V0.out).1
              have vj := V1.out
              refine wpOp_by rfl fun K HK => ?_
              rw [vj] at HK
              clear vj
              go_wp2_with (fail)
              exact HK.out _ _ ⟨rfl, HB.out⟩
            | 2, hio =>
              simp only [List.getElem?_toArray, List.getElem?_cons_succ, List.getElem?_cons_zero, Option.some.injEq] at hio
              subst hio
              have t16 : T.getD 16 undef = .bool true := (TS.out 16 1 _ (by decide) (by decide) (PRE.out ⟨1, .data⟩ (by simp) rfl) V1.out).1
              have vj := V2.out
              refine wpOp_by rfl fun K HK => ?_
              rw [vj] at HK
              clear vj
              go_wp2_with (fail)
              exact HK.out _ _ ⟨rfl, HB.out⟩
            | 3, hio =>
              simp only [List.getElem?_toArray, List.getElem?_cons_succ, List.getElem?_cons_zero, Option.some.injEq] at hio
              subst hio
              have g17 : T[17]? = some (.bool true) := (TS.out 17 2 _ (by decide) (by decide) (PRE.out ⟨2, .guard⟩ (by simp) rfl) V2.out).2
              have t0 : T.getD 0 undef = .slice (some ⟨g, o, none⟩) n cap := R0.out
              have vj := V3.out
              refine wpOp_by rfl fun K HK => ?_
              rw [vj] at HK
              clear vj
              go_wp2_with (fail)
              exact HK.out _ _ ⟨rfl, HB.out⟩
            | 4, hio =>
              simp only [List.getElem?_toArray, List.getElem?_cons_succ, List.getElem?_cons_zero, Option.some.injEq] at hio
              subst hio
              have g17 : T[17]? = some (.bool true) := (TS.out 17 2 _ (by decide) (by decide) (PRE.out ⟨2, .guard⟩ (by simp) rfl) V2.out).2
              have t3 : T.getD 3 undef = .int .i64 (i : Int) := R3.out
              have vj := V4.out
              refine wpOp_by rfl fun K HK => ?_
              rw [vj] at HK
              clear vj
              go_wp2_with (fail)
              exact HK.out _ _ ⟨rfl, HB.out⟩
            | 5, hio =>
              simp only [List.getElem?_toArray, List.getElem?_cons_succ, List.getElem?_cons_zero, Option.some.injEq] at hio
              subst hio
              have t19 : T.getD 19 undef = .int .i64 (i : Int) := (TS.out 19 4 _ (by decide) (by decide) (PRE.out ⟨4, .data⟩ (by simp) rfl) V4.out).1
              have g17 : T[17]? = some (.bool true) := (TS.out 17 2 _ (by decide) (by decide) (PRE.out ⟨2, .guard⟩ (by simp) rfl) V2.out).2
              have vj := V5.out
              refine wpOp_by rfl fun K HK => ?_
              rw [vj] at HK
              clear vj
              go_wp2_with (fail)
              exact HK.out _ _ ⟨rfl, HB.out⟩
            | 6, hio =>
              simp only [List.getElem?_toArray, List.getElem?_cons_succ, List.getElem?_cons_zero, Option.some.injEq] at hio
              subst hio
              have t18 : T.getD 18 undef = .slice (some ⟨g, o, none⟩) n cap := (TS.out 18 3 _ (by decide) (by decide) (PRE.out ⟨3, .data⟩ (by simp) rfl) V3.out).1
              have t20 : T.getD 20 undef = .int .i64 ((i : Int) - 1) := (TS.out 20 5 _ (by decide) (by decide) (PRE.out ⟨5, .data⟩ (by simp) rfl) V5.out).1
              have g17 : T[17]? = some (.bool true) := (TS.out 17 2 _ (by decide) (by decide) (PRE.out ⟨2, .guard⟩ (by simp) rfl) V2.out).2
              have vj := V6.out
              refine wpOp_by rfl fun K HK => ?_
              rw [vj] at HK
              clear vj
              go_wp2_with (fail)
              exact HK.out _ _ ⟨rfl, HB.out⟩
            | 7, hio =>
              simp only [List.getElem?_toArray, List.getElem?_cons_succ, List.getElem?_cons_zero, Option.some.injEq] at hio
              subst hio
              have t21 : T.getD 21 undef = .pointer (some ⟨g, o + (i - 1) * 18, none⟩) := (TS.out 21 6 _ (by decide) (by decide) (PRE.out ⟨6, .data⟩ (by simp) rfl) V6.out).1
              have g17 : T[17]? = some (.bool true) := (TS.out 17 2 _ (by decide) (by decide) (PRE.out ⟨2, .guard⟩ (by simp) rfl) V2.out).2
              have vj := V7.out
              refine wpOp_by rfl fun K HK => ?_
              rw [vj] at HK
              clear vj
              go_wp2_with (fail)
              exact HK.out _ _ ⟨rfl, HB.out⟩
            | 8, hio =>
              simp only [List.getElem?_toArray, List.getElem?_cons_succ, List.getElem?_cons_zero, Option.some.injEq] at hio
              subst hio
              have t22 : T.getD 22 undef = .pointer (some ⟨g, o + (i - 1) * 18, none⟩) := (TS.out 22 7 _ (by decide) (by decide) (PRE.out ⟨7, .data⟩ (by simp) rfl) V7.out).1
              have g17 : T[17]? = some (.bool true) := (TS.out 17 2 _ (by decide) (by decide) (PRE.out ⟨2, .guard⟩ (by simp) rfl) V2.out).2
              have d0 : W.cell? ⟨g, o + (i - 1) * 18, none⟩ = some (.int .i32 p0) := LC0.out W (Y0.out W HB.out) 0 _ rfl
              have d1 : W.cell? ⟨g, o + (i - 1) * 18 + 1, none⟩ = some (.int .i32 q0) := LC0.out W (Y0.out W HB.out) 1 _ rfl
              have vj := V8.out
              refine wpOp_by rfl fun K HK => ?_
              rw [vj] at HK
              clear vj
              go_wp2_with (fail)
              exact HK.out _ _ ⟨rfl, HB.out⟩
            | 9, hio =>
              simp only [List.getElem?_toArray, List.getElem?_cons_succ, List.getElem?_cons_zero, Option.some.injEq] at hio
              subst hio
              have g17 : T[17]? = some (.bool true) := (TS.out 17 2 _ (by decide) (by decide) (PRE.out ⟨2, .guard⟩ (by simp) rfl) V2.out).2
              have t4 : T.getD 4 undef = .pointer (some ⟨wr.heap.size, 0, none⟩) := R4.out
              have vj := V9.out
              refine wpOp_by rfl fun K HK => ?_
              rw [vj] at HK
              clear vj
              go_wp2_with (fail)
              exact HK.out _ _ ⟨rfl, HB.out⟩
            | 10, hio =>
              simp only [List.getElem?_toArray, List.getElem?_cons_succ, List.getElem?_cons_zero, Option.some.injEq] at hio
              subst hio
              have t24 : T.getD 24 undef = .pointer (some ⟨wr.heap.size, 0, none⟩) := (TS.out 24 9 _ (by decide) (by decide) (PRE.out ⟨9, .data⟩ (by simp) rfl) V9.out).1
              have g17 : T[17]? = some (.bool true) := (TS.out 17 2 _ (by decide) (by decide) (PRE.out ⟨2, .guard⟩ (by simp) rfl) V2.out).2
              have d0 : W.cell? ⟨wr.heap.size, 0, none⟩ = some (.int .i32 p) := (Lib.cell_of_heap (YB.out W HB.out) 0).trans (PA.out 0 _ rfl)
              have d1 : W.cell? ⟨wr.heap.size, 1, none⟩ = some (.int .i32 q) := (Lib.cell_of_heap (YB.out W HB.out) 1).trans (PA.out 1 _ rfl)
              have vj := V10.out
              refine wpOp_by rfl fun K HK => ?_
              rw [vj] at HK
              clear vj
              go_wp2_with (fail)
              exact HK.out _ _ ⟨rfl, HB.out⟩
            | 11, hio =>
              simp only [List.getElem?_toArray, List.getElem?_cons_succ, List.getElem?_cons_zero, Option.some.injEq] at hio
              subst hio
              have t23 : T.getD 23 undef = .agg #[.int .i32 p0, .int .i32 q0] := (TS.out 23 8 _ (by decide) (by decide) (PRE.out ⟨8, .data⟩ (by simp) rfl) V8.out).1
              have t25 : T.getD 25 undef = .agg #[.int .i32 p, .int .i32 q] := (TS.out 25 10 _ (by decide) (by decide) (PRE.out ⟨10, .data⟩ (by simp) rfl) V10.out).1
              have g17 : T[17]? = some (.bool true) := (TS.out 17 2 _ (by decide) (by decide) (PRE.out ⟨2, .guard⟩ (by simp) rfl) V2.out).2
              have vj := V11.out
              refine wpOp_by rfl fun K HK => ?_
              rw [vj] at HK
              clear vj
              go_wp2_with fail
              refine (CMPR.out W).mono ?_
              rintro e W' ⟨rfl, hb⟩
              go_wp2
              exact HK.out _ _ ⟨rfl, HB.out.trans (hb.mono HB.out.size)⟩
            | 12, hio =>
              simp only [List.getElem?_toArray, List.getElem?_cons_succ, List.getElem?_cons_zero, Option.some.injEq] at hio
              subst hio
              have t26 : T.getD 26 undef = .int .i64 c := (TS.out 26 11 _ (by decide) (by decide) (PRE.out ⟨11, .data⟩ (by simp) rfl) V11.out).1
              have g17 : T[17]? = some (.bool true) := (TS.out 17 2 _ (by decide) (by decide) (PRE.out ⟨2, .guard⟩ (by simp) rfl) V2.out).2
              have vj := V12.out
              refine wpOp_by rfl fun K HK => ?_
              rw [vj] at HK
              clear vj
              go_wp2_with (fail)
              exact HK.out _ _ ⟨rfl, HB.out⟩
            | 13, hio =>
              simp only [List.getElem?_toArray, List.getElem?_cons_succ, List.getElem?_cons_zero, Option.some.injEq] at hio
              subst hio
              have t17 : T.getD 17 undef = .bool true := (TS.out 17 2 _ (by decide) (by decide) (PRE.out ⟨2, .data⟩ (by simp) rfl) V2.out).1
              have t27 : T.getD 27 undef = .bool true := (TS.out 27 12 _ (by decide) (by decide) (PRE.out ⟨12, .data⟩ (by simp) rfl) V12.out).1
              have vj := V13.out
              refine wpOp_by rfl fun K HK => ?_
              rw [vj] at HK
              clear vj
              go_wp2_with (fail)
              exact HK.out _ _ ⟨rfl, HB.out⟩
            | 14, hio =>
              simp only [List.getElem?_toArray, List.getElem?_cons_succ, List.getElem?_cons_zero, Option.some.injEq] at hio
              subst hio
              have t28 : T.getD 28 undef = .bool true := (TS.out 28 13 _ (by decide) (by decide) (PRE.out ⟨13, .data⟩ (by simp) rfl) V13.out).1
              have vj := V14.out
              refine wpOp_by rfl fun K HK => ?_
              rw [vj] at HK
              clear vj
              go_wp2_with (fail)
              exact HK.out _ _ ⟨rfl, HB.out⟩
            | 15, hio =>
              simp only [List.getElem?_toArray, List.getElem?_cons_succ, List.getElem?_cons_zero, Option.some.injEq] at hio
              subst hio
              have g29 : T[29]? = some (.bool true) := (TS.out 29 14 _ (by decide) (by decide) (PRE.out ⟨14, .guard⟩ (by simp) rfl) V14.out).2
              have t4 : T.getD 4 undef = .pointer (some ⟨wr.heap.size, 0, none⟩) := R4.out
              have vj := V15.out
              refine wpOp_by rfl fun K HK => ?_
              rw [vj] at HK
              clear vj
              go_wp2_with (fail)
              exact HK.out _ _ ⟨rfl, HB.out⟩
            | 16, hio =>
              simp only [List.getElem?_toArray, List.getElem?_cons_succ, List.getElem?_cons_zero, Option.some.injEq] at hio
              subst hio
              have g29 : T[29]? = some (.bool true) := (TS.out 29 14 _ (by decide) (by decide) (PRE.out ⟨14, .guard⟩ (by simp) rfl) V14.out).2
              have vj := V16.out
              refine wpOp_by rfl fun K HK => ?_
              rw [vj] at HK
              clear vj
              go_wp2_with (fail)
              exact HK.out _ _ ⟨rfl, HB.out⟩
            | 17, hio =>
              simp only [List.getElem?_toArray, List.getElem?_cons_succ, List.getElem?_cons_zero, Option.some.injEq] at hio
              subst hio
              have g29 : T[29]? = some (.bool true) := (TS.out 29 14 _ (by decide) (by decide) (PRE.out ⟨14, .guard⟩ (by simp) rfl) V14.out).2
              have vj := V17.out
              refine wpOp_by rfl fun K HK => ?_
              rw [vj] at HK
              clear vj
              go_wp2_with (fail)
              exact HK.out _ _ ⟨rfl, HB.out⟩
            | 18, hio =>
              simp only [List.getElem?_toArray, List.getElem?_cons_succ, List.getElem?_cons_zero, Option.some.injEq] at hio
              subst hio
              have t29 : T.getD 29 undef = .bool true := (TS.out 29 14 _ (by decide) (by decide) (PRE.out ⟨14, .data⟩ (by simp) rfl) V14.out).1
              have vj := V18.out
              refine wpOp_by rfl fun K HK => ?_
              rw [vj] at HK
              clear vj
              go_wp2_with (fail)
              exact HK.out _ _ ⟨rfl, HB.out⟩
            | k + 19, hio => simp at hio
          case hendR =>
            intro W1 hB
            rw [show tabT _ (ownR 15 19) V (Array.replicate _ true) = #[.slice (some ⟨g, o, none⟩) n cap, undef, u2, .int .i64 (i : Int), .pointer (some ⟨wr.heap.size, 0, none⟩), .slice (some ⟨g, o, none⟩) n cap, .int .i64 (n : Int), .bool (decide ((64 : Int) < (n : Int))), .slice (some ⟨g, o, none⟩) n cap, .int .i64 (n : Int), .int .i64 (i : Int), .bool true, .int .i64 (i : Int), .pointer (some ⟨g, o + i * 18, none⟩), .agg A, .int .i64 (i : Int), .bool true, .bool true, .slice (some ⟨g, o, none⟩) n cap, .int .i64 (i : Int), .int .i64 ((i : Int) - 1), .pointer (some ⟨g, o + (i - 1) * 18, none⟩), .pointer (some ⟨g, o + (i - 1) * 18, none⟩), .agg #[.int .i32 p0, .int .i32 q0], .pointer (some ⟨wr.heap.size, 0, none⟩), .agg #[.int .i32 p, .int .i32 q], .int .i64 c, .bool true, .bool true, .bool true, undef, undef, undef, .bool true, u34] from HCONC.out]
            clear HCONC V0 V1 V2 V3 V4 V5 V6 V7 V8 V9 V10 V11 V12 V13 V14 V15 V16 V17 V18
            have HB1 := Lib.hid (HB.out.trans ((Y0.out _ hB).mono HB.out.size))
            clear hB
            have hres : okB f i = false := by rw [OKH.out]; simp [HZ0.out]
            have HRES := Lib.hid (okB_false HI.out hres)
            clear hres
            go_wp2
            go_ret
            rw [HRES.out]
            exact ⟨rfl, HB1.out⟩
        | true =>
          have hc0 : c < 0 := CL.out.2 rfl
          have hc1 : decide (c ≥ 0) = false := decide_eq_false (by omega)
          cases Hp with
          | true =>
            obtain ⟨V, v0, v1, v2, v3, v4, v5, v6, v7, v8, v9, v10, v11, v12, v13, v14, v15, v16, v17, v18⟩ : ∃ V : Nat → Value, V 0 = .int .i64 (i : Int) ∧ V 1 = .bool true ∧ V 2 = .bool true ∧ V 3 = .slice (some ⟨g, o, none⟩) n cap ∧ V 4 = .int .i64 (i : Int) ∧ V 5 = .int .i64 ((i : Int) - 1) ∧ V 6 = .pointer (some ⟨g, o + (i - 1) * 18, none⟩) ∧ V 7 = .pointer (some ⟨g, o + (i - 1) * 18, none⟩) ∧ V 8 = .agg #[.int .i32 p0, .int .i32 q0] ∧ V 9 = .pointer (some ⟨wr.heap.size, 0, none⟩) ∧ V 10 = .agg #[.int .i32 p, .int .i32 q] ∧ V 11 = .int .i64 c ∧ V 12 = .bool false ∧ V 13 = .bool false ∧ V 14 = .bool false ∧ V 15 = .agg A ∧ V 16 = .bool true ∧ V 17 = .bool false ∧ V 18 = .bool false := ⟨fun s0 => match s0 with | 0 => .int .i64 (i : Int) | 1 => .bool true | 2 => .bool true | 3 => .slice (some ⟨g, o, none⟩) n cap | 4 => .int .i64 (i : Int) | 5 => .int .i64 ((i : Int) - 1) | 6 => .pointer (some ⟨g, o + (i - 1) * 18, none⟩) | 7 => .pointer (some ⟨g, o + (i - 1) * 18, none⟩) | 8 => .agg #[.int .i32 p0, .int .i32 q0] | 9 => .pointer (some ⟨wr.heap.size, 0, none⟩) | 10 => .agg #[.int .i32 p, .int .i32 q] | 11 => .int .i64 c | 12 => .bool false | 13 => .bool false | 14 => .bool false | 15 => .agg A | 16 => .bool true | 17 => .bool false | 18 => .bool false | _ => undef, rfl, rfl, rfl, rfl, rfl, rfl, rfl, rfl, rfl, rfl, rfl, rfl, rfl, rfl, rfl, rfl, rfl, rfl, rfl⟩
            have hconc : tabT #[.slice (some ⟨g, o, none⟩) n cap, undef, u2, .int .i64 (i : Int), .pointer (some ⟨wr.heap.size, 0, none⟩), .slice (some ⟨g, o, none⟩) n cap, .int .i64 (n : Int), .bool (decide ((64 : Int) < (n : Int))), .slice (some ⟨g, o, none⟩) n cap, .int .i64 (n : Int), .int .i64 (i : Int), .bool true, .int .i64 (i : Int), .pointer (some ⟨g, o + i * 18, none⟩), .agg A, u15, u16, u17, u18, u19, u20, u21, u22, u23, u24, u25, u26, u27, u28, u29, u30, u31, u32, u33, u34] (ownR 15 19) V (Array.replicate 19 true) = #[.slice (some ⟨g, o, none⟩) n cap, undef, u2, .int .i64 (i : Int), .pointer (some ⟨wr.heap.size, 0, none⟩), .slice (some ⟨g, o, none⟩) n cap, .int .i64 (n : Int), .bool (decide ((64 : Int) < (n : Int))), .slice (some ⟨g, o, none⟩) n cap, .int .i64 (n : Int), .int .i64 (i : Int), .bool true, .int .i64 (i : Int), .pointer (some ⟨g, o + i * 18, none⟩), .agg A, .int .i64 (i : Int), .bool true, .bool true, .slice (some ⟨g, o, none⟩) n cap, .int .i64 (i : Int), .int .i64 ((i : Int) - 1), .pointer (some ⟨g, o + (i - 1) * 18, none⟩), .pointer (some ⟨g, o + (i - 1) * 18, none⟩), .agg #[.int .i32 p0, .int .i32 q0], .pointer (some ⟨wr.heap.size, 0, none⟩), .agg #[.int .i32 p, .int .i32 q], .int .i64 c, .bool false, .bool false, .bool false, .agg A, .bool true, .bool false, .bool false, u34] := by simp [tabT, ownR, v0, v1, v2, v3, v4, v5, v6, v7, v8, v9, v10, v11, v12, v13, v14, v15, v16, v17, v18]
            have V0 := Lib.hid v0
            have V1 := Lib.hid v1
            have V2 := Lib.hid v2
            have V3 := Lib.hid v3
            have V4 := Lib.hid v4
            have V5 := Lib.hid v5
            have V6 := Lib.hid v6
            have V7 := Lib.hid v7
            have V8 := Lib.hid v8
            have V9 := Lib.hid v9
            have V10 := Lib.hid v10
            have V11 := Lib.hid v11
            have V12 := Lib.hid v12
            have V13 := Lib.hid v13
            have V14 := Lib.hid v14
            have V15 := Lib.hid v15
            have V16 := Lib.hid v16
            have V17 := Lib.hid v17
            have V18 := Lib.hid v18
            have HCONC := Lib.hid hconc
            clear hconc v0 v1 v2 v3 v4 v5 v6 v7 v8 v9 v10 v11 v12 v13 v14 v15 v16 v17 v18
            refine wp_region_table (by kernel_rfl) (by kernel_rfl) 19 rfl V (ownR 15 19) (fun i => i + 15) (fun i hi => ownR_hit (show i < 19 from hi)) (fun s i hs => (show i < 19 from ownR_lt hs)) ?hstepS ?hendS
            case hstepS =>
              intro oi oo listed T W hio hB hpre hts htn
              have HB := Lib.hid hB
              have PRE := Lib.hid hpre
              have TS : Hid (∀ (s j : Nat) (v : Value), s < 35 → (ownR 15 19) s = some j → listed.getD j false = true → V j = v → T.getD s undef = v ∧ T[s]? = some v) := Lib.hid hts
              have R0 : Hid (T.getD 0 undef = .slice (some ⟨g, o, none⟩) n cap) := Lib.hid (htn 0 (by decide))
              have R3 : Hid (T.getD 3 undef = .int .i64 (i : Int)) := Lib.hid (htn 3 (by decide))
              have R4 : Hid (T.getD 4 undef = .pointer (some ⟨wr.heap.size, 0, none⟩)) := Lib.hid (htn 4 (by decide))
              clear hB hpre hts htn HCONC
              match oi, hio with
              | 0, hio =>
                clear hio
                have t3 : T.getD 3 undef = .int .i64 (i : Int) := R3.out
                have vj := V0.out
                refine wpOp_by rfl fun K HK => ?_
                rw [vj] at HK
                clear vj
                go_wp2_with (fail)
                exact HK.out _ _ ⟨rfl, HB.out⟩
              | 1, hio =>
                simp only [List.getElem?_toArray, List.getElem?_cons_succ, List.getElem?_cons_zero, Option.some.injEq] at hio
                subst hio
                have t15 : T.getD 15 undef = .int .i64 (i : Int) := (TS.out 15 0 _ (by decide) (by decide) (PRE.out ⟨0, .data⟩ (by simp) rfl) V0.out).1
                have vj := V1.out
                refine wpOp_by rfl fun K HK => ?_
                rw [vj] at HK
                clear vj
                go_wp2_with (fail)
                exact HK.out _ _ ⟨rfl, HB.out⟩
              | 2, hio =>
                simp only [List.getElem?_toArray, List.getElem?_cons_succ, List.getElem?_cons_zero, Option.some.injEq] at hio
                subst hio
                have t16 : T.getD 16 undef = .bool true := (TS.out 16 1 _ (by decide) (by decide) (PRE.out ⟨1, .data⟩ (by simp) rfl) V1.out).1
                have vj := V2.out
                refine wpOp_by rfl fun K HK => ?_
                rw [vj] at HK
                clear vj
                go_wp2_with (fail)
                exact HK.out _ _ ⟨rfl, HB.out⟩
              | 3, hio =>
                simp only [List.getElem?_toArray, List.getElem?_cons_succ, List.getElem?_cons_zero, Option.some.injEq] at hio
                subst hio
                have g17 : T[17]? = some (.bool true) := (TS.out 17 2 _ (by decide) (by decide) (PRE.out ⟨2, .guard⟩ (by simp) rfl) V2.out).2
                have t0 : T.getD 0 undef = .slice (some ⟨g, o, none⟩) n cap := R0.out
                have vj := V3.out
                refine wpOp_by rfl fun K HK => ?_
                rw [vj] at HK
                clear vj
                go_wp2_with (fail)
                exact HK.out _ _ ⟨rfl, HB.out⟩
              | 4, hio =>
                simp only [List.getElem?_toArray, List.getElem?_cons_succ, List.getElem?_cons_zero, Option.some.injEq] at hio
                subst hio
                have g17 : T[17]? = some (.bool true) := (TS.out 17 2 _ (by decide) (by decide) (PRE.out ⟨2, .guard⟩ (by simp) rfl) V2.out).2
                have t3 : T.getD 3 undef = .int .i64 (i : Int) := R3.out
                have vj := V4.out
                refine wpOp_by rfl fun K HK => ?_
                rw [vj] at HK
                clear vj
                go_wp2_with (fail)
                exact HK.out _ _ ⟨rfl, HB.out⟩
              | 5, hio =>
                simp only [List.getElem?_toArray, List.getElem?_cons_succ, List.getElem?_cons_zero, Option.some.injEq] at hio
                subst hio
                have t19 : T.getD 19 undef = .int .i64 (i : Int) := (TS.out 19 4 _ (by decide) (by decide) (PRE.out ⟨4, .data⟩ (by simp) rfl) V4.out).1
                have g17 : T[17]? = some (.bool true) := (TS.out 17 2 _ (by decide) (by decide) (PRE.out ⟨2, .guard⟩ (by simp) rfl) V2.out).2
                have vj := V5.out
                refine wpOp_by rfl fun K HK => ?_
                rw [vj] at HK
                clear vj
                go_wp2_with (fail)
                exact HK.out _ _ ⟨rfl, HB.out⟩
              | 6, hio =>
                simp only [List.getElem?_toArray, List.getElem?_cons_succ, List.getElem?_cons_zero, Option.some.injEq] at hio
                subst hio
                have t18 : T.getD 18 undef = .slice (some ⟨g, o, none⟩) n cap := (TS.out 18 3 _ (by decide) (by decide) (PRE.out ⟨3, .data⟩ (by simp) rfl) V3.out).1
                have t20 : T.getD 20 undef = .int .i64 ((i : Int) - 1) := (TS.out 20 5 _ (by decide) (by decide) (PRE.out ⟨5, .data⟩ (by simp) rfl) V5.out).1
                have g17 : T[17]? = some (.bool true) := (TS.out 17 2 _ (by decide) (by decide) (PRE.out ⟨2, .guard⟩ (by simp) rfl) V2.out).2
                have vj := V6.out
                refine wpOp_by rfl fun K HK => ?_
                rw [vj] at HK
                clear vj
                go_wp2_with (fail)
                exact HK.out _ _ ⟨rfl, HB.out⟩
              | 7, hio =>
                simp only [List.getElem?_toArray, List.getElem?_cons_succ, List.getElem?_cons_zero, Option.some.injEq] at hio
                subst hio
                have t21 : T.getD 21 undef = .pointer (some ⟨g, o + (i - 1) * 18, none⟩) := (TS.out 21 6 _ (by decide) (by decide) (PRE.out ⟨6, .data⟩ (by simp) rfl) V6.out).1
                have g17 : T[17]? = some (.bool true) := (TS.out 17 2 _ (by decide) (by decide) (PRE.out ⟨2, .guard⟩ (by simp) rfl) V2.out).2
                have vj := V7.out
                refine wpOp_by rfl fun K HK => ?_
                rw [vj] at HK
                clear vj
                go_wp2_with (fail)
                exact HK.out _ _ ⟨rfl, HB.out⟩
              | 8, hio =>
                simp only [List.getElem?_toArray, List.getElem?_cons_succ, List.getElem?_cons_zero, Option.some.injEq] at hio
                subst hio
                have t22 : T.getD 22 undef = .pointer (some ⟨g, o + (i - 1) * 18, none⟩) := (TS.out 22 7 _ (by decide) (by decide) (PRE.out ⟨7, .data⟩ (by simp) rfl) V7.out).1
                have g17 : T[17]? = some (.bool true) := (TS.out 17 2 _ (by decide) (by decide) (PRE.out ⟨2, .guard⟩ (by simp) rfl) V2.out).2
                have d0 : W.cell? ⟨g, o + (i - 1) * 18, none⟩ = some (.int .i32 p0) := LC0.out W (Y0.out W HB.out) 0 _ rfl
                have d1 : W.cell? ⟨g, o + (i - 1) * 18 + 1, none⟩ = some (.int .i32 q0) := LC0.out W (Y0.out W HB.out) 1 _ rfl
                have vj := V8.out
                refine wpOp_by rfl fun K HK => ?_
                rw [vj] at HK
                clear vj
                go_wp2_with (fail)
                exact HK.out _ _ ⟨rfl, HB.out⟩
              | 9, hio =>
                simp only [List.getElem?_toArray, List.getElem?_cons_succ, List.getElem?_cons_zero, Option.some.injEq] at hio
                subst hio
                have g17 : T[17]? = some (.bool true) := (TS.out 17 2 _ (by decide) (by decide) (PRE.out ⟨2, .guard⟩ (by simp) rfl) V2.out).2
                have t4 : T.getD 4 undef = .pointer (some ⟨wr.heap.size, 0, none⟩) := R4.out
                have vj := V9.out
                refine wpOp_by rfl fun K HK => ?_
                rw [vj] at HK
                clear vj
                go_wp2_with (fail)
                exact HK.out _ _ ⟨rfl, HB.out⟩
              | 10, hio =>
                simp only [List.getElem?_toArray, List.getElem?_cons_succ, List.getElem?_cons_zero, Option.some.injEq] at hio
                subst hio
                have t24 : T.getD 24 undef = .pointer (some ⟨wr.heap.size, 0, none⟩) := (TS.out 24 9 _ (by decide) (by decide) (PRE.out ⟨9, .data⟩ (by simp) rfl) V9.out).1
                have g17 : T[17]? = some (.bool true) := (TS.out 17 2 _ (by decide) (by decide) (PRE.out ⟨2, .guard⟩ (by simp) rfl) V2.out).2
                have d0 : W.cell? ⟨wr.heap.size, 0, none⟩ = some (.int .i32 p) := (Lib.cell_of_heap (YB.out W HB.out) 0).trans (PA.out 0 _ rfl)
                have d1 : W.cell? ⟨wr.heap.size, 1, none⟩ = some (.int .i32 q) := (Lib.cell_of_heap (YB.out W HB.out) 1).trans (PA.out 1 _ rfl)
                have vj := V10.out
                refine wpOp_by rfl fun K HK => ?_
                rw [vj] at HK
                clear vj
                go_wp2_with (fail)
                exact HK.out _ _ ⟨rfl, HB.out⟩
              | 11, hio =>
                simp only [List.getElem?_toArray, List.getElem?_cons_succ, List.getElem?_cons_zero, Option.some.injEq] at hio
                subst hio
                have t23 : T.getD 23 undef = .agg #[.int .i32 p0, .int .i32 q0] := (TS.out 23 8 _ (by decide) (by decide) (PRE.out ⟨8, .data⟩ (by simp) rfl) V8.out).1
                have t25 : T.getD 25 undef = .agg #[.int .i32 p, .int .i32 q] := (TS.out 25 10 _ (by decide) (by decide) (PRE.out ⟨10, .data⟩ (by simp) rfl) V10.out).1
                have g17 : T[17]? = some (.bool true) := (TS.out 17 2 _ (by decide) (by decide) (PRE.out ⟨2, .guard⟩ (by simp) rfl) V2.out).2
                have vj := V11.out
                refine wpOp_by rfl fun K HK => ?_
                rw [vj] at HK
                clear vj
                go_wp2_with fail
                refine (CMPR.out W).mono ?_
                rintro e W' ⟨rfl, hb⟩
                go_wp2
                exact HK.out _ _ ⟨rfl, HB.out.trans (hb.mono HB.out.size)⟩
              | 12, hio =>
                simp only [List.getElem?_toArray, List.getElem?_cons_succ, List.getElem?_cons_zero, Option.some.injEq] at hio
                subst hio
                have t26 : T.getD 26 undef = .int .i64 c := (TS.out 26 11 _ (by decide) (by decide) (PRE.out ⟨11, .data⟩ (by simp) rfl) V11.out).1
                have g17 : T[17]? = some (.bool true) := (TS.out 17 2 _ (by decide) (by decide) (PRE.out ⟨2, .guard⟩ (by simp) rfl) V2.out).2
                have vj := V12.out
                refine wpOp_by rfl fun K HK => ?_
                rw [vj] at HK
                clear vj
                go_wp2_with (fail)
                exact HK.out _ _ ⟨rfl, HB.out⟩
              | 13, hio =>
                simp only [List.getElem?_toArray, List.getElem?_cons_succ, List.getElem?_cons_zero, Option.some.injEq] at hio
                subst hio
                have t17 : T.getD 17 undef = .bool true := (TS.out 17 2 _ (by decide) (by decide) (PRE.out ⟨2, .data⟩ (by simp) rfl) V2.out).1
                have t27 : T.getD 27 undef = .bool false := (TS.out 27 12 _ (by decide) (by decide) (PRE.out ⟨12, .data⟩ (by simp) rfl) V12.out).1
                have vj := V13.out
                refine wpOp_by rfl fun K HK => ?_
                rw [vj] at HK
                clear vj
                go_wp2_with (fail)
                exact HK.out _ _ ⟨rfl, HB.out⟩
              | 14, hio =>
                simp only [List.getElem?_toArray, List.getElem?_cons_succ, List.getElem?_cons_zero, Option.some.injEq] at hio
                subst hio
                have t28 : T.getD 28 undef = .bool false := (TS.out 28 13 _ (by decide) (by decide) (PRE.out ⟨13, .data⟩ (by simp) rfl) V13.out).1
                have vj := V14.out
                refine wpOp_by rfl fun K HK => ?_
                rw [vj] at HK
                clear vj
                go_wp2_with (fail)
                exact HK.out _ _ ⟨rfl, HB.out⟩
              | 15, hio =>
                simp only [List.getElem?_toArray, List.getElem?_cons_succ, List.getElem?_cons_zero, Option.some.injEq] at hio
                subst hio
                have g29 : T[29]? = some (.bool false) := (TS.out 29 14 _ (by decide) (by decide) (PRE.out ⟨14, .guard⟩ (by simp) rfl) V14.out).2
                have t4 : T.getD 4 undef = .pointer (some ⟨wr.heap.size, 0, none⟩) := R4.out
                have vj := V15.out
                refine wpOp_by rfl fun K HK => ?_
                rw [vj] at HK
                clear vj
                refine wpList_load_rowg (by simp [Region.wanted, yielded, g29]) 73 _ rfl wr.heap.size t4 73 _ _ _ (YB.out W HB.out) Try.underlying73 rfl (ib_info _ A18.out) ?_
                go_wp2
                exact HK.out _ _ ⟨rfl, HB.out⟩
              | 16, hio =>
                simp only [List.getElem?_toArray, List.getElem?_cons_succ, List.getElem?_cons_zero, Option.some.injEq] at hio
                subst hio
                have t30 : T.getD 30 undef = .agg A := (TS.out 30 15 _ (by decide) (by decide) (PRE.out ⟨15, .data⟩ (by simp) rfl) V15.out).1
                have g29 : T[29]? = some (.bool false) := (TS.out 29 14 _ (by decide) (by decide) (PRE.out ⟨14, .guard⟩ (by simp) rfl) V14.out).2
                have vj := V16.out
                refine wpOp_by rfl fun K HK => ?_
                rw [vj] at HK
                clear vj
                go_wp2_with fail
                refine (HPC.out W).mono ?_
                rintro e W' ⟨rfl, hb⟩
                go_wp2
                exact HK.out _ _ ⟨rfl, HB.out.trans (hb.mono HB.out.size)⟩
              | 17, hio =>
                simp only [List.getElem?_toArray, List.getElem?_cons_succ, List.getElem?_cons_zero, Option.some.injEq] at hio
                subst hio
                have t31 : T.getD 31 undef = .bool true := (TS.out 31 16 _ (by decide) (by decide) (PRE.out ⟨16, .data⟩ (by simp) rfl) V16.out).1
                have g29 : T[29]? = some (.bool false) := (TS.out 29 14 _ (by decide) (by decide) (PRE.out ⟨14, .guard⟩ (by simp) rfl) V14.out).2
                have vj := V17.out
                refine wpOp_by rfl fun K HK => ?_
                rw [vj] at HK
                clear vj
                go_wp2_with (fail)
                exact HK.out _ _ ⟨rfl, HB.out⟩
              | 18, hio =>
                simp only [List.getElem?_toArray, List.getElem?_cons_succ, List.getElem?_cons_zero, Option.some.injEq] at hio
                subst hio
                have t29 : T.getD 29 undef = .bool false := (TS.out 29 14 _ (by decide) (by decide) (PRE.out ⟨14, .data⟩ (by simp) rfl) V14.out).1
                have t32 : T.getD 32 undef = .bool false := (TS.out 32 17 _ (by decide) (by decide) (PRE.out ⟨17, .data⟩ (by simp) rfl) V17.out).1
                have vj := V18.out
                refine wpOp_by rfl fun K HK => ?_
                rw [vj] at HK
                clear vj
                go_wp2_with (fail)
                exact HK.out _ _ ⟨rfl, HB.out⟩
              | k + 19, hio => simp at hio
            case hendS =>
              intro W1 hB
              rw [show tabT _ (ownR 15 19) V (Array.replicate _ true) = #[.slice (some ⟨g, o, none⟩) n cap, undef, u2, .int .i64 (i : Int), .pointer (some ⟨wr.heap.size, 0, none⟩), .slice (some ⟨g, o, none⟩) n cap, .int .i64 (n : Int), .bool (decide ((64 : Int) < (n : Int))), .slice (some ⟨g, o, none⟩) n cap, .int .i64 (n : Int), .int .i64 (i : Int), .bool true, .int .i64 (i : Int), .pointer (some ⟨g, o + i * 18, none⟩), .agg A, .int .i64 (i : Int), .bool true, .bool true, .slice (some ⟨g, o, none⟩) n cap, .int .i64 (i : Int), .int .i64 ((i : Int) - 1), .pointer (some ⟨g, o + (i - 1) * 18, none⟩), .pointer (some ⟨g, o + (i - 1) * 18, none⟩), .agg #[.int .i32 p0, .int .i32 q0], .pointer (some ⟨wr.heap.size, 0, none⟩), .agg #[.int .i32 p, .int .i32 q], .int .i64 c, .bool false, .bool false, .bool false, .agg A, .bool true, .bool false, .bool false, u34] from HCONC.out]
              clear HCONC V0 V1 V2 V3 V4 V5 V6 V7 V8 V9 V10 V11 V12 V13 V14 V15 V16 V17 V18
              have HB1 := Lib.hid (HB.out.trans ((Y0.out _ hB).mono HB.out.size))
              clear hB
              have hres : okB f i = true := by rw [OKH.out]; simp
              have HRES := Lib.hid (okB_next HA.out hres)
              clear hres
              go_wp2
              go_roundw
              case rel => exact ⟨i + 1, HI.out, by go_num, HB1.out, HRES.out⟩
              case measure => have := HI.out; simp [intOf]; omega
          | false =>
            obtain ⟨V, v0, v1, v2, v3, v4, v5, v6, v7, v8, v9, v10, v11, v12, v13, v14, v15, v16, v17, v18⟩ : ∃ V : Nat → Value, V 0 = .int .i64 (i : Int) ∧ V 1 = .bool true ∧ V 2 = .bool true ∧ V 3 = .slice (some ⟨g, o, none⟩) n cap ∧ V 4 = .int .i64 (i : Int) ∧ V 5 = .int .i64 ((i : Int) - 1) ∧ V 6 = .pointer (some ⟨g, o + (i - 1) * 18, none⟩) ∧ V 7 = .pointer (some ⟨g, o + (i - 1) * 18, none⟩) ∧ V 8 = .agg #[.int .i32 p0, .int .i32 q0] ∧ V 9 = .pointer (some ⟨wr.heap.size, 0, none⟩) ∧ V 10 = .agg #[.int .i32 p, .int .i32 q] ∧ V 11 = .int .i64 c ∧ V 12 = .bool false ∧ V 13 = .bool false ∧ V 14 = .bool false ∧ V 15 = .agg A ∧ V 16 = .bool false ∧ V 17 = .bool true ∧ V 18 = .bool true := ⟨fun s0 => match s0 with | 0 => .int .i64 (i : Int) | 1 => .bool true | 2 => .bool true | 3 => .slice (some ⟨g, o, none⟩) n cap | 4 => .int .i64 (i : Int) | 5 => .int .i64 ((i : Int) - 1) | 6 => .pointer (some ⟨g, o + (i - 1) * 18, none⟩) | 7 => .pointer (some ⟨g, o + (i - 1) * 18, none⟩) | 8 => .agg #[.int .i32 p0, .int .i32 q0] | 9 => .pointer (some ⟨wr.heap.size, 0, none⟩) | 10 => .agg #[.int .i32 p, .int .i32 q] | 11 => .int .i64 c | 12 => .bool false | 13 => .bool false | 14 => .bool false | 15 => .agg A | 16 => .bool false | 17 => .bool true | 18 => .bool true | _ => undef, rfl, rfl, rfl, rfl, rfl, rfl, rfl, rfl, rfl, rfl, rfl, rfl, rfl, rfl, rfl, rfl, rfl, rfl, rfl⟩
            have hconc : tabT #[.slice (some ⟨g, o, none⟩) n cap, undef, u2, .int .i64 (i : Int), .pointer (some ⟨wr.heap.size, 0, none⟩), .slice (some ⟨g, o, none⟩) n cap, .int .i64 (n : Int), .bool (decide ((64 : Int) < (n : Int))), .slice (some ⟨g, o, none⟩) n cap, .int .i64 (n : Int), .int .i64 (i : Int), .bool true, .int .i64 (i : Int), .pointer (some ⟨g, o + i * 18, none⟩), .agg A, u15, u16, u17, u18, u19, u20, u21, u22, u23, u24, u25, u26, u27, u28, u29, u30, u31, u32, u33, u34] (ownR 15 19) V (Array.replicate 19 true) = #[.slice (some ⟨g, o, none⟩) n cap, undef, u2, .int .i64 (i : Int), .pointer (some ⟨wr.heap.size, 0, none⟩), .slice (some ⟨g, o, none⟩) n cap, .int .i64 (n : Int), .bool (decide ((64 : Int) < (n : Int))), .slice (some ⟨g, o, none⟩) n cap, .int .i64 (n : Int), .int .i64 (i : Int), .bool true, .int .i64 (i : Int), .pointer (some ⟨g, o + i * 18, none⟩), .agg A, .int .i64 (i : Int), .bool true, .bool true, .slice (some ⟨g, o, none⟩) n cap, .int .i64 (i : Int), .int .i64 ((i : Int) - 1), .pointer (some ⟨g, o + (i - 1) * 18, none⟩), .pointer (some ⟨g, o + (i - 1) * 18, none⟩), .agg #[.int .i32 p0, .int .i32 q0], .pointer (some ⟨wr.heap.size, 0, none⟩), .agg #[.int .i32 p, .int .i32 q], .int .i64 c, .bool false, .bool false, .bool false, .agg A, .bool false, .bool true, .bool true, u34] := by simp [tabT, ownR, v0, v1, v2, v3, v4, v5, v6, v7, v8, v9, v10, v11, v12, v13, v14, v15, v16, v17, v18]
            have V0 := Lib.hid v0
            have V1 := Lib.hid v1
            have V2 := Lib.hid v2
            have V3 := Lib.hid v3
            have V4 := Lib.hid v4
            have V5 := Lib.hid v5
            have V6 := Lib.hid v6
            have V7 := Lib.hid v7
            have V8 := Lib.hid v8
            have V9 := Lib.hid v9
            have V10 := Lib.hid v10
            have V11 := Lib.hid v11
            have V12 := Lib.hid v12
            have V13 := Lib.hid v13
            have V14 := Lib.hid v14
            have V15 := Lib.hid v15
            have V16 := Lib.hid v16
            have V17 := Lib.hid v17
            have V18 := Lib.hid v18
            have HCONC := Lib.hid hconc
            clear hconc v0 v1 v2 v3 v4 v5 v6 v7 v8 v9 v10 v11 v12 v13 v14 v15 v16 v17 v18
            refine wp_region_table (by kernel_rfl) (by kernel_rfl) 19 rfl V (ownR 15 19) (fun i => i + 15) (fun i hi => ownR_hit (show i < 19 from hi)) (fun s i hs => (show i < 19 from ownR_lt hs)) ?hstepU ?hendU
            case hstepU =>
              intro oi oo listed T W hio hB hpre hts htn
              have HB := Lib.hid hB
              have PRE := Lib.hid hpre
              have TS : Hid (∀ (s j : Nat) (v : Value), s < 35 → (ownR 15 19) s = some j → listed.getD j false = true → V j = v → T.getD s undef = v ∧ T[s]? = some v) := Lib.hid hts
              have R0 : Hid (T.getD 0 undef = .slice (some ⟨g, o, none⟩) n cap) := Lib.hid (htn 0 (by decide))
              have R3 : Hid (T.getD 3 undef = .int .i64 (i : Int)) := Lib.hid (htn 3 (by decide))
              have R4 : Hid (T.getD 4 undef = .pointer (some ⟨wr.heap.size, 0, none⟩)) := Lib.hid (htn 4 (by decide))
              clear hB hpre hts htn HCONC
              match oi, hio with
              | 0, hio =>
                clear hio
                have t3 : T.getD 3 undef = .int .i64 (i : Int) := R3.out
                have vj := V0.out
                refine wpOp_by rfl fun K HK => ?_
                rw [vj] at HK
                clear vj
                go_wp2_with (fail)
                exact HK.out _ _ ⟨rfl, HB.out⟩
              | 1, hio =>
                simp only [List.getElem?_toArray, List.getElem?_cons_succ, List.getElem?_cons_zero, Option.some.injEq] at hio
                subst hio
                have t15 : T.getD 15 undef = .int .i64 (i : Int) := (TS.out 15 0 _ (by decide) (by decide) (PRE.out ⟨0, .data⟩ (by simp) rfl) V0.out).1
                have vj := V1.out
                refine wpOp_by rfl fun K HK => ?_
                rw [vj] at HK
                clear vj
                go_wp2_with (fail)
                exact HK.out _ _ ⟨rfl, HB.out⟩
              | 2, hio =>
                simp only [List.getElem?_toArray, List.getElem?_cons_succ, List.getElem?_cons_zero, Option.some.injEq] at hio
                subst hio
                have t16 : T.getD 16 undef = .bool true := (TS.out 16 1 _ (by decide) (by decide) (PRE.out ⟨1, .data⟩ (by simp) rfl) V1.out).1
                have vj := V2.out
                refine wpOp_by rfl fun K HK => ?_
                rw [vj] at HK
                clear vj
                go_wp2_with (fail)
                exact HK.out _ _ ⟨rfl, HB.out⟩
              | 3, hio =>
                simp only [List.getElem?_toArray, List.getElem?_cons_succ, List.getElem?_cons_zero, Option.some.injEq] at hio
                subst hio
                have g17 : T[17]? = some (.bool true) := (TS.out 17 2 _ (by decide) (by decide) (PRE.out ⟨2, .guard⟩ (by simp) rfl) V2.out).2
                have t0 : T.getD 0 undef = .slice (some ⟨g, o, none⟩) n cap := R0.out
                have vj := V3.out
                refine wpOp_by rfl fun K HK => ?_
                rw [vj] at HK
                clear vj
                go_wp2_with (fail)
                exact HK.out _ _ ⟨rfl, HB.out⟩
              | 4, hio =>
                simp only [List.getElem?_toArray, List.getElem?_cons_succ, List.getElem?_cons_zero, Option.some.injEq] at hio
                subst hio
                have g17 : T[17]? = some (.bool true) := (TS.out 17 2 _ (by decide) (by decide) (PRE.out ⟨2, .guard⟩ (by simp) rfl) V2.out).2
                have t3 : T.getD 3 undef = .int .i64 (i : Int) := R3.out
                have vj := V4.out
                refine wpOp_by rfl fun K HK => ?_
                rw [vj] at HK
                clear vj
                go_wp2_with (fail)
                exact HK.out _ _ ⟨rfl, HB.out⟩
              | 5, hio =>
                simp only [List.getElem?_toArray, List.getElem?_cons_succ, List.getElem?_cons_zero, Option.some.injEq] at hio
                subst hio
                have t19 : T.getD 19 undef = .int .i64 (i : Int) := (TS.out 19 4 _ (by decide) (by decide) (PRE.out ⟨4, .data⟩ (by simp) rfl) V4.out).1
                have g17 : T[17]? = some (.bool true) := (TS.out 17 2 _ (by decide) (by decide) (PRE.out ⟨2, .guard⟩ (by simp) rfl) V2.out).2
                have vj := V5.out
                refine wpOp_by rfl fun K HK => ?_
                rw [vj] at HK
                clear vj
                go_wp2_with (fail)
                exact HK.out _ _ ⟨rfl, HB.out⟩
              | 6, hio =>
                simp only [List.getElem?_toArray, List.getElem?_cons_succ, List.getElem?_cons_zero, Option.some.injEq] at hio
                subst hio
                have t18 : T.getD 18 undef = .slice (some ⟨g, o, none⟩) n cap := (TS.out 18 3 _ (by decide) (by decide) (PRE.out ⟨3, .data⟩ (by simp) rfl) V3.out).1
                have t20 : T.getD 20 undef = .int .i64 ((i : Int) - 1) := (TS.out 20 5 _ (by decide) (by decide) (PRE.out ⟨5, .data⟩ (by simp) rfl) V5.out).1
                have g17 : T[17]? = some (.bool true) := (TS.out 17 2 _ (by decide) (by decide) (PRE.out ⟨2, .guard⟩ (by simp) rfl) V2.out).2
                have vj := V6.out
                refine wpOp_by rfl fun K HK => ?_
                rw [vj] at HK
                clear vj
                go_wp2_with (fail)
                exact HK.out _ _ ⟨rfl, HB.out⟩
              | 7, hio =>
                simp only [List.getElem?_toArray, List.getElem?_cons_succ, List.getElem?_cons_zero, Option.some.injEq] at hio
                subst hio
                have t21 : T.getD 21 undef = .pointer (some ⟨g, o + (i - 1) * 18, none⟩) := (TS.out 21 6 _ (by decide) (by decide) (PRE.out ⟨6, .data⟩ (by simp) rfl) V6.out).1
                have g17 : T[17]? = some (.bool true) := (TS.out 17 2 _ (by decide) (by decide) (PRE.out ⟨2, .guard⟩ (by simp) rfl) V2.out).2
                have vj := V7.out
                refine wpOp_by rfl fun K HK => ?_
                rw [vj] at HK
                clear vj
                go_wp2_with (fail)
                exact HK.out _ _ ⟨rfl, HB.out⟩
              | 8, hio =>
                simp only [List.getElem?_toArray, List.getElem?_cons_succ, List.getElem?_cons_zero, Option.some.injEq] at hio
                subst hio
                have t22 : T.getD 22 undef = .pointer (some ⟨g, o + (i - 1) * 18, none⟩) := (TS.out 22 7 _ (by decide) (by decide) (PRE.out ⟨7, .data⟩ (by simp) rfl) V7.out).1
                have g17 : T[17]? = some (.bool true) := (TS.out 17 2 _ (by decide) (by decide) (PRE.out ⟨2, .guard⟩ (by simp) rfl) V2.out).2
                have d0 : W.cell? ⟨g, o + (i - 1) * 18, none⟩ = some (.int .i32 p0) := LC0.out W (Y0.out W HB.out) 0 _ rfl
                have d1 : W.cell? ⟨g, o + (i - 1) * 18 + 1, none⟩ = some (.int .i32 q0) := LC0.out W (Y0.out W HB.out) 1 _ rfl
                have vj := V8.out
                refine wpOp_by rfl fun K HK => ?_
                rw [vj] at HK
                clear vj
                go_wp2_with (fail)
                exact HK.out _ _ ⟨rfl, HB.out⟩
              | 9, hio =>
                simp only [List.getElem?_toArray, List.getElem?_cons_succ, List.getElem?_cons_zero, Option.some.injEq] at hio
                subst hio
                have g17 : T[17]? = some (.bool true) := (TS.out 17 2 _ (by decide) (by decide) (PRE.out ⟨2, .guard⟩ (by simp) rfl) V2.out).2
                have t4 : T.getD 4 undef = .pointer (some ⟨wr.heap.size, 0, none⟩) := R4.out
                have vj := V9.out
                refine wpOp_by rfl fun K HK => ?_
                rw [vj] at HK
                clear vj
                go_wp2_with (fail)
                exact HK.out _ _ ⟨rfl, HB.out⟩
              | 10, hio =>
                simp only [List.getElem?_toArray, List.getElem?_cons_succ, List.getElem?_cons_zero, Option.some.injEq] at hio
                subst hio
                have t24 : T.getD 24 undef = .pointer (some ⟨wr.heap.size, 0, none⟩) := (TS.out 24 9 _ (by decide) (by decide) (PRE.out ⟨9, .data⟩ (by simp) rfl) V9.out).1
                have g17 : T[17]? = some (.bool true) := (TS.out 17 2 _ (by decide) (by decide) (PRE.out ⟨2, .guard⟩ (by simp) rfl) V2.out).2
                have d0 : W.cell? ⟨wr.heap.size, 0, none⟩ = some (.int .i32 p) := (Lib.cell_of_heap (YB.out W HB.out) 0).trans (PA.out 0 _ rfl)
                have d1 : W.cell? ⟨wr.heap.size, 1, none⟩ = some (.int .i32 q) := (Lib.cell_of_heap (YB.out W HB.out) 1).trans (PA.out 1 _ rfl)
                have vj := V10.out
                refine wpOp_by rfl fun K HK => ?_
                rw [vj] at HK
                clear vj
                go_wp2_with (fail)
                exact HK.out _ _ ⟨rfl, HB.out⟩
              | 11, hio =>
                simp only [List.getElem?_toArray, List.getElem?_cons_succ, List.getElem?_cons_zero, Option.some.injEq] at hio
                subst hio
                have t23 : T.getD 23 undef = .agg #[.int .i32 p0, .int .i32 q0] := (TS.out 23 8 _ (by decide) (by decide) (PRE.out ⟨8, .data⟩ (by simp) rfl) V8.out).1
                have t25 : T.getD 25 undef = .agg #[.int .i32 p, .int .i32 q] := (TS.out 25 10 _ (by decide) (by decide) (PRE.out ⟨10, .data⟩ (by simp) rfl) V10.out).1
                have g17 : T[17]? = some (.bool true) := (TS.out 17 2 _ (by decide) (by decide) (PRE.out ⟨2, .guard⟩ (by simp) rfl) V2.out).2
                have vj := V11.out
                refine wpOp_by rfl fun K HK => ?_
                rw [vj] at HK
                clear vj
                go_wp2_with fail
                refine (CMPR.out W).mono ?_
                rintro e W' ⟨rfl, hb⟩
                go_wp2
                exact HK.out _ _ ⟨rfl, HB.out.trans (hb.mono HB.out.size)⟩
              | 12, hio =>
                simp only [List.getElem?_toArray, List.getElem?_cons_succ, List.getElem?_cons_zero, Option.some.injEq] at hio
                subst hio
                have t26 : T.getD 26 undef = .int .i64 c := (TS.out 26 11 _ (by decide) (by decide) (PRE.out ⟨11, .data⟩ (by simp) rfl) V11.out).1
                have g17 : T[17]? = some (.bool true) := (TS.out 17 2 _ (by decide) (by decide) (PRE.out ⟨2, .guard⟩ (by simp) rfl) V2.out).2
                have vj := V12.out
                refine wpOp_by rfl fun K HK => ?_
                rw [vj] at HK
                clear vj
                go_wp2_with (fail)
                exact HK.out _ _ ⟨rfl, HB.out⟩
              | 13, hio =>
                simp only [List.getElem?_toArray, List.getElem?_cons_succ, List.getElem?_cons_zero, Option.some.injEq] at hio
                subst hio
                have t17 : T.getD 17 undef = .bool true := (TS.out 17 2 _ (by decide) (by decide) (PRE.out ⟨2, .data⟩ (by simp) rfl) V2.out).1
                have t27 : T.getD 27 undef = .bool false := (TS.out 27 12 _ (by decide) (by decide) (PRE.out ⟨12, .data⟩ (by simp) rfl) V12.out).1
                have vj := V13.out
                refine wpOp_by rfl fun K HK => ?_
                rw [vj] at HK
                clear vj
                go_wp2_with (fail)
                exact HK.out _ _ ⟨rfl, HB.out⟩
              | 14, hio =>
                simp only [List.getElem?_toArray, List.getElem?_cons_succ, List.getElem?_cons_zero, Option.some.injEq] at hio
                subst hio
                have t28 : T.getD 28 undef = .bool false := (TS.out 28 13 _ (by decide) (by decide) (PRE.out ⟨13, .data⟩ (by simp) rfl) V13.out).1
                have vj := V14.out
                refine wpOp_by rfl fun K HK => ?_
                rw [vj] at HK
                clear vj
                go_wp2_with (fail)
                exact HK.out _ _ ⟨rfl, HB.out⟩
              | 15, hio =>
                simp only [List.getElem?_toArray, List.getElem?_cons_succ, List.getElem?_cons_zero, Option.some.injEq] at hio
                subst hio
                have g29 : T[29]? = some (.bool false) := (TS.out 29 14 _ (by decide) (by decide) (PRE.out ⟨14, .guard⟩ (by simp) rfl) V14.out).2
                have t4 : T.getD 4 undef = .pointer (some ⟨wr.heap.size, 0, none⟩) := R4.out
                have vj := V15.out
                refine wpOp_by rfl fun K HK => ?_
                rw [vj] at HK
                clear vj
                refine wpList_load_rowg (by simp [Region.wanted, yielded, g29]) 73 _ rfl wr.heap.size t4 73 _ _ _ (YB.out W HB.out) Try.underlying73 rfl (ib_info _ A18.out) ?_
                go_wp2
                exact HK.out _ _ ⟨rfl, HB.out⟩
              | 16, hio =>
                simp only [List.getElem?_toArray, List.getElem?_cons_succ, List.getElem?_cons_zero, Option.some.injEq] at hio
                subst hio
                have t30 : T.getD 30 undef = .agg A := (TS.out 30 15 _ (by decide) (by decide) (PRE.out ⟨15, .data⟩ (by simp) rfl) V15.out).1
                have g29 : T[29]? = some (.bool false) := (TS.out 29 14 _ (by decide) (by decide) (PRE.out ⟨14, .guard⟩ (by simp) rfl) V14.out).2
                have vj := V16.out
                refine wpOp_by rfl fun K HK => ?_
                rw [vj] at HK
                clear vj
                go_wp2_with fail
                refine (HPC.out W).mono ?_
                rintro e W' ⟨rfl, hb⟩
                go_wp2
                exact HK.out _ _ ⟨rfl, HB.out.trans (hb.mono HB.out.size)⟩
              | 17, hio =>
                simp only [List.getElem?_toArray, List.getElem?_cons_succ, List.getElem?_cons_zero, Option.some.injEq] at hio
                subst hio
                have t31 : T.getD 31 undef = .bool false := (TS.out 31 16 _ (by decide) (by decide) (PRE.out ⟨16, .data⟩ (by simp) rfl) V16.out).1
                have g29 : T[29]? = some (.bool false) := (TS.out 29 14 _ (by decide) (by decide) (PRE.out ⟨14, .guard⟩ (by simp) rfl) V14.out).2
                have vj := V17.out
                refine wpOp_by rfl fun K HK => ?_
                rw [vj] at HK
                clear vj
                go_wp2_with (fail)
                exact HK.out _ _ ⟨rfl, HB.out⟩
              | 18, hio =>
                simp only [List.getElem?_toArray, List.getElem?_cons_succ, List.getElem?_cons_zero, Option.some.injEq] at hio
                subst hio
                have t29 : T.getD 29 undef = .bool false := (TS.out 29 14 _ (by decide) (by decide) (PRE.out ⟨14, .data⟩ (by simp) rfl) V14.out).1
                have t32 : T.getD 32 undef = .bool true := (TS.out 32 17 _ (by decide) (by decide) (PRE.out ⟨17, .data⟩ (by simp) rfl) V17.out).1
                have vj := V18.out
                refine wpOp_by rfl fun K HK => ?_
                rw [vj] at HK
                clear vj
                go_wp2_with (fail)
                exact HK.out _ _ ⟨rfl, HB.out⟩
              | k + 19, hio => simp at hio
            case hendU =>
              intro W1 hB
              rw [show tabT _ (ownR 15 19) V (Array.replicate _ true) = #[.slice (some ⟨g, o, none⟩) n cap, undef, u2, .int .i64 (i : Int), .pointer (some ⟨wr.heap.size, 0, none⟩), .slice (some ⟨g, o, none⟩) n cap, .int .i64 (n : Int), .bool (decide ((64 : Int) < (n : Int))), .slice (some ⟨g, o, none⟩) n cap, .int .i64 (n : Int), .int .i64 (i : Int), .bool true, .int .i64 (i : Int), .pointer (some ⟨g, o + i * 18, none⟩), .agg A, .int .i64 (i : Int), .bool true, .bool true, .slice (some ⟨g, o, none⟩) n cap, .int .i64 (i : Int), .int .i64 ((i : Int) - 1), .pointer (some ⟨g, o + (i - 1) * 18, none⟩), .pointer (some ⟨g, o + (i - 1) * 18, none⟩), .agg #[.int .i32 p0, .int .i32 q0], .pointer (some ⟨wr.heap.size, 0, none⟩), .agg #[.int .i32 p, .int .i32 q], .int .i64 c, .bool false, .bool false, .bool false, .agg A, .bool false, .bool true, .bool true, u34] from HCONC.out]
              clear HCONC V0 V1 V2 V3 V4 V5 V6 V7 V8 V9 V10 V11 V12 V13 V14 V15 V16 V17 V18
              have HB1 := Lib.hid (HB.out.trans ((Y0.out _ hB).mono HB.out.size))
              clear hB
              have hres : okB f i = false := by rw [OKH.out]; simp
              have HRES := Lib.hid (okB_false HI.out hres)
              clear hres
              go_wp2
              go_ret
              rw [HRES.out]
              exact ⟨rfl, HB1.out⟩
    · obtain rfl : i = n := by omega
      go_wp2
      go_ret
      rw [HA.out]
      exact ⟨rfl, HB.out⟩
end Go.Proofs.Ythfmkejdpflpcaa
