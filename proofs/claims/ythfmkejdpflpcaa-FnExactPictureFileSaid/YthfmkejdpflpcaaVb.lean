/-
  THE PROGRAM's hasPictureCells: a range over the cells of a mask that may be left early.
-/
import Derived.Test.YthfmkejdpflpcaaVa
import Derived.Test.YthfmkejdpflpcaaItH
namespace Go.Proofs.Ythfmkejdpflpcaa
open Go.ChangeShapes Go.WideShapes Go.ChangeAt Go.RowKit Go.Shelf
attribute [local go_sem] Oper.semAt_some
section
variable {F : Fence} {n : Nat} {P : Program}
theorem wpListIn_load_part {ops : Array Oper} {rest : List Oper} {o : Oper} {a : Act} {w : World} {Q : Exit → Act → World → Prop} (hgd : o.guard = none) (ty : TypeId) (x : Operand) (ho : o.op = .load ty x)
    (g off : Nat) (hx : a.eval x = .pointer (some ⟨g, off, none⟩)) (cs : Array Value) (d : TypeDesc) (hc : ∀ j v, cs[j]? = some v → w.cell? ⟨g, off + j, none⟩ = some v)
    (hu : P.underlying ty = some d) (hd : (match d with | .struct _ | .array _ _ => true | _ => false) = true) (hi : (P.info? ty).map (·.size) = some cs.size)
    (h : wpListIn F n P ops Q rest (a.put o.dst (.agg cs)) w) : wpListIn F n P ops Q (o :: rest) a w := by
  refine wpListIn_plain hgd fun K hK' => ?_
  unfold Oper.wpIn
  refine ⟨?_, ?_⟩
  · simp [Oper.about, ho]
  · rw [Oper.semAt_plain F _ _ (by rw [ho]; intro c hc'; cases hc')]
    simp only [execOp, ho, hx, Instr.loadAt, Instr.sureAddr, Sem.run_bind, Sem.run_pure, Result.andThen_ok, run_loadVar_part w g off ty cs d hc hu hd hi]
    exact hK' _ _ h
end
/-- a picture may have the cell -/
def cellIn (p q : Int) (c : Cl) : Bool := colB (16 * p + c.1.1) && colB (16 * q + c.1.2)
def hasPic (p q : Int) (f : Nat → Int) : Bool := (cellL f).all (cellIn p q) && !emptyF f
theorem mem_cellL {f : Nat → Int} {c : Cl} (h : hasF f c.1.1 c.1.2 = true) : c ∈ cellL f := by
  unfold cellL cellK
  rw [List.mem_filter]
  refine ⟨?_, h⟩
  obtain ⟨⟨x, y⟩, hx, hy⟩ := c
  rw [List.mem_map]
  exact ⟨16 * y + x, by simp only [List.mem_range]; omega, atC_eq hx hy⟩
set_option maxRecDepth 100000 in
set_option maxHeartbeats 8000000 in
theorem hasPic_in (F : Fence) (hF : F = Fence.wide) (n : Nat) (hn : 3 ≤ n) (p q : Int) (hp : I32 p) (hq : I32 q) (f : Nat → Int) (hf : MB f) (w : World) :
    CallsIn F n Try.prog 137 #[.agg (bl p q f)] w fun e w' => e = .returned (.bool (hasPic p q f)) ∧ Below w.heap.size w w' := by
  have h0 : F.fn 137 := by rw [hF]; trivial
  have h2 : F.fn 139 := by rw [hF]; trivial
  have hro : F.round = none := by rw [hF]; rfl
  have hn1 : 1 ≤ n := by omega
  have H1' : F.fn 110 := by rw [hF]; trivial
  have H2' : F.fn 111 := by rw [hF]; trivial
  have H3' : F.fn 56 := by rw [hF]; trivial
  have H4' : F.fn 97 := by rw [hF]; trivial
  have MC : Hid (∀ W m, CallsIn F m Try.prog 110 #[.agg (M16 f)] W fun e w' => e = .returned (.func (.func 139) #[] #[.pointer (some ⟨W.heap.size, 0, none⟩)]) ∧ w' = W.alloc (.cells (M16 f) 71)) := Lib.hid fun W m => by rw [hF]; exact callsIn_wide.2 (mcells_any f W)
  have OM : Hid (∀ (x y : Nat), x < 16 → y < 16 → ∀ W m, CallsIn F m Try.prog 111 #[.agg (bl p q f), .int .i64 (x : Int), .int .i64 (y : Int)] W fun e w' => e = .returned (.tuple #[.int .i64 (16 * p + x), .int .i64 (16 * q + y)]) ∧ Below W.heap.size W w') := Lib.hid fun x y hx hy W m => by rw [hF]; exact callsIn_wide.2 (outM_any p q hp hq f x y hx hy W)
  have PC : Hid (∀ (x y : Int) W m, CallsIn F m Try.prog 56 #[.int .i64 x, .int .i64 y] W fun e w' => e = .returned (.bool (colB x && colB y)) ∧ W = w') := Lib.hid fun x y W m => by rw [hF]; exact callsIn_wide.2 (isPCell_any x y W)
  have IE : Hid (∀ W m, CallsIn F m Try.prog 97 #[.agg (M16 f)] W fun e w' => e = .returned (.bool (emptyF f)) ∧ Below W.heap.size W w') := Lib.hid fun W m => by rw [hF]; exact callsIn_wide.2 (isEmpty_any f W)
  obtain ⟨B, hB⟩ : ∃ B, bl p q f = B := ⟨_, rfl⟩
  have S0 : ((w.alloc (.cells B 73)).alloc (.cells #[.bool false] 4)).heap[w.heap.size]? = some (.cells B 73 (0, 0)) := (Below.heap_alloc _ _ _ (by simp)).trans (World.alloc_heap_new w _)
  have S1 : Boxed ((w.alloc (.cells B 73)).alloc (.cells #[.bool false] 4)) (w.heap.size + 1) 4 (.bool false) := by
    have := World.alloc_heap_new (w.alloc (.cells B 73)) (.cells #[.bool false] 4)
    rw [World.size_alloc] at this
    exact this
  have SB : Below w.heap.size w ((w.alloc (.cells B 73)).alloc (.cells #[.bool false] 4)) := ((Below.refl _ w).alloc (Nat.le_refl _) _).alloc (by simp) _
  have SZ : ((w.alloc (.cells B 73)).alloc (.cells #[.bool false] 4)).heap.size = w.heap.size + 1 + 1 := by simp
  have H0 := Lib.hid S0
  have H1 := Lib.hid S1
  have HB := Lib.hid SB
  have HZ := Lib.hid SZ
  have HF := Lib.hid hF
  have HMF := Lib.hid hf
  have LM : Hid (∀ j v, (M16 f)[j]? = some v → B[2 + j]? = some v) := Lib.hid (by rw [← hB]; exact bl_mask p q f)
  have B18 : Hid (B.size = 18) := Lib.hid (by rw [← hB]; exact bl_size _ _ _)
  rw [hB] at OM ⊢
  clear S0 S1 SB SZ hf hB hp hq hF
  refine callsIn_of_wp_marks Try.func137 rfl h0 ?_ hro
  simp only [Try.ntmps137, List.size_toArray, List.length_cons, List.length_nil, Nat.reduceAdd, Nat.reduceSub, Array.replicate_succ, Array.replicate_zero, List.push_toArray, List.append_toArray, List.nil_append, List.cons_append]
  gi_wp2_with (refine wpListIn_load_part rfl 71 _ rfl w.heap.size 2 rfl (M16 f) _ (fun j v e => by rw [Lib.cell_of_heap H0.out]; exact LM.out j v e) Try.underlying71 rfl (mask_info _ (arr_size _ _ _)) ?_)
  generalize (w.alloc (.cells B 73)).alloc (.cells #[.bool false] 4) = w1 at H0 H1 HB HZ ⊢
  refine (MC.out _ _).mono ?_
  rintro e w2 ⟨rfl, rfl⟩
  gi_wp2
  have K0 : Hid ((w1.alloc (.cells (M16 f) 71)).heap[w.heap.size]? = some (.cells B 73 (0, 0))) := Lib.hid ((Below.heap_alloc _ _ _ (by have := HZ.out; omega)).trans H0.out)
  have G0 : Hid ((w1.alloc (.cells (M16 f) 71)).heap[w1.heap.size]? = some (.cells (M16 f) 71 (0, 0))) := Lib.hid (World.alloc_heap_new w1 _)
  have G1 : Hid (Boxed (w1.alloc (.cells (M16 f) 71)) (w.heap.size + 1) 4 (.bool false)) := Lib.hid (H1.out.alloc _)
  have GB : Hid (Below w.heap.size w (w1.alloc (.cells (M16 f) 71))) := Lib.hid (HB.out.alloc (by have := HZ.out; omega) _)
  have GZ : Hid ((w1.alloc (.cells (M16 f) 71)).heap.size = w.heap.size + 1 + 1 + 1) := Lib.hid (by have := HZ.out; simp; omega)
  have GE := Lib.hid HZ.out
  generalize w1.alloc (.cells (M16 f) 71) = w2 at K0 G0 G1 GB GZ ⊢
  generalize w1.heap.size = bm at G0 GE ⊢
  clear H0 H1 HB HZ MC w1
  refine wpIn_rangeFunc_ownG hro hn1 (gf := 139) (lb := #[.pointer (some ⟨bm, 0, none⟩)]) rfl h2 (enters_of Try.func139 (by kernel_rfl) rfl)
    (mcells_stopsH F HF.out (n - 1) (by omega) bm f HMF.out w2 G0.out) KpM.trans (KpM.put (by have := GZ.out; have := GE.out; omega)) (Below.refl _ _) (fun _ => rfl)
    (fun pre W => W.heap[w.heap.size]? = some (.cells B 73 (0, 0)) ∧ Boxed W (w.heap.size + 1) 4 (.bool false) ∧ W.heap[bm]? = some (.cells (M16 f) 71 (0, 0)) ∧ (pre.all fun c => cellIn p q c.1) = true ∧ Below w.heap.size w W)
    (fun c pre W => c = .ret ∧ Boxed W (w.heap.size + 1) 4 (.bool false) ∧ (pre.all fun c => cellIn p q c.1) = false ∧ Below w.heap.size w W)
    (OwnFrom.and (Own.from (heap_own w.heap.size 73 (fun _ => B)) _) (OwnFrom.and (Own.from (boxed_own _ _ _) _) (OwnFrom.and (Own.from (heap_own bm 71 (fun _ => M16 f)) _) (OwnFrom.and (Own.from (own_pure (fun pre : List (ClF f) => (pre.all fun c => cellIn p q c.1) = true)) _) (ownFrom_below (Nat.le_refl _) (by have := GZ.out; omega))))))
    (fun c => OwnFrom.and (Own.from (own_pure _) _) (OwnFrom.and (Own.from (boxed_own _ _ _) _) (OwnFrom.and (Own.from (own_pure (fun pre : List (ClF f) => (pre.all fun c => cellIn p q c.1) = false)) _) (ownFrom_below (Nat.le_refl _) (by have := GZ.out; omega)))))
    ⟨K0.out, G1.out, G0.out, rfl, GB.out⟩
    (fun c => { tmps := #[.agg B, .pointer (some ⟨w.heap.size, 0, none⟩), .pointer (some ⟨w.heap.size + 1, 0, none⟩), .int .i64 (c.1.1.1 : Int), .int .i64 (c.1.1.2 : Int), .pointer (some ⟨w.heap.size, 2, none⟩), .agg (M16 f), .func (.func 139) #[] #[.pointer (some ⟨bm, 0, none⟩)], .int .i64 (c.1.1.1 : Int), .int .i64 (c.1.1.2 : Int), undef, undef, undef, undef, undef, undef, undef, undef, undef, undef, undef, undef], defers := [] }) ?assign ?body ?done ?stop
  case assign =>
    intro ll x W K hK
    gi_wp2
    exact hK
  case body =>
    rintro ll pre ⟨⟨⟨x, y⟩, hx, hy⟩, hcf⟩ W ⟨hP0, hv, hP, hall, hB⟩ hlen
    have HP0 := Lib.hid hP0
    have HV := Lib.hid hv
    have HP := Lib.hid hP
    have HB := Lib.hid hB
    have OMx : Hid (∀ W m, CallsIn (F.inRound ll) m Try.prog 111 #[.agg B, .int .i64 (x : Int), .int .i64 (y : Int)] W fun e w' => e = .returned (.tuple #[.int .i64 (16 * p + x), .int .i64 (16 * q + y)]) ∧ Below W.heap.size W w') := Lib.hid fun W m => CallsIn.inRound ll (OM.out x y hx hy W m)
    obtain ⟨r, hr⟩ : ∃ r, cellIn p q ⟨(x, y), hx, hy⟩ = r := ⟨_, rfl⟩
    have PCx : Hid (∀ W m, CallsIn (F.inRound ll) m Try.prog 56 #[.int .i64 (16 * p + x), .int .i64 (16 * q + y)] W fun e w' => e = .returned (.bool r) ∧ W = w') := Lib.hid fun W m => by rw [← hr]; exact CallsIn.inRound ll (PC.out _ _ W m)
    have AL : Hid (((pre ++ [(⟨⟨(x, y), hx, hy⟩, hcf⟩ : ClF f)]).all fun c => cellIn p q c.1) = r) := Lib.hid (by rw [List.all_append, hall]; simp [hr])
    have hd : 1 ≤ n - 1 - 1 := by omega
    have F2 : (F.inRound ll).fn 111 := H2'
    have F3 : (F.inRound ll).fn 56 := H3'
    clear hP0 hv hP hall hB hlen hr
    gi_wp2_with (refine wpListIn_load_row rfl 73 _ rfl w.heap.size rfl 73 _ _ _ HP0.out Try.underlying73 rfl (ib_info _ B18.out) ?_)
    refine (OMx.out _ _).mono ?_
    rintro e W2 ⟨rfl, b2⟩
    have L2 : ∀ k o, W.heap[k]? = some o → W2.heap[k]? = some o := fun k o h => (b2.block k (Array.getElem?_eq_some_iff.1 h).1).trans h
    have P2 := Lib.hid (L2 _ _ HP0.out)
    have V2 : Hid (Boxed W2 (w.heap.size + 1) 4 (.bool false)) := Lib.hid (L2 _ _ HV.out)
    have M2 := Lib.hid (L2 _ _ HP.out)
    have KO : Hid (KeepsOthers W W2) := Lib.hid ⟨b2.size, fun k o h _ => L2 k o h⟩
    have B2 := Lib.hid (HB.out.trans (b2.mono HB.out.size))
    have SZ2 := Lib.hid b2.size
    have MK := Lib.hid ((L2 _ _ HP.out).trans HP.out.symm)
    clear b2 L2 HP0 HV
    cases r with
    | true =>
      gi_wp2_with ((with_reducible refine (PCx.out _ _).mono ?_); rintro e w' ⟨rfl, rfl⟩)
      exact ⟨KO.out.from _, ⟨SZ2.out, MK.out⟩, P2.out, V2.out, M2.out, AL.out, B2.out⟩
    | false =>
      have hc2 := V2.out.cell
      have hf2 := V2.out.frozen
      gi_wp2_with ((with_reducible refine (PCx.out _ _).mono ?_); rintro e w' ⟨rfl, rfl⟩)
      exact ⟨(KO.out.trans (KeepsOthers.setCell _ _ _)).from _, rfl, V2.out.set _, AL.out, B2.out.setCell (p := ⟨w.heap.size + 1, 0, none⟩) (by simp) _⟩
  case done =>
    rintro D ys W hD hys ⟨hP0, hv, hP, hall, hB⟩ hK
    have ha : (cellL f).all (cellIn p q) = true := by rw [← hys, List.all_map]; exact hall
    have HP0 := Lib.hid hP0
    have HV := Lib.hid hv
    have HB := Lib.hid hB
    have HK := Lib.hid hK
    have HA := Lib.hid ha
    have HD := Lib.hid hD
    clear hP0 hv hP hall hB hys hK ha
    gi_wp2_with (refine wpListIn_load_part rfl 71 _ rfl w.heap.size 2 rfl (M16 f) _ (fun j v e => by rw [Lib.cell_of_heap HP0.out]; exact LM.out j v e) Try.underlying71 rfl (mask_info _ (arr_size _ _ _)) ?_)
    refine (IE.out _ _).mono ?_
    rintro e W2 ⟨rfl, b2⟩
    have V2 : Boxed W2 (w.heap.size + 1) 4 (.bool false) := (b2.block _ (Array.getElem?_eq_some_iff.1 HV.out).1).trans HV.out
    have K2 : Hid (W2.heap[D]? = some (.deferred (some []))) := Lib.hid ((b2.block _ (Array.getElem?_eq_some_iff.1 HK.out).1).trans HK.out)
    have B2 := Lib.hid (HB.out.trans (b2.mono HB.out.size))
    have hc2 := V2.cell
    have hf2 := V2.frozen
    clear b2
    have hres : hasPic p q f = !emptyF f := by unfold hasPic; rw [HA.out]; rfl
    have HRES := Lib.hid hres
    clear hres
    gi_wp2
    have K3 : (W2.setCell ⟨w.heap.size + 1, 0, none⟩ (.bool (!emptyF f))).heap[D]? = some (.deferred (some [])) := (KeepsOthers.setCell _ _ _).same D _ K2.out rfl
    have V3 := V2.set (.bool (!emptyF f))
    have B3 : Below w.heap.size w (W2.setCell ⟨w.heap.size + 1, 0, none⟩ (.bool (!emptyF f))) := B2.out.setCell (p := ⟨w.heap.size + 1, 0, none⟩) (by simp) _
    generalize W2.setCell ⟨w.heap.size + 1, 0, none⟩ (.bool (!emptyF f)) = W3 at K3 V3 B3 ⊢
    refine ⟨by simp, .inl ⟨_, _, rfl, run_takeDeferred K3, ?_⟩⟩
    have hR4 : Boxed (W3.putObj D (.deferred none)) (w.heap.size + 1) 4 (.bool (!emptyF f)) := V3.kept (grownBy_putObj' W3 D _) (fun e => by cases e; rw [show W3.heap[_]? = _ from V3] at K3; cases K3)
    have hcF := hR4.cell
    refine ⟨.bool (!emptyF f), by simp [results, Try.results137, go_sem, hcF], by rw [HRES.out], ?_⟩
    exact B3.trans ((Below.refl _ W3).grown (grownBy_putObj' W3 D _) (by have := B3.size; omega) (fun k e => by cases e; have := HD.out; have := GZ.out; omega))
  case stop =>
    rintro D c pre W hD hsp ⟨rfl, hR, hall, hB⟩ hK
    have hres : hasPic p q f = false := by
      unfold hasPic
      have : (cellL f).all (cellIn p q) = false := by
        rw [List.all_eq_false] at hall ⊢
        obtain ⟨c, _, hc⟩ := hall
        exact ⟨c.1, mem_cellL c.2, hc⟩
      rw [this]; rfl
    gi_wp2
    refine ⟨by simp, .inl ⟨_, _, rfl, run_takeDeferred hK, ?_⟩⟩
    have hR4 : Boxed (W.putObj D (.deferred none)) (w.heap.size + 1) 4 (.bool false) := hR.kept (grownBy_putObj' W D _) (fun e => by cases e; rw [show W.heap[_]? = _ from hR] at hK; cases hK)
    have hcF := hR4.cell
    refine ⟨.bool false, by simp [results, Try.results137, go_sem, hcF], by rw [hres], ?_⟩
    exact hB.trans ((Below.refl _ W).grown (grownBy_putObj' W D _) (by have := hB.size; omega) (fun k e => by cases e; have := GZ.out; omega))
theorem hasPic_any (p q : Int) (hp : I32 p) (hq : I32 q) (f : Nat → Int) (hf : MB f) (w : World) :
    Calls Try.prog 137 #[.agg (bl p q f)] w fun e w' => e = .returned (.bool (hasPic p q f)) ∧ Below w.heap.size w w' :=
  callsIn_wide.1 (hasPic_in Fence.wide rfl 3 (Nat.le_refl _) p q hp hq f hf w)
end Go.Proofs.Ythfmkejdpflpcaa
