/-
  CONTRACTS: ReadDeed by the specification.
-/
import Derived.Test.YtkijgadkgfapgaaDoorYt
namespace Go.Proofs.YtkijgadkgfapgaaDoor
open Go.ChangeShapes Go.WideShapes Go.ChangeAt Go.RowKit
theorem row3_oneD (a b c : Int) : (#[Value.int .i64 a, Value.int .i64 b, Value.int .i64 c] : Array Value).all (·.oneCell') = true := by simp [Value.oneCell']
/-- 'append(list, s, t)' -/
theorem wpList_append_str2 {ops : Array Oper} {rest : List Oper} {o : Oper} {a : Act} {W : World} {Q : Exit → Act → World → Prop} (hgd : o.guard = none) (s x : Operand)
    (ho : o.op = .call { callee := .builtin .append, args := #[s, x], argTypes := #[59, 59] })
    (base : Nat) (v : Value) (q : List ByteArray) (c d : ByteArray) (hs : a.eval s = v) (hown : OwnS base v q W) (g : Nat) (hx : a.eval x = .slice (some ⟨g, 0, none⟩) 2 2)
    (hc : W.cell? ⟨g, 0, none⟩ = some (.string c)) (hd : W.cell? ⟨g, 1, none⟩ = some (.string d)) (hl : q.length ≤ 100000000) (hbase : base ≤ W.heap.size)
    (w0 : World) (hb : Below base w0 W)
    (h : ∀ v' w', OwnS base v' (q ++ [c, d]) w' → Below base w0 w' → wpList Tryd.prog ops Q rest (a.put o.dst v') w') : wpList Tryd.prog ops Q (o :: rest) a W := by
  obtain ⟨i0, hi, hz0, hz1, hz2⟩ := info_parts info_str
  refine wpList_append_own W hgd s x 59 ho base 9 i0 (.string .empty) 1 16 Tryd.underlying59 hi hz0 hz1 hz2 rfl (by decide) v q.length (strsC q) hs hown ⟨g, 0, none⟩ 2 2 [.string c, .string d] hx rfl ?_ ?_ (by unfold maxLen; omega) (by omega) hbase ?_
  · intro j u hj
    match j, hj with
    | 0, hj => simp at hj; subst hj; exact hc
    | 1, hj => simp at hj; subst hj; exact hd
    | j + 2, hj => simp at hj
  · intro u hu; simp at hu; rcases hu with rfl | rfl <;> rfl
  · intro v' w' h1 h2 _
    refine h v' w' ?_ ?_
    · unfold OwnS
      rw [List.length_append, show strsC (q ++ [c, d]) = strsC q ++ [.string c, .string d] from by simp [strsC]]
      exact h1
    · exact hb.grown h2 hbase (fun k hk => (World.ownsRow.lt hown k hk).1)
theorem app_get (q : List ByteArray) (j : Nat) : ((q ++ [(⟨#[]⟩ : ByteArray), ⟨#[]⟩]).getD j .empty).data.toList = (q.map (·.data.toList)).getD j [] := by
  by_cases h : j < q.length
  · rw [List.getD_eq_getElem?_getD, List.getElem?_append_left h, List.getD_eq_getElem?_getD, List.getElem?_map, List.getElem?_eq_getElem h]; rfl
  · rw [List.getD_eq_getElem?_getD, List.getElem?_append_right (by omega)]
    rw [List.getD_eq_getElem?_getD, List.getElem?_eq_none (l := q.map _) (by simp; omega)]
    generalize j - q.length = i
    match i with
    | 0 => rfl
    | 1 => rfl
    | i + 2 => rfl
theorem list_eq {a b : ByteArray} (h : a.data.toList = b.data.toList) : a = b := by
  cases a; cases b; simp only [ByteArray.mk.injEq]; exact Array.toList_inj.1 h
theorem wpList_load_rowg {P : Program} {ops : Array Oper} {rest : List Oper} {o : Oper} {a : Act} {w : World} {Q : Exit → Act → World → Prop} (hw : Region.wanted o (yielded ops a.tmps) = true) (ty : TypeId) (x : Operand) (ho : o.op = .load ty x)
    (g : Nat) (hx : a.eval x = .pointer (some ⟨g, 0, none⟩)) (t : TypeId) (cs : Array Value) (fr : Nat × Nat) (d : TypeDesc) (hg : w.heap[g]? = some (.cells cs t fr))
    (hu : P.underlying ty = some d) (hd : (match d with | .struct _ | .array _ _ => true | _ => false) = true) (hi : (P.info? ty).map (·.size) = some cs.size)
    (h : wpList P ops Q rest (a.put o.dst (.agg cs)) w) : wpList P ops Q (o :: rest) a w := by
  unfold wpList
  rw [if_pos hw]
  left
  unfold Oper.wp execOp
  simp only [ho, hx, Instr.loadAt, Instr.sureAddr, Sem.run_bind, Sem.run_pure, Result.andThen_ok, run_loadVar_row w g t ty cs fr d hg hu hd hi]
  exact h
theorem txt_same {a b : ByteArray} (h : a = b) : (a.toList == b.toList) = true := by rw [h]; exact beq_self_eq_true _
theorem txt_other {a b : ByteArray} (h : ¬ a = b) : (a.toList == b.toList) = false := by
  rw [ByteArray.toList_eq, ByteArray.toList_eq]
  exact beq_eq_false_iff_ne.2 fun e => h (list_eq e)
theorem rd_step {T : ByteArray} {RV : Value} {k : Nat} (hk : k ≤ 9) (hR : RV = rdV T (k : Int) (10 - k)) (h : rdA T (k : Int) = none) : RV = rdV T ((k + 1 : Nat) : Int) (10 - (k + 1)) := by
  rw [hR, show 10 - k = (10 - (k + 1)) + 1 from by omega, rdV_miss h]
  rfl
theorem rd_hit {T : ByteArray} {RV : Value} {k : Nat} {a b : Int} (hk : k ≤ 9) (hR : RV = rdV T (k : Int) (10 - k)) (h : isD T (k : Int) a b) : RV = .tuple #[.agg (D3 (k : Int) a b), .int .i64 0] := by
  rw [hR, show 10 - k = (10 - (k + 1)) + 1 from by omega, rdV_hit h]
theorem sp_miss0 {T q0 WK : ByteArray} {k : Int} (L0 : q0.data.toList = (splitL 32 T.data.toList).getD 0 []) (hW : WK = wdD k) (h0 : ¬ q0 = WK) : rdA T k = none :=
  rdA_spec fun hh => h0 (list_eq (L0.trans (hh.1.trans (by rw [hW]))))
theorem sp_miss1 {T : ByteArray} {k A B : Int} (EA : aQ k (splitL 32 T.data.toList) = A) (EB : bQ k (splitL 32 T.data.toList) = B) (h1 : ¬ dtT k A B = T) : rdA T k = none :=
  rdA_spec fun hh => h1 (by rw [← EA, ← EB]; exact hh.2)
theorem sp_hit {T q0 WK : ByteArray} {k A B : Int} (L0 : q0.data.toList = (splitL 32 T.data.toList).getD 0 []) (hW : WK = wdD k) (EA : aQ k (splitL 32 T.data.toList) = A) (EB : bQ k (splitL 32 T.data.toList) = B) (h0 : q0 = WK) (h1 : dtT k A B = T) : isD T k A B := by
  have := spec_test (T := T) (k := k) (by rw [← L0, h0, hW]) (by rw [EA, EB]; exact h1)
  rw [EA, EB] at this
  exact this
set_option maxRecDepth 20000 in
set_option maxHeartbeats 8000000 in
theorem sReadDeed_any (T : ByteArray) (w : World) :
    Calls Tryd.prog 9 #[.string T] w fun e w' => e = .returned (rdV T 1 9) ∧ Below w.heap.size w w' := by
  obtain ⟨w1, hw1⟩ : ∃ w1, w.alloc (.cells #[Value.int .i64 0, Value.int .i64 0, Value.int .i64 0] 25) = w1 := ⟨_, rfl⟩
  have H0 : Hid (w1.heap[w.heap.size]? = some (.cells #[Value.int .i64 0, Value.int .i64 0, Value.int .i64 0] 25 (0, 0))) := Lib.hid (by rw [← hw1]; exact World.alloc_heap_new w _)
  have B1 : Hid (Below w.heap.size w w1) := Lib.hid (by rw [← hw1]; exact (Below.refl _ _).alloc (Nat.le_refl _) _)
  have L1 : Hid (w.heap.size < w1.heap.size) := Lib.hid (by rw [← hw1]; simp)
  by_cases hbig : 40 < T.size
  · have R := Lib.hid (rdV_long T hbig 1 9)
    have tb : (40 : Int) < (T.size : Int) := by omega
    clear hbig
    go_enter Tryd.func9, Tryd.ntmps9
    go_wp2_with (refine wpList_store_row rfl 25 _ _ rfl w.heap.size #[Value.int .i64 0, Value.int .i64 0, Value.int .i64 0] rfl rfl 25 _ H0.out (deed_info _ rfl) rfl (row3_oneD _ _ _) ?_)
    refine bodyPost_ret (v := .tuple #[.agg #[Value.int .i64 0, Value.int .i64 0, Value.int .i64 0], .int .i64 5]) ?_ rfl ⟨by rw [R.out], ?_⟩
    · exact results_cell_tmp_rowF Tryd.results9 _ _ w.heap.size _ _ _ _ rfl (setRow_heap _ _ _ _ _ _ H0.out) Tryd.underlying25 rfl (deed_info _ rfl)
    · exact below_setRow B1.out (by omega) _
  have tb : (T.size : Int) ≤ 40 := by omega
  have SPL : Hid (∀ w, Calls Tryd.prog 33 #[.string T, .int .u8 32] w fun e w' => SplO 32 T w.heap.size e w' ∧ Below w.heap.size w w') := Lib.hid fun w => l01SplitO_any T 32 (by omega) w
  have HS0 : Hid (T.size ≤ 40) := Lib.hid (by omega)
  clear hbig
  obtain ⟨RV, hRV⟩ : ∃ x, rdV T 1 9 = x := ⟨_, rfl⟩
  have RS : Hid (RV = rdV T ((1 : Nat) : Int) (10 - 1)) := Lib.hid hRV.symm
  rw [hRV]
  clear hRV
  go_enter Tryd.func9, Tryd.ntmps9
  go_wp2_with fail
  refine (SPL.out _).mono ?_
  rintro e w2 ⟨⟨v, q, rfl, hq, ho⟩, hb⟩
  have OS := Lib.hid ho
  have B2 := Lib.hid hb
  have BB2 := Lib.hid (B1.out.trans (hb.mono (Nat.le_of_lt L1.out)))
  have QL : Hid (q.length ≤ 1000) := Lib.hid (by
    have h1 := congrArg List.length hq
    rw [List.length_map] at h1
    have h2 := splitL_len 32 T.data.toList
    have h3 : T.data.toList.length = T.size := by rw [Array.length_toList]; rfl
    have := HS0.out
    omega)
  have HQ := Lib.hid hq
  clear ho hb hq SPL
  have S2 : Hid (w1.heap.size ≤ w2.heap.size) := Lib.hid B2.out.size
  have HC0 : Hid ((w2.alloc (.cells #[Value.string { data := #[] }, Value.string { data := #[] }] 9)).cell? ⟨w2.heap.size, 0, none⟩ = some (.string ⟨#[]⟩)) := Lib.hid (by rw [World.cell?_alloc_new]; rfl)
  have HC1 : Hid ((w2.alloc (.cells #[Value.string { data := #[] }, Value.string { data := #[] }] 9)).cell? ⟨w2.heap.size, 1, none⟩ = some (.string ⟨#[]⟩)) := Lib.hid (by rw [World.cell?_alloc_new]; rfl)
  go_wp2_with (refine wpList_append_str2 rfl (.tmp 13) (.tmp 14) rfl w1.heap.size _ q ⟨#[]⟩ ⟨#[]⟩ rfl (OS.out.alloc _) w2.heap.size rfl HC0.out HC1.out (by have := QL.out; omega) (by simp; have := S2.out; omega) w1 (B2.out.alloc S2.out _) ?_; intro v' w3 o' b'; have O3 := Lib.hid o'; have B3 := Lib.hid b'; clear o' b'; try (go_wp2_with fail))
  refine (names_any _).mono ?_
  rintro e w4 ⟨rfl, hn, hb⟩
  obtain ⟨g, cap, rfl, hg1, hg2⟩ := own_cells O3.out (by simp)
  have HN := Lib.hid hn
  have B4 := Lib.hid (B1.out.trans ((B3.out.trans (hb.mono B3.out.size)).mono (Nat.le_of_lt L1.out)))
  have BX := Lib.hid (B3.out.trans (hb.mono B3.out.size))
  obtain ⟨q0, e0⟩ : ∃ x, (q ++ [(⟨#[]⟩ : ByteArray), ⟨#[]⟩]).getD 0 .empty = x := ⟨_, rfl⟩
  obtain ⟨q1, e1⟩ : ∃ x, (q ++ [(⟨#[]⟩ : ByteArray), ⟨#[]⟩]).getD 1 .empty = x := ⟨_, rfl⟩
  obtain ⟨q2, e2⟩ : ∃ x, (q ++ [(⟨#[]⟩ : ByteArray), ⟨#[]⟩]).getD 2 .empty = x := ⟨_, rfl⟩
  have hql : 3 ≤ (q ++ [(⟨#[]⟩ : ByteArray), ⟨#[]⟩]).length := by
    have h1 := congrArg List.length HQ.out
    rw [List.length_map] at h1
    have h2 := splitL_pos 32 T.data.toList
    simp; omega
  have L0 : Hid (q0.data.toList = (splitL 32 T.data.toList).getD 0 []) := Lib.hid (by rw [← e0, app_get, HQ.out])
  have L1' : Hid (q1.data.toList = (splitL 32 T.data.toList).getD 1 []) := Lib.hid (by rw [← e1, app_get, HQ.out])
  have L2' : Hid (q2.data.toList = (splitL 32 T.data.toList).getD 2 []) := Lib.hid (by rw [← e2, app_get, HQ.out])
  have SZ4 : Hid (w.heap.size < w4.heap.size ∧ w3.heap.size ≤ w4.heap.size) := Lib.hid ⟨by have := L1.out; have := BX.out.size; omega, hb.size⟩
  have GL : Hid (g < w3.heap.size) := Lib.hid (by
    have := World.block_lt_of_cell? _ _ (hg2 0 (by omega))
    simpa using this)
  have CW : Hid (∀ W, Below w4.heap.size w4 W → W.cell? ⟨g, 0, none⟩ = some (.string q0) ∧ W.cell? ⟨g, 1, none⟩ = some (.string q1) ∧ W.cell? ⟨g, 2, none⟩ = some (.string q2) ∧ (∀ i : Nat, i < 10 → W.cell? ⟨w3.heap.size, i, none⟩ = some (.string (nmW i))) ∧ W.heap[w.heap.size]? = some (.cells #[Value.int .i64 0, Value.int .i64 0, Value.int .i64 0] 25 (0, 0))) := Lib.hid fun W hW => by
    have hg3 : g < w4.heap.size := by have := GL.out; have := SZ4.out.2; omega
    have hk : ∀ j, W.cell? ⟨g, j, none⟩ = w3.cell? ⟨g, j, none⟩ := fun j => (Below.cell hW hg3).trans (Below.cell hb GL.out)
    refine ⟨(hk 0).trans (by rw [hg2 0 (by omega), e0]), (hk 1).trans (by rw [hg2 1 (by omega), e1]), (hk 2).trans (by rw [hg2 2 (by omega), e2]), fun i hi => (Below.cell hW ?_).trans (hn i hi), (hW.block _ SZ4.out.1).trans ((BX.out.block _ L1.out).trans H0.out)⟩
    have := World.block_lt_of_cell? _ _ (hn 0 (by omega))
    simpa using this
  have LN : Hid ((q ++ [(⟨#[]⟩ : ByteArray), ⟨#[]⟩]).length ≥ 3) := Lib.hid hql
  generalize (q ++ [(⟨#[]⟩ : ByteArray), ⟨#[]⟩]).length = qn at LN
  clear hb hn hg1 hg2 e0 e1 e2 hql O3 OS HC0 HC1 HQ QL BB2 B2 B3 S2 GL BX
  have B44 : Hid (Below w4.heap.size w4 w4) := Lib.hid (Below.refl _ _)
  clear hw1
  have nn := LN.out
  go_wp2
  go_loopw [6] (fun vk wr => ∃ k : Nat, 1 ≤ k ∧ k ≤ 10 ∧ vk = .int .i64 (k : Int) ∧ Hid (Below w4.heap.size w4 wr) ∧ Hid (RV = rdV T (k : Int) (10 - k))) (fun vk _ => 10 - (intOf vk).toNat)
  case atStart => exact ⟨1, by omega, by omega, rfl, B44, RS⟩
  case round =>
    obtain ⟨k, hk1, hk2, rfl, hB, hR⟩ := hrel
    obtain ⟨c0, c1, c2, cn, cr⟩ := CW.out wr hB.out
    by_cases hlt : k ≤ 9
    · have tk : (k : Int) ≤ 9 := by omega
      obtain ⟨w5, hw5⟩ : ∃ x, wr.alloc (.cells #[Value.int .i64 0, Value.int .i64 0, Value.int .i64 0] 25) = x := ⟨_, rfl⟩
      have T5 : Hid (w5.heap[wr.heap.size]? = some (.cells #[Value.int .i64 0, Value.int .i64 0, Value.int .i64 0] 25 (0, 0))) := Lib.hid (by rw [← hw5]; exact World.alloc_heap_new wr _)
      have HBW : Hid (w4.heap.size ≤ wr.heap.size) := Lib.hid hB.out.size
      have B5 : Hid (Below w4.heap.size w4 w5) := Lib.hid (by rw [← hw5]; exact hB.out.alloc HBW.out _)
      obtain ⟨w6, hw6⟩ : ∃ x, w5.setRow wr.heap.size (D3 (k : Int) 0 0) = x := ⟨_, rfl⟩
      have R6 : Hid (w6.heap[wr.heap.size]? = some (.cells (D3 (k : Int) 0 0) 25 (0, 0))) := Lib.hid (by rw [← hw6]; exact setRow_heap _ _ _ _ _ _ T5.out)
      have B6 : Hid (Below w4.heap.size w4 w6) := Lib.hid (by rw [← hw6]; exact below_setRow B5.out HBW.out _)
      have NA := Lib.hid (nmD_any (k : Int))
      have W9 : Hid (nmW k = wdD (k : Int)) := Lib.hid (by unfold nmW; rw [if_neg (by omega)])
      clear c0 c1 c2 cn cr
      rcases nmD_in (k : Int) with hN | hN | hN
      · have EA : Hid (aQ (k : Int) (splitL 32 T.data.toList) = 0) := Lib.hid (by unfold aQ; rw [hN]; rfl)
        have EB : Hid (bQ (k : Int) (splitL 32 T.data.toList) = 0) := Lib.hid (by unfold bQ; rw [hN]; rfl)
        rw [hN] at NA
        clear hN
        have DTX := Lib.hid (sDeedText_any (k : Int) 0 0)
        obtain ⟨DV, hDV⟩ : ∃ x, dtT (k : Int) 0 0 = x := ⟨_, rfl⟩
        rw [hDV] at DTX
        obtain ⟨WK, hWK⟩ : ∃ x, nmW k = x := ⟨_, rfl⟩
        have WE : Hid (WK = wdD (k : Int)) := Lib.hid (by rw [← hWK]; exact W9.out)
        have CC : Hid (∀ W, Below w6.heap.size w6 W → W.cell? ⟨g, 0, none⟩ = some (.string q0) ∧ W.cell? ⟨w3.heap.size, k, none⟩ = some (.string WK) ∧ W.heap[wr.heap.size]? = some (.cells (D3 (k : Int) 0 0) 25 (0, 0)) ∧ W.heap[w.heap.size]? = some (.cells #[Value.int .i64 0, Value.int .i64 0, Value.int .i64 0] 25 (0, 0)) ∧ Below w.heap.size w W) := Lib.hid fun W hW => by
          have bb := B6.out.trans (hW.mono B6.out.size)
          have c := CW.out W bb
          exact ⟨c.1, by rw [c.2.2.2.1 k (by omega), hWK], far_row hW R6.out, c.2.2.2.2, B4.out.trans (bb.mono (Nat.le_of_lt SZ4.out.1))⟩
        clear hWK
        go_wp2_with (refine wpList_store_row rfl 25 _ _ rfl wr.heap.size (D3 (k : Int) 0 0) rfl rfl 25 _ T5.out (deed_info _ rfl) rfl (row3_oneD _ _ _) ?_; rw [hw6])
        refine (NA.out _).mono ?_
        rintro e w' ⟨rfl, rfl⟩
        go_wp2_with fail
        refine (NA.out _).mono ?_
        rintro e w' ⟨rfl, rfl⟩
        go_wp2_with fail
        clear hw5 hw6  T5 B5
        by_cases h0 : q0 = WK
        · have E1 : (q0.toList == WK.toList) = true := txt_same h0
          by_cases h1 : DV = T
          · have E3 : (DV.toList == T.toList) = true := txt_same h1
            have HT := Lib.hid (rd_hit (by omega) hR.out (sp_hit L0.out WE.out EA.out EB.out h0 (hDV.trans h1)))
            clear h0 h1
            refine wp_region_inv (by kernel_rfl) (fun listed act W => listed.size = 14 ∧ Below w6.heap.size w6 W ∧ ∃ x0 x1 x2 x3 x4 x5 x6 x7 x8 x9 x10 x11 x12 x13, act = { tmps := #[.string T, undef, .pointer (some ⟨w.heap.size, 0, none⟩), u3, .slice (some ⟨g, 0, none⟩) qn cap, .slice (some ⟨w3.heap.size, 0, none⟩) 10 10, .int .i64 (k : Int), .pointer (some ⟨wr.heap.size, 0, none⟩), .string T, .int .i64 (T.size : Int), .bool (decide ((40 : Int) < (T.size : Int))), undef, .string T, v, .slice (some ⟨w2.heap.size, 0, none⟩) 2 2, .slice (some ⟨g, 0, none⟩) qn cap, .slice (some ⟨w3.heap.size, 0, none⟩) 10 10, .int .i64 (k : Int), .bool true, u19, u20, .int .i64 (k : Int), .agg (D3 (k : Int) 0 0), .int .i64 (k : Int), .int .i64 0, .bool false, u26, u27, u28, u29, u30, .int .i64 (k : Int), .int .i64 0, .bool false, u34, u35, u36, u37, u38, x0, x1, x2, x3, x4, x5, x6, x7, x8, x9, x10, x11, x12, x13, u53, undef], defers := [] } ∧ (listed.getD 0 false = true → x0 = .slice (some ⟨g, 0, none⟩) qn cap) ∧ (listed.getD 1 false = true → x1 = .pointer (some ⟨g, 0, none⟩)) ∧ (listed.getD 2 false = true → x2 = .string q0) ∧ (listed.getD 3 false = true → x3 = .slice (some ⟨w3.heap.size, 0, none⟩) 10 10) ∧ (listed.getD 4 false = true → x4 = .int .i64 (k : Int)) ∧ (listed.getD 5 false = true → x5 = .pointer (some ⟨w3.heap.size, k, none⟩)) ∧ (listed.getD 6 false = true → x6 = .string WK) ∧ (listed.getD 7 false = true → x7 = .bool true) ∧ (listed.getD 8 false = true → x8 = .bool true) ∧ (listed.getD 9 false = true → x9 = .agg (D3 (k : Int) 0 0)) ∧ (listed.getD 10 false = true → x10 = .string DV) ∧ (listed.getD 11 false = true → x11 = .string T) ∧ (listed.getD 12 false = true → x12 = .bool true) ∧ (listed.getD 13 false = true → x13 = .bool true)) (by kernel_rfl) ?h0011 (fun _ _ _ h => h.1) ?hstep011 ?hend011
            case h0011 =>
              refine ⟨rfl, (Below.refl _ _).drew, _, _, _, _, _, _, _, _, _, _, _, _, _, _, rfl, ?_, ?_, ?_, ?_, ?_, ?_, ?_, ?_, ?_, ?_, ?_, ?_, ?_, ?_⟩ <;> (intro h; exact absurd h (by decide))
            case hstep011 =>
              rintro listed act W i o ⟨hs, hB, x0, x1, x2, x3, x4, x5, x6, x7, x8, x9, x10, x11, x12, x13, rfl, e0, e1, e2, e3, e4, e5, e6, e7, e8, e9, e10, e11, e12, e13⟩ hun hio hpre
              have HB := Lib.hid hB
              have E0 := Lib.hid e0
              have E1 := Lib.hid e1
              have E2 := Lib.hid e2
              have E3 := Lib.hid e3
              have E4 := Lib.hid e4
              have E5 := Lib.hid e5
              have E6 := Lib.hid e6
              have E7 := Lib.hid e7
              have E8 := Lib.hid e8
              have E9 := Lib.hid e9
              have E10 := Lib.hid e10
              have E11 := Lib.hid e11
              have E12 := Lib.hid e12
              have E13 := Lib.hid e13
              have HS := Lib.hid hs
              have HU := Lib.hid hun
              have PRE := Lib.hid hpre
              clear e0 e1 e2 e3 e4 e5 e6 e7 e8 e9 e10 e11 e12 e13 hs hpre hB hun
              match i, hio with
              | 0, hio =>
                clear hio
                refine wpOp_by rfl fun K HK => ?_
                go_wp2_with (fail)
                exact HK.out _ _ ⟨by rw [Array.size_setIfInBounds, HS.out], HB.out, _, _, _, _, _, _, _, _, _, _, _, _, _, _, rfl, fun _ => rfl, fun h => E1.out ((listed_set h).resolve_left (by decide)), fun h => E2.out ((listed_set h).resolve_left (by decide)), fun h => E3.out ((listed_set h).resolve_left (by decide)), fun h => E4.out ((listed_set h).resolve_left (by decide)), fun h => E5.out ((listed_set h).resolve_left (by decide)), fun h => E6.out ((listed_set h).resolve_left (by decide)), fun h => E7.out ((listed_set h).resolve_left (by decide)), fun h => E8.out ((listed_set h).resolve_left (by decide)), fun h => E9.out ((listed_set h).resolve_left (by decide)), fun h => E10.out ((listed_set h).resolve_left (by decide)), fun h => E11.out ((listed_set h).resolve_left (by decide)), fun h => E12.out ((listed_set h).resolve_left (by decide)), fun h => E13.out ((listed_set h).resolve_left (by decide))⟩
              | 1, hio =>
                simp only [List.getElem?_toArray, List.getElem?_cons_succ, List.getElem?_cons_zero, Option.some.injEq] at hio
                subst hio
                have p0 := PRE.out ⟨0, .data⟩ (by simp) rfl
                obtain rfl := E0.out p0
                refine wpOp_by rfl fun K HK => ?_
                go_wp2_with (fail)
                exact HK.out _ _ ⟨by rw [Array.size_setIfInBounds, HS.out], HB.out, _, _, _, _, _, _, _, _, _, _, _, _, _, _, rfl, fun _ => rfl, fun _ => rfl, fun h => E2.out ((listed_set h).resolve_left (by decide)), fun h => E3.out ((listed_set h).resolve_left (by decide)), fun h => E4.out ((listed_set h).resolve_left (by decide)), fun h => E5.out ((listed_set h).resolve_left (by decide)), fun h => E6.out ((listed_set h).resolve_left (by decide)), fun h => E7.out ((listed_set h).resolve_left (by decide)), fun h => E8.out ((listed_set h).resolve_left (by decide)), fun h => E9.out ((listed_set h).resolve_left (by decide)), fun h => E10.out ((listed_set h).resolve_left (by decide)), fun h => E11.out ((listed_set h).resolve_left (by decide)), fun h => E12.out ((listed_set h).resolve_left (by decide)), fun h => E13.out ((listed_set h).resolve_left (by decide))⟩
              | 2, hio =>
                simp only [List.getElem?_toArray, List.getElem?_cons_succ, List.getElem?_cons_zero, Option.some.injEq] at hio
                subst hio
                have p1 := PRE.out ⟨1, .data⟩ (by simp) rfl
                obtain rfl := E1.out p1
                obtain ⟨z0, z1, z2, -, -⟩ := CC.out W HB.out
                refine wpOp_by rfl fun K HK => ?_
                go_wp2_with (fail)
                exact HK.out _ _ ⟨by rw [Array.size_setIfInBounds, HS.out], HB.out, _, _, _, _, _, _, _, _, _, _, _, _, _, _, rfl, fun h => E0.out ((listed_set h).resolve_left (by decide)), fun _ => rfl, fun _ => rfl, fun h => E3.out ((listed_set h).resolve_left (by decide)), fun h => E4.out ((listed_set h).resolve_left (by decide)), fun h => E5.out ((listed_set h).resolve_left (by decide)), fun h => E6.out ((listed_set h).resolve_left (by decide)), fun h => E7.out ((listed_set h).resolve_left (by decide)), fun h => E8.out ((listed_set h).resolve_left (by decide)), fun h => E9.out ((listed_set h).resolve_left (by decide)), fun h => E10.out ((listed_set h).resolve_left (by decide)), fun h => E11.out ((listed_set h).resolve_left (by decide)), fun h => E12.out ((listed_set h).resolve_left (by decide)), fun h => E13.out ((listed_set h).resolve_left (by decide))⟩
              | 3, hio =>
                clear hio
                refine wpOp_by rfl fun K HK => ?_
                go_wp2_with (fail)
                exact HK.out _ _ ⟨by rw [Array.size_setIfInBounds, HS.out], HB.out, _, _, _, _, _, _, _, _, _, _, _, _, _, _, rfl, fun h => E0.out ((listed_set h).resolve_left (by decide)), fun h => E1.out ((listed_set h).resolve_left (by decide)), fun h => E2.out ((listed_set h).resolve_left (by decide)), fun _ => rfl, fun h => E4.out ((listed_set h).resolve_left (by decide)), fun h => E5.out ((listed_set h).resolve_left (by decide)), fun h => E6.out ((listed_set h).resolve_left (by decide)), fun h => E7.out ((listed_set h).resolve_left (by decide)), fun h => E8.out ((listed_set h).resolve_left (by decide)), fun h => E9.out ((listed_set h).resolve_left (by decide)), fun h => E10.out ((listed_set h).resolve_left (by decide)), fun h => E11.out ((listed_set h).resolve_left (by decide)), fun h => E12.out ((listed_set h).resolve_left (by decide)), fun h => E13.out ((listed_set h).resolve_left (by decide))⟩
              | 4, hio =>
                clear hio
                refine wpOp_by rfl fun K HK => ?_
                go_wp2_with (fail)
                exact HK.out _ _ ⟨by rw [Array.size_setIfInBounds, HS.out], HB.out, _, _, _, _, _, _, _, _, _, _, _, _, _, _, rfl, fun h => E0.out ((listed_set h).resolve_left (by decide)), fun h => E1.out ((listed_set h).resolve_left (by decide)), fun h => E2.out ((listed_set h).resolve_left (by decide)), fun h => E3.out ((listed_set h).resolve_left (by decide)), fun _ => rfl, fun h => E5.out ((listed_set h).resolve_left (by decide)), fun h => E6.out ((listed_set h).resolve_left (by decide)), fun h => E7.out ((listed_set h).resolve_left (by decide)), fun h => E8.out ((listed_set h).resolve_left (by decide)), fun h => E9.out ((listed_set h).resolve_left (by decide)), fun h => E10.out ((listed_set h).resolve_left (by decide)), fun h => E11.out ((listed_set h).resolve_left (by decide)), fun h => E12.out ((listed_set h).resolve_left (by decide)), fun h => E13.out ((listed_set h).resolve_left (by decide))⟩
              | 5, hio =>
                simp only [List.getElem?_toArray, List.getElem?_cons_succ, List.getElem?_cons_zero, Option.some.injEq] at hio
                subst hio
                have p3 := PRE.out ⟨3, .data⟩ (by simp) rfl
                have p4 := PRE.out ⟨4, .data⟩ (by simp) rfl
                obtain rfl := E3.out p3
                obtain rfl := E4.out p4
                refine wpOp_by rfl fun K HK => ?_
                go_wp2_with (fail)
                exact HK.out _ _ ⟨by rw [Array.size_setIfInBounds, HS.out], HB.out, _, _, _, _, _, _, _, _, _, _, _, _, _, _, rfl, fun h => E0.out ((listed_set h).resolve_left (by decide)), fun h => E1.out ((listed_set h).resolve_left (by decide)), fun h => E2.out ((listed_set h).resolve_left (by decide)), fun _ => rfl, fun _ => rfl, fun _ => rfl, fun h => E6.out ((listed_set h).resolve_left (by decide)), fun h => E7.out ((listed_set h).resolve_left (by decide)), fun h => E8.out ((listed_set h).resolve_left (by decide)), fun h => E9.out ((listed_set h).resolve_left (by decide)), fun h => E10.out ((listed_set h).resolve_left (by decide)), fun h => E11.out ((listed_set h).resolve_left (by decide)), fun h => E12.out ((listed_set h).resolve_left (by decide)), fun h => E13.out ((listed_set h).resolve_left (by decide))⟩
              | 6, hio =>
                simp only [List.getElem?_toArray, List.getElem?_cons_succ, List.getElem?_cons_zero, Option.some.injEq] at hio
                subst hio
                have p5 := PRE.out ⟨5, .data⟩ (by simp) rfl
                obtain rfl := E5.out p5
                obtain ⟨z0, z1, z2, -, -⟩ := CC.out W HB.out
                refine wpOp_by rfl fun K HK => ?_
                go_wp2_with (fail)
                exact HK.out _ _ ⟨by rw [Array.size_setIfInBounds, HS.out], HB.out, _, _, _, _, _, _, _, _, _, _, _, _, _, _, rfl, fun h => E0.out ((listed_set h).resolve_left (by decide)), fun h => E1.out ((listed_set h).resolve_left (by decide)), fun h => E2.out ((listed_set h).resolve_left (by decide)), fun h => E3.out ((listed_set h).resolve_left (by decide)), fun h => E4.out ((listed_set h).resolve_left (by decide)), fun _ => rfl, fun _ => rfl, fun h => E7.out ((listed_set h).resolve_left (by decide)), fun h => E8.out ((listed_set h).resolve_left (by decide)), fun h => E9.out ((listed_set h).resolve_left (by decide)), fun h => E10.out ((listed_set h).resolve_left (by decide)), fun h => E11.out ((listed_set h).resolve_left (by decide)), fun h => E12.out ((listed_set h).resolve_left (by decide)), fun h => E13.out ((listed_set h).resolve_left (by decide))⟩
              | 7, hio =>
                simp only [List.getElem?_toArray, List.getElem?_cons_succ, List.getElem?_cons_zero, Option.some.injEq] at hio
                subst hio
                have p2 := PRE.out ⟨2, .data⟩ (by simp) rfl
                have p6 := PRE.out ⟨6, .data⟩ (by simp) rfl
                obtain rfl := E2.out p2
                obtain rfl := E6.out p6
                refine wpOp_by rfl fun K HK => ?_
                go_wp2_with (fail)
                exact HK.out _ _ ⟨by rw [Array.size_setIfInBounds, HS.out], HB.out, _, _, _, _, _, _, _, _, _, _, _, _, _, _, rfl, fun h => E0.out ((listed_set h).resolve_left (by decide)), fun h => E1.out ((listed_set h).resolve_left (by decide)), fun _ => rfl, fun h => E3.out ((listed_set h).resolve_left (by decide)), fun h => E4.out ((listed_set h).resolve_left (by decide)), fun h => E5.out ((listed_set h).resolve_left (by decide)), fun _ => rfl, fun _ => rfl, fun h => E8.out ((listed_set h).resolve_left (by decide)), fun h => E9.out ((listed_set h).resolve_left (by decide)), fun h => E10.out ((listed_set h).resolve_left (by decide)), fun h => E11.out ((listed_set h).resolve_left (by decide)), fun h => E12.out ((listed_set h).resolve_left (by decide)), fun h => E13.out ((listed_set h).resolve_left (by decide))⟩
              | 8, hio =>
                simp only [List.getElem?_toArray, List.getElem?_cons_succ, List.getElem?_cons_zero, Option.some.injEq] at hio
                subst hio
                have p7 := PRE.out ⟨7, .data⟩ (by simp) rfl
                obtain rfl := E7.out p7
                refine wpOp_by rfl fun K HK => ?_
                go_wp2_with (fail)
                exact HK.out _ _ ⟨by rw [Array.size_setIfInBounds, HS.out], HB.out, _, _, _, _, _, _, _, _, _, _, _, _, _, _, rfl, fun h => E0.out ((listed_set h).resolve_left (by decide)), fun h => E1.out ((listed_set h).resolve_left (by decide)), fun h => E2.out ((listed_set h).resolve_left (by decide)), fun h => E3.out ((listed_set h).resolve_left (by decide)), fun h => E4.out ((listed_set h).resolve_left (by decide)), fun h => E5.out ((listed_set h).resolve_left (by decide)), fun h => E6.out ((listed_set h).resolve_left (by decide)), fun _ => rfl, fun _ => rfl, fun h => E9.out ((listed_set h).resolve_left (by decide)), fun h => E10.out ((listed_set h).resolve_left (by decide)), fun h => E11.out ((listed_set h).resolve_left (by decide)), fun h => E12.out ((listed_set h).resolve_left (by decide)), fun h => E13.out ((listed_set h).resolve_left (by decide))⟩
              | 9, hio =>
                simp only [List.getElem?_toArray, List.getElem?_cons_succ, List.getElem?_cons_zero, Option.some.injEq] at hio
                subst hio
                have p8 := PRE.out ⟨8, .guard⟩ (by simp) rfl
                obtain rfl := E8.out p8
                obtain ⟨z0, z1, z2, -, -⟩ := CC.out W HB.out
                have DR := Lib.hid z2
                clear z0 z1 z2
                refine wpOp_by rfl fun K HK => ?_
                go_wp2_with (refine wpList_load_rowg rfl 25 _ rfl wr.heap.size rfl 25 _ _ _ DR.out Tryd.underlying25 rfl (deed_info _ rfl) ?_)
                exact HK.out _ _ ⟨by rw [Array.size_setIfInBounds, HS.out], HB.out, _, _, _, _, _, _, _, _, _, _, _, _, _, _, rfl, fun h => E0.out ((listed_set h).resolve_left (by decide)), fun h => E1.out ((listed_set h).resolve_left (by decide)), fun h => E2.out ((listed_set h).resolve_left (by decide)), fun h => E3.out ((listed_set h).resolve_left (by decide)), fun h => E4.out ((listed_set h).resolve_left (by decide)), fun h => E5.out ((listed_set h).resolve_left (by decide)), fun h => E6.out ((listed_set h).resolve_left (by decide)), fun h => E7.out ((listed_set h).resolve_left (by decide)), fun _ => rfl, fun _ => rfl, fun h => E10.out ((listed_set h).resolve_left (by decide)), fun h => E11.out ((listed_set h).resolve_left (by decide)), fun h => E12.out ((listed_set h).resolve_left (by decide)), fun h => E13.out ((listed_set h).resolve_left (by decide))⟩
              | 10, hio =>
                simp only [List.getElem?_toArray, List.getElem?_cons_succ, List.getElem?_cons_zero, Option.some.injEq] at hio
                subst hio
                have p9 := PRE.out ⟨9, .data⟩ (by simp) rfl
                have p8 := PRE.out ⟨8, .guard⟩ (by simp) rfl
                obtain rfl := E9.out p9
                obtain rfl := E8.out p8
                refine wpOp_by rfl fun K HK => ?_
                go_wp2_with fail
                refine Calls.mono (DTX.out _) ?_
                rintro e W' ⟨rfl, hb⟩
                have HBB := Lib.hid hb
                clear hb
                go_wp2
                exact HK.out _ _ ⟨by rw [Array.size_setIfInBounds, HS.out], HB.out.trans (HBB.out.mono HB.out.size), _, _, _, _, _, _, _, _, _, _, _, _, _, _, rfl, fun h => E0.out ((listed_set h).resolve_left (by decide)), fun h => E1.out ((listed_set h).resolve_left (by decide)), fun h => E2.out ((listed_set h).resolve_left (by decide)), fun h => E3.out ((listed_set h).resolve_left (by decide)), fun h => E4.out ((listed_set h).resolve_left (by decide)), fun h => E5.out ((listed_set h).resolve_left (by decide)), fun h => E6.out ((listed_set h).resolve_left (by decide)), fun h => E7.out ((listed_set h).resolve_left (by decide)), fun _ => rfl, fun _ => rfl, fun _ => rfl, fun h => E11.out ((listed_set h).resolve_left (by decide)), fun h => E12.out ((listed_set h).resolve_left (by decide)), fun h => E13.out ((listed_set h).resolve_left (by decide))⟩
              | 11, hio =>
                simp only [List.getElem?_toArray, List.getElem?_cons_succ, List.getElem?_cons_zero, Option.some.injEq] at hio
                subst hio
                have p8 := PRE.out ⟨8, .guard⟩ (by simp) rfl
                obtain rfl := E8.out p8
                refine wpOp_by rfl fun K HK => ?_
                go_wp2_with (fail)
                exact HK.out _ _ ⟨by rw [Array.size_setIfInBounds, HS.out], HB.out, _, _, _, _, _, _, _, _, _, _, _, _, _, _, rfl, fun h => E0.out ((listed_set h).resolve_left (by decide)), fun h => E1.out ((listed_set h).resolve_left (by decide)), fun h => E2.out ((listed_set h).resolve_left (by decide)), fun h => E3.out ((listed_set h).resolve_left (by decide)), fun h => E4.out ((listed_set h).resolve_left (by decide)), fun h => E5.out ((listed_set h).resolve_left (by decide)), fun h => E6.out ((listed_set h).resolve_left (by decide)), fun h => E7.out ((listed_set h).resolve_left (by decide)), fun _ => rfl, fun h => E9.out ((listed_set h).resolve_left (by decide)), fun h => E10.out ((listed_set h).resolve_left (by decide)), fun _ => rfl, fun h => E12.out ((listed_set h).resolve_left (by decide)), fun h => E13.out ((listed_set h).resolve_left (by decide))⟩
              | 12, hio =>
                simp only [List.getElem?_toArray, List.getElem?_cons_succ, List.getElem?_cons_zero, Option.some.injEq] at hio
                subst hio
                have p10 := PRE.out ⟨10, .data⟩ (by simp) rfl
                have p11 := PRE.out ⟨11, .data⟩ (by simp) rfl
                have p8 := PRE.out ⟨8, .guard⟩ (by simp) rfl
                obtain rfl := E10.out p10
                obtain rfl := E11.out p11
                obtain rfl := E8.out p8
                refine wpOp_by rfl fun K HK => ?_
                go_wp2_with (fail)
                exact HK.out _ _ ⟨by rw [Array.size_setIfInBounds, HS.out], HB.out, _, _, _, _, _, _, _, _, _, _, _, _, _, _, rfl, fun h => E0.out ((listed_set h).resolve_left (by decide)), fun h => E1.out ((listed_set h).resolve_left (by decide)), fun h => E2.out ((listed_set h).resolve_left (by decide)), fun h => E3.out ((listed_set h).resolve_left (by decide)), fun h => E4.out ((listed_set h).resolve_left (by decide)), fun h => E5.out ((listed_set h).resolve_left (by decide)), fun h => E6.out ((listed_set h).resolve_left (by decide)), fun h => E7.out ((listed_set h).resolve_left (by decide)), fun _ => rfl, fun h => E9.out ((listed_set h).resolve_left (by decide)), fun _ => rfl, fun _ => rfl, fun _ => rfl, fun h => E13.out ((listed_set h).resolve_left (by decide))⟩
              | 13, hio =>
                simp only [List.getElem?_toArray, List.getElem?_cons_succ, List.getElem?_cons_zero, Option.some.injEq] at hio
                subst hio
                have p8 := PRE.out ⟨8, .data⟩ (by simp) rfl
                have p12 := PRE.out ⟨12, .data⟩ (by simp) rfl
                obtain rfl := E8.out p8
                obtain rfl := E12.out p12
                refine wpOp_by rfl fun K HK => ?_
                go_wp2_with (fail)
                exact HK.out _ _ ⟨by rw [Array.size_setIfInBounds, HS.out], HB.out, _, _, _, _, _, _, _, _, _, _, _, _, _, _, rfl, fun h => E0.out ((listed_set h).resolve_left (by decide)), fun h => E1.out ((listed_set h).resolve_left (by decide)), fun h => E2.out ((listed_set h).resolve_left (by decide)), fun h => E3.out ((listed_set h).resolve_left (by decide)), fun h => E4.out ((listed_set h).resolve_left (by decide)), fun h => E5.out ((listed_set h).resolve_left (by decide)), fun h => E6.out ((listed_set h).resolve_left (by decide)), fun h => E7.out ((listed_set h).resolve_left (by decide)), fun _ => rfl, fun h => E9.out ((listed_set h).resolve_left (by decide)), fun h => E10.out ((listed_set h).resolve_left (by decide)), fun h => E11.out ((listed_set h).resolve_left (by decide)), fun _ => rfl, fun _ => rfl⟩
              | k + 14, hio => simp at hio
            case hend011 =>
              rintro listed act W1 ⟨hs, hB, x0, x1, x2, x3, x4, x5, x6, x7, x8, x9, x10, x11, x12, x13, rfl, e0, e1, e2, e3, e4, e5, e6, e7, e8, e9, e10, e11, e12, e13⟩ hall
              obtain rfl := e0 (hall 0 (by decide))
              obtain rfl := e1 (hall 1 (by decide))
              obtain rfl := e2 (hall 2 (by decide))
              obtain rfl := e3 (hall 3 (by decide))
              obtain rfl := e4 (hall 4 (by decide))
              obtain rfl := e5 (hall 5 (by decide))
              obtain rfl := e6 (hall 6 (by decide))
              obtain rfl := e7 (hall 7 (by decide))
              obtain rfl := e8 (hall 8 (by decide))
              obtain rfl := e9 (hall 9 (by decide))
              obtain rfl := e10 (hall 10 (by decide))
              obtain rfl := e11 (hall 11 (by decide))
              obtain rfl := e12 (hall 12 (by decide))
              obtain rfl := e13 (hall 13 (by decide))
              clear hs
              obtain ⟨-, -, z2, z3, z4⟩ := CC.out W1 hB
              have K1 := Lib.hid z2
              have K0 := Lib.hid z3
              have KB := Lib.hid z4
              clear z2 z3 z4 hB hall CC
              go_wp2_with (first | (refine wpList_load_row rfl 25 _ rfl wr.heap.size rfl 25 _ _ _ K1.out Tryd.underlying25 rfl (deed_info _ rfl) ?_) | (refine wpList_store_row rfl 25 _ _ rfl w.heap.size (D3 (k : Int) 0 0) rfl rfl 25 _ K0.out (deed_info _ rfl) rfl (row3_oneD _ _ _) ?_))
              refine bodyPost_ret (v := .tuple #[.agg (D3 (k : Int) 0 0), .int .i64 0]) ?_ rfl ⟨by rw [HT.out], ?_⟩
              · exact results_cell_tmp_rowF Tryd.results9 _ _ w.heap.size _ _ _ _ rfl (setRow_heap _ _ _ _ _ _ K0.out) Tryd.underlying25 rfl (deed_info _ rfl)
              · exact below_setRow KB.out (by omega) _
          · have E3 : (DV.toList == T.toList) = false := txt_other h1
            have MS := Lib.hid (rd_step (by omega) hR.out (sp_miss1 EA.out EB.out (fun e => h1 (hDV.symm.trans e))))
            clear h0 h1
            refine wp_region_inv (by kernel_rfl) (fun listed act W => listed.size = 14 ∧ Below w6.heap.size w6 W ∧ ∃ x0 x1 x2 x3 x4 x5 x6 x7 x8 x9 x10 x11 x12 x13, act = { tmps := #[.string T, undef, .pointer (some ⟨w.heap.size, 0, none⟩), u3, .slice (some ⟨g, 0, none⟩) qn cap, .slice (some ⟨w3.heap.size, 0, none⟩) 10 10, .int .i64 (k : Int), .pointer (some ⟨wr.heap.size, 0, none⟩), .string T, .int .i64 (T.size : Int), .bool (decide ((40 : Int) < (T.size : Int))), undef, .string T, v, .slice (some ⟨w2.heap.size, 0, none⟩) 2 2, .slice (some ⟨g, 0, none⟩) qn cap, .slice (some ⟨w3.heap.size, 0, none⟩) 10 10, .int .i64 (k : Int), .bool true, u19, u20, .int .i64 (k : Int), .agg (D3 (k : Int) 0 0), .int .i64 (k : Int), .int .i64 0, .bool false, u26, u27, u28, u29, u30, .int .i64 (k : Int), .int .i64 0, .bool false, u34, u35, u36, u37, u38, x0, x1, x2, x3, x4, x5, x6, x7, x8, x9, x10, x11, x12, x13, u53, undef], defers := [] } ∧ (listed.getD 0 false = true → x0 = .slice (some ⟨g, 0, none⟩) qn cap) ∧ (listed.getD 1 false = true → x1 = .pointer (some ⟨g, 0, none⟩)) ∧ (listed.getD 2 false = true → x2 = .string q0) ∧ (listed.getD 3 false = true → x3 = .slice (some ⟨w3.heap.size, 0, none⟩) 10 10) ∧ (listed.getD 4 false = true → x4 = .int .i64 (k : Int)) ∧ (listed.getD 5 false = true → x5 = .pointer (some ⟨w3.heap.size, k, none⟩)) ∧ (listed.getD 6 false = true → x6 = .string WK) ∧ (listed.getD 7 false = true → x7 = .bool true) ∧ (listed.getD 8 false = true → x8 = .bool true) ∧ (listed.getD 9 false = true → x9 = .agg (D3 (k : Int) 0 0)) ∧ (listed.getD 10 false = true → x10 = .string DV) ∧ (listed.getD 11 false = true → x11 = .string T) ∧ (listed.getD 12 false = true → x12 = .bool false) ∧ (listed.getD 13 false = true → x13 = .bool false)) (by kernel_rfl) ?h0010 (fun _ _ _ h => h.1) ?hstep010 ?hend010
            case h0010 =>
              refine ⟨rfl, (Below.refl _ _).drew, _, _, _, _, _, _, _, _, _, _, _, _, _, _, rfl, ?_, ?_, ?_, ?_, ?_, ?_, ?_, ?_, ?_, ?_, ?_, ?_, ?_, ?_⟩ <;> (intro h; exact absurd h (by decide))
            case hstep010 =>
              rintro listed act W i o ⟨hs, hB, x0, x1, x2, x3, x4, x5, x6, x7, x8, x9, x10, x11, x12, x13, rfl, e0, e1, e2, e3, e4, e5, e6, e7, e8, e9, e10, e11, e12, e13⟩ hun hio hpre
              have HB := Lib.hid hB
              have E0 := Lib.hid e0
              have E1 := Lib.hid e1
              have E2 := Lib.hid e2
              have E3 := Lib.hid e3
              have E4 := Lib.hid e4
              have E5 := Lib.hid e5
              have E6 := Lib.hid e6
              have E7 := Lib.hid e7
              have E8 := Lib.hid e8
              have E9 := Lib.hid e9
              have E10 := Lib.hid e10
              have E11 := Lib.hid e11
              have E12 := Lib.hid e12
              have E13 := Lib.hid e13
              have HS := Lib.hid hs
              have HU := Lib.hid hun
              have PRE := Lib.hid hpre
              clear e0 e1 e2 e3 e4 e5 e6 e7 e8 e9 e10 e11 e12 e13 hs hpre hB hun
              match i, hio with
              | 0, hio =>
                clear hio
                refine wpOp_by rfl fun K HK => ?_
                go_wp2_with (fail)
                exact HK.out _ _ ⟨by rw [Array.size_setIfInBounds, HS.out], HB.out, _, _, _, _, _, _, _, _, _, _, _, _, _, _, rfl, fun _ => rfl, fun h => E1.out ((listed_set h).resolve_left (by decide)), fun h => E2.out ((listed_set h).resolve_left (by decide)), fun h => E3.out ((listed_set h).resolve_left (by decide)), fun h => E4.out ((listed_set h).resolve_left (by decide)), fun h => E5.out ((listed_set h).resolve_left (by decide)), fun h => E6.out ((listed_set h).resolve_left (by decide)), fun h => E7.out ((listed_set h).resolve_left (by decide)), fun h => E8.out ((listed_set h).resolve_left (by decide)), fun h => E9.out ((listed_set h).resolve_left (by decide)), fun h => E10.out ((listed_set h).resolve_left (by decide)), fun h => E11.out ((listed_set h).resolve_left (by decide)), fun h => E12.out ((listed_set h).resolve_left (by decide)), fun h => E13.out ((listed_set h).resolve_left (by decide))⟩
              | 1, hio =>
                simp only [List.getElem?_toArray, List.getElem?_cons_succ, List.getElem?_cons_zero, Option.some.injEq] at hio
                subst hio
                have p0 := PRE.out ⟨0, .data⟩ (by simp) rfl
                obtain rfl := E0.out p0
                refine wpOp_by rfl fun K HK => ?_
                go_wp2_with (fail)
                exact HK.out _ _ ⟨by rw [Array.size_setIfInBounds, HS.out], HB.out, _, _, _, _, _, _, _, _, _, _, _, _, _, _, rfl, fun _ => rfl, fun _ => rfl, fun h => E2.out ((listed_set h).resolve_left (by decide)), fun h => E3.out ((listed_set h).resolve_left (by decide)), fun h => E4.out ((listed_set h).resolve_left (by decide)), fun h => E5.out ((listed_set h).resolve_left (by decide)), fun h => E6.out ((listed_set h).resolve_left (by decide)), fun h => E7.out ((listed_set h).resolve_left (by decide)), fun h => E8.out ((listed_set h).resolve_left (by decide)), fun h => E9.out ((listed_set h).resolve_left (by decide)), fun h => E10.out ((listed_set h).resolve_left (by decide)), fun h => E11.out ((listed_set h).resolve_left (by decide)), fun h => E12.out ((listed_set h).resolve_left (by decide)), fun h => E13.out ((listed_set h).resolve_left (by decide))⟩
              | 2, hio =>
                simp only [List.getElem?_toArray, List.getElem?_cons_succ, List.getElem?_cons_zero, Option.some.injEq] at hio
                subst hio
                have p1 := PRE.out ⟨1, .data⟩ (by simp) rfl
                obtain rfl := E1.out p1
                obtain ⟨z0, z1, z2, -, -⟩ := CC.out W HB.out
                refine wpOp_by rfl fun K HK => ?_
                go_wp2_with (fail)
                exact HK.out _ _ ⟨by rw [Array.size_setIfInBounds, HS.out], HB.out, _, _, _, _, _, _, _, _, _, _, _, _, _, _, rfl, fun h => E0.out ((listed_set h).resolve_left (by decide)), fun _ => rfl, fun _ => rfl, fun h => E3.out ((listed_set h).resolve_left (by decide)), fun h => E4.out ((listed_set h).resolve_left (by decide)), fun h => E5.out ((listed_set h).resolve_left (by decide)), fun h => E6.out ((listed_set h).resolve_left (by decide)), fun h => E7.out ((listed_set h).resolve_left (by decide)), fun h => E8.out ((listed_set h).resolve_left (by decide)), fun h => E9.out ((listed_set h).resolve_left (by decide)), fun h => E10.out ((listed_set h).resolve_left (by decide)), fun h => E11.out ((listed_set h).resolve_left (by decide)), fun h => E12.out ((listed_set h).resolve_left (by decide)), fun h => E13.out ((listed_set h).resolve_left (by decide))⟩
              | 3, hio =>
                clear hio
                refine wpOp_by rfl fun K HK => ?_
                go_wp2_with (fail)
                exact HK.out _ _ ⟨by rw [Array.size_setIfInBounds, HS.out], HB.out, _, _, _, _, _, _, _, _, _, _, _, _, _, _, rfl, fun h => E0.out ((listed_set h).resolve_left (by decide)), fun h => E1.out ((listed_set h).resolve_left (by decide)), fun h => E2.out ((listed_set h).resolve_left (by decide)), fun _ => rfl, fun h => E4.out ((listed_set h).resolve_left (by decide)), fun h => E5.out ((listed_set h).resolve_left (by decide)), fun h => E6.out ((listed_set h).resolve_left (by decide)), fun h => E7.out ((listed_set h).resolve_left (by decide)), fun h => E8.out ((listed_set h).resolve_left (by decide)), fun h => E9.out ((listed_set h).resolve_left (by decide)), fun h => E10.out ((listed_set h).resolve_left (by decide)), fun h => E11.out ((listed_set h).resolve_left (by decide)), fun h => E12.out ((listed_set h).resolve_left (by decide)), fun h => E13.out ((listed_set h).resolve_left (by decide))⟩
              | 4, hio =>
                clear hio
                refine wpOp_by rfl fun K HK => ?_
                go_wp2_with (fail)
                exact HK.out _ _ ⟨by rw [Array.size_setIfInBounds, HS.out], HB.out, _, _, _, _, _, _, _, _, _, _, _, _, _, _, rfl, fun h => E0.out ((listed_set h).resolve_left (by decide)), fun h => E1.out ((listed_set h).resolve_left (by decide)), fun h => E2.out ((listed_set h).resolve_left (by decide)), fun h => E3.out ((listed_set h).resolve_left (by decide)), fun _ => rfl, fun h => E5.out ((listed_set h).resolve_left (by decide)), fun h => E6.out ((listed_set h).resolve_left (by decide)), fun h => E7.out ((listed_set h).resolve_left (by decide)), fun h => E8.out ((listed_set h).resolve_left (by decide)), fun h => E9.out ((listed_set h).resolve_left (by decide)), fun h => E10.out ((listed_set h).resolve_left (by decide)), fun h => E11.out ((listed_set h).resolve_left (by decide)), fun h => E12.out ((listed_set h).resolve_left (by decide)), fun h => E13.out ((listed_set h).resolve_left (by decide))⟩
              | 5, hio =>
                simp only [List.getElem?_toArray, List.getElem?_cons_succ, List.getElem?_cons_zero, Option.some.injEq] at hio
                subst hio
                have p3 := PRE.out ⟨3, .data⟩ (by simp) rfl
                have p4 := PRE.out ⟨4, .data⟩ (by simp) rfl
                obtain rfl := E3.out p3
                obtain rfl := E4.out p4
                refine wpOp_by rfl fun K HK => ?_
                go_wp2_with (fail)
                exact HK.out _ _ ⟨by rw [Array.size_setIfInBounds, HS.out], HB.out, _, _, _, _, _, _, _, _, _, _, _, _, _, _, rfl, fun h => E0.out ((listed_set h).resolve_left (by decide)), fun h => E1.out ((listed_set h).resolve_left (by decide)), fun h => E2.out ((listed_set h).resolve_left (by decide)), fun _ => rfl, fun _ => rfl, fun _ => rfl, fun h => E6.out ((listed_set h).resolve_left (by decide)), fun h => E7.out ((listed_set h).resolve_left (by decide)), fun h => E8.out ((listed_set h).resolve_left (by decide)), fun h => E9.out ((listed_set h).resolve_left (by decide)), fun h => E10.out ((listed_set h).resolve_left (by decide)), fun h => E11.out ((listed_set h).resolve_left (by decide)), fun h => E12.out ((listed_set h).resolve_left (by decide)), fun h => E13.out ((listed_set h).resolve_left (by decide))⟩
              | 6, hio =>
                simp only [List.getElem?_toArray, List.getElem?_cons_succ, List.getElem?_cons_zero, Option.some.injEq] at hio
                subst hio
                have p5 := PRE.out ⟨5, .data⟩ (by simp) rfl
                obtain rfl := E5.out p5
                obtain ⟨z0, z1, z2, -, -⟩ := CC.out W HB.out
                refine wpOp_by rfl fun K HK => ?_
                go_wp2_with (fail)
                exact HK.out _ _ ⟨by rw [Array.size_setIfInBounds, HS.out], HB.out, _, _, _, _, _, _, _, _, _, _, _, _, _, _, rfl, fun h => E0.out ((listed_set h).resolve_left (by decide)), fun h => E1.out ((listed_set h).resolve_left (by decide)), fun h => E2.out ((listed_set h).resolve_left (by decide)), fun h => E3.out ((listed_set h).resolve_left (by decide)), fun h => E4.out ((listed_set h).resolve_left (by decide)), fun _ => rfl, fun _ => rfl, fun h => E7.out ((listed_set h).resolve_left (by decide)), fun h => E8.out ((listed_set h).resolve_left (by decide)), fun h => E9.out ((listed_set h).resolve_left (by decide)), fun h => E10.out ((listed_set h).resolve_left (by decide)), fun h => E11.out ((listed_set h).resolve_left (by decide)), fun h => E12.out ((listed_set h).resolve_left (by decide)), fun h => E13.out ((listed_set h).resolve_left (by decide))⟩
              | 7, hio =>
                simp only [List.getElem?_toArray, List.getElem?_cons_succ, List.getElem?_cons_zero, Option.some.injEq] at hio
                subst hio
                have p2 := PRE.out ⟨2, .data⟩ (by simp) rfl
                have p6 := PRE.out ⟨6, .data⟩ (by simp) rfl
                obtain rfl := E2.out p2
                obtain rfl := E6.out p6
                refine wpOp_by rfl fun K HK => ?_
                go_wp2_with (fail)
                exact HK.out _ _ ⟨by rw [Array.size_setIfInBounds, HS.out], HB.out, _, _, _, _, _, _, _, _, _, _, _, _, _, _, rfl, fun h => E0.out ((listed_set h).resolve_left (by decide)), fun h => E1.out ((listed_set h).resolve_left (by decide)), fun _ => rfl, fun h => E3.out ((listed_set h).resolve_left (by decide)), fun h => E4.out ((listed_set h).resolve_left (by decide)), fun h => E5.out ((listed_set h).resolve_left (by decide)), fun _ => rfl, fun _ => rfl, fun h => E8.out ((listed_set h).resolve_left (by decide)), fun h => E9.out ((listed_set h).resolve_left (by decide)), fun h => E10.out ((listed_set h).resolve_left (by decide)), fun h => E11.out ((listed_set h).resolve_left (by decide)), fun h => E12.out ((listed_set h).resolve_left (by decide)), fun h => E13.out ((listed_set h).resolve_left (by decide))⟩
              | 8, hio =>
                simp only [List.getElem?_toArray, List.getElem?_cons_succ, List.getElem?_cons_zero, Option.some.injEq] at hio
                subst hio
                have p7 := PRE.out ⟨7, .data⟩ (by simp) rfl
                obtain rfl := E7.out p7
                refine wpOp_by rfl fun K HK => ?_
                go_wp2_with (fail)
                exact HK.out _ _ ⟨by rw [Array.size_setIfInBounds, HS.out], HB.out, _, _, _, _, _, _, _, _, _, _, _, _, _, _, rfl, fun h => E0.out ((listed_set h).resolve_left (by decide)), fun h => E1.out ((listed_set h).resolve_left (by decide)), fun h => E2.out ((listed_set h).resolve_left (by decide)), fun h => E3.out ((listed_set h).resolve_left (by decide)), fun h => E4.out ((listed_set h).resolve_left (by decide)), fun h => E5.out ((listed_set h).resolve_left (by decide)), fun h => E6.out ((listed_set h).resolve_left (by decide)), fun _ => rfl, fun _ => rfl, fun h => E9.out ((listed_set h).resolve_left (by decide)), fun h => E10.out ((listed_set h).resolve_left (by decide)), fun h => E11.out ((listed_set h).resolve_left (by decide)), fun h => E12.out ((listed_set h).resolve_left (by decide)), fun h => E13.out ((listed_set h).resolve_left (by decide))⟩
              | 9, hio =>
                simp only [List.getElem?_toArray, List.getElem?_cons_succ, List.getElem?_cons_zero, Option.some.injEq] at hio
                subst hio
                have p8 := PRE.out ⟨8, .guard⟩ (by simp) rfl
                obtain rfl := E8.out p8
                obtain ⟨z0, z1, z2, -, -⟩ := CC.out W HB.out
                have DR := Lib.hid z2
                clear z0 z1 z2
                refine wpOp_by rfl fun K HK => ?_
                go_wp2_with (refine wpList_load_rowg rfl 25 _ rfl wr.heap.size rfl 25 _ _ _ DR.out Tryd.underlying25 rfl (deed_info _ rfl) ?_)
                exact HK.out _ _ ⟨by rw [Array.size_setIfInBounds, HS.out], HB.out, _, _, _, _, _, _, _, _, _, _, _, _, _, _, rfl, fun h => E0.out ((listed_set h).resolve_left (by decide)), fun h => E1.out ((listed_set h).resolve_left (by decide)), fun h => E2.out ((listed_set h).resolve_left (by decide)), fun h => E3.out ((listed_set h).resolve_left (by decide)), fun h => E4.out ((listed_set h).resolve_left (by decide)), fun h => E5.out ((listed_set h).resolve_left (by decide)), fun h => E6.out ((listed_set h).resolve_left (by decide)), fun h => E7.out ((listed_set h).resolve_left (by decide)), fun _ => rfl, fun _ => rfl, fun h => E10.out ((listed_set h).resolve_left (by decide)), fun h => E11.out ((listed_set h).resolve_left (by decide)), fun h => E12.out ((listed_set h).resolve_left (by decide)), fun h => E13.out ((listed_set h).resolve_left (by decide))⟩
              | 10, hio =>
                simp only [List.getElem?_toArray, List.getElem?_cons_succ, List.getElem?_cons_zero, Option.some.injEq] at hio
                subst hio
                have p9 := PRE.out ⟨9, .data⟩ (by simp) rfl
                have p8 := PRE.out ⟨8, .guard⟩ (by simp) rfl
                obtain rfl := E9.out p9
                obtain rfl := E8.out p8
                refine wpOp_by rfl fun K HK => ?_
                go_wp2_with fail
                refine Calls.mono (DTX.out _) ?_
                rintro e W' ⟨rfl, hb⟩
                have HBB := Lib.hid hb
                clear hb
                go_wp2
                exact HK.out _ _ ⟨by rw [Array.size_setIfInBounds, HS.out], HB.out.trans (HBB.out.mono HB.out.size), _, _, _, _, _, _, _, _, _, _, _, _, _, _, rfl, fun h => E0.out ((listed_set h).resolve_left (by decide)), fun h => E1.out ((listed_set h).resolve_left (by decide)), fun h => E2.out ((listed_set h).resolve_left (by decide)), fun h => E3.out ((listed_set h).resolve_left (by decide)), fun h => E4.out ((listed_set h).resolve_left (by decide)), fun h => E5.out ((listed_set h).resolve_left (by decide)), fun h => E6.out ((listed_set h).resolve_left (by decide)), fun h => E7.out ((listed_set h).resolve_left (by decide)), fun _ => rfl, fun _ => rfl, fun _ => rfl, fun h => E11.out ((listed_set h).resolve_left (by decide)), fun h => E12.out ((listed_set h).resolve_left (by decide)), fun h => E13.out ((listed_set h).resolve_left (by decide))⟩
              | 11, hio =>
                simp only [List.getElem?_toArray, List.getElem?_cons_succ, List.getElem?_cons_zero, Option.some.injEq] at hio
                subst hio
                have p8 := PRE.out ⟨8, .guard⟩ (by simp) rfl
                obtain rfl := E8.out p8
                refine wpOp_by rfl fun K HK => ?_
                go_wp2_with (fail)
                exact HK.out _ _ ⟨by rw [Array.size_setIfInBounds, HS.out], HB.out, _, _, _, _, _, _, _, _, _, _, _, _, _, _, rfl, fun h => E0.out ((listed_set h).resolve_left (by decide)), fun h => E1.out ((listed_set h).resolve_left (by decide)), fun h => E2.out ((listed_set h).resolve_left (by decide)), fun h => E3.out ((listed_set h).resolve_left (by decide)), fun h => E4.out ((listed_set h).resolve_left (by decide)), fun h => E5.out ((listed_set h).resolve_left (by decide)), fun h => E6.out ((listed_set h).resolve_left (by decide)), fun h => E7.out ((listed_set h).resolve_left (by decide)), fun _ => rfl, fun h => E9.out ((listed_set h).resolve_left (by decide)), fun h => E10.out ((listed_set h).resolve_left (by decide)), fun _ => rfl, fun h => E12.out ((listed_set h).resolve_left (by decide)), fun h => E13.out ((listed_set h).resolve_left (by decide))⟩
              | 12, hio =>
                simp only [List.getElem?_toArray, List.getElem?_cons_succ, List.getElem?_cons_zero, Option.some.injEq] at hio
                subst hio
                have p10 := PRE.out ⟨10, .data⟩ (by simp) rfl
                have p11 := PRE.out ⟨11, .data⟩ (by simp) rfl
                have p8 := PRE.out ⟨8, .guard⟩ (by simp) rfl
                obtain rfl := E10.out p10
                obtain rfl := E11.out p11
                obtain rfl := E8.out p8
                refine wpOp_by rfl fun K HK => ?_
                go_wp2_with (fail)
                exact HK.out _ _ ⟨by rw [Array.size_setIfInBounds, HS.out], HB.out, _, _, _, _, _, _, _, _, _, _, _, _, _, _, rfl, fun h => E0.out ((listed_set h).resolve_left (by decide)), fun h => E1.out ((listed_set h).resolve_left (by decide)), fun h => E2.out ((listed_set h).resolve_left (by decide)), fun h => E3.out ((listed_set h).resolve_left (by decide)), fun h => E4.out ((listed_set h).resolve_left (by decide)), fun h => E5.out ((listed_set h).resolve_left (by decide)), fun h => E6.out ((listed_set h).resolve_left (by decide)), fun h => E7.out ((listed_set h).resolve_left (by decide)), fun _ => rfl, fun h => E9.out ((listed_set h).resolve_left (by decide)), fun _ => rfl, fun _ => rfl, fun _ => rfl, fun h => E13.out ((listed_set h).resolve_left (by decide))⟩
              | 13, hio =>
                simp only [List.getElem?_toArray, List.getElem?_cons_succ, List.getElem?_cons_zero, Option.some.injEq] at hio
                subst hio
                have p8 := PRE.out ⟨8, .data⟩ (by simp) rfl
                have p12 := PRE.out ⟨12, .data⟩ (by simp) rfl
                obtain rfl := E8.out p8
                obtain rfl := E12.out p12
                refine wpOp_by rfl fun K HK => ?_
                go_wp2_with (fail)
                exact HK.out _ _ ⟨by rw [Array.size_setIfInBounds, HS.out], HB.out, _, _, _, _, _, _, _, _, _, _, _, _, _, _, rfl, fun h => E0.out ((listed_set h).resolve_left (by decide)), fun h => E1.out ((listed_set h).resolve_left (by decide)), fun h => E2.out ((listed_set h).resolve_left (by decide)), fun h => E3.out ((listed_set h).resolve_left (by decide)), fun h => E4.out ((listed_set h).resolve_left (by decide)), fun h => E5.out ((listed_set h).resolve_left (by decide)), fun h => E6.out ((listed_set h).resolve_left (by decide)), fun h => E7.out ((listed_set h).resolve_left (by decide)), fun _ => rfl, fun h => E9.out ((listed_set h).resolve_left (by decide)), fun h => E10.out ((listed_set h).resolve_left (by decide)), fun h => E11.out ((listed_set h).resolve_left (by decide)), fun _ => rfl, fun _ => rfl⟩
              | k + 14, hio => simp at hio
            case hend010 =>
              rintro listed act W1 ⟨hs, hB, x0, x1, x2, x3, x4, x5, x6, x7, x8, x9, x10, x11, x12, x13, rfl, e0, e1, e2, e3, e4, e5, e6, e7, e8, e9, e10, e11, e12, e13⟩ hall
              obtain rfl := e0 (hall 0 (by decide))
              obtain rfl := e1 (hall 1 (by decide))
              obtain rfl := e2 (hall 2 (by decide))
              obtain rfl := e3 (hall 3 (by decide))
              obtain rfl := e4 (hall 4 (by decide))
              obtain rfl := e5 (hall 5 (by decide))
              obtain rfl := e6 (hall 6 (by decide))
              obtain rfl := e7 (hall 7 (by decide))
              obtain rfl := e8 (hall 8 (by decide))
              obtain rfl := e9 (hall 9 (by decide))
              obtain rfl := e10 (hall 10 (by decide))
              obtain rfl := e11 (hall 11 (by decide))
              obtain rfl := e12 (hall 12 (by decide))
              obtain rfl := e13 (hall 13 (by decide))
              clear hs
              have BN : Hid (Below w4.heap.size w4 W1) := Lib.hid (B6.out.trans (hB.mono B6.out.size))
              clear hB hall CC
              go_wp2
              refine ⟨⟨k + 1, by omega, by omega, by go_num, BN, MS⟩, by simp [intOf]; omega⟩
        · have E1 : (q0.toList == WK.toList) = false := txt_other h0
          have MS := Lib.hid (rd_step (by omega) hR.out (sp_miss0 L0.out WE.out h0))
          clear h0
          refine wp_region_inv (by kernel_rfl) (fun listed act W => listed.size = 14 ∧ Below w6.heap.size w6 W ∧ ∃ x0 x1 x2 x3 x4 x5 x6 x7 x8 x9 x10 x11 x12 x13, act = { tmps := #[.string T, undef, .pointer (some ⟨w.heap.size, 0, none⟩), u3, .slice (some ⟨g, 0, none⟩) qn cap, .slice (some ⟨w3.heap.size, 0, none⟩) 10 10, .int .i64 (k : Int), .pointer (some ⟨wr.heap.size, 0, none⟩), .string T, .int .i64 (T.size : Int), .bool (decide ((40 : Int) < (T.size : Int))), undef, .string T, v, .slice (some ⟨w2.heap.size, 0, none⟩) 2 2, .slice (some ⟨g, 0, none⟩) qn cap, .slice (some ⟨w3.heap.size, 0, none⟩) 10 10, .int .i64 (k : Int), .bool true, u19, u20, .int .i64 (k : Int), .agg (D3 (k : Int) 0 0), .int .i64 (k : Int), .int .i64 0, .bool false, u26, u27, u28, u29, u30, .int .i64 (k : Int), .int .i64 0, .bool false, u34, u35, u36, u37, u38, x0, x1, x2, x3, x4, x5, x6, x7, x8, x9, x10, x11, x12, x13, u53, undef], defers := [] } ∧ (listed.getD 0 false = true → x0 = .slice (some ⟨g, 0, none⟩) qn cap) ∧ (listed.getD 1 false = true → x1 = .pointer (some ⟨g, 0, none⟩)) ∧ (listed.getD 2 false = true → x2 = .string q0) ∧ (listed.getD 3 false = true → x3 = .slice (some ⟨w3.heap.size, 0, none⟩) 10 10) ∧ (listed.getD 4 false = true → x4 = .int .i64 (k : Int)) ∧ (listed.getD 5 false = true → x5 = .pointer (some ⟨w3.heap.size, k, none⟩)) ∧ (listed.getD 6 false = true → x6 = .string WK) ∧ (listed.getD 7 false = true → x7 = .bool false) ∧ (listed.getD 8 false = true → x8 = .bool false) ∧ (listed.getD 9 false = true → x9 = undef) ∧ (listed.getD 10 false = true → x10 = undef) ∧ (listed.getD 11 false = true → x11 = undef) ∧ (listed.getD 12 false = true → x12 = undef) ∧ (listed.getD 13 false = true → x13 = .bool false)) (by kernel_rfl) ?h0000 (fun _ _ _ h => h.1) ?hstep000 ?hend000
          case h0000 =>
            refine ⟨rfl, (Below.refl _ _).drew, _, _, _, _, _, _, _, _, _, _, _, _, _, _, rfl, ?_, ?_, ?_, ?_, ?_, ?_, ?_, ?_, ?_, ?_, ?_, ?_, ?_, ?_⟩ <;> (intro h; exact absurd h (by decide))
          case hstep000 =>
            rintro listed act W i o ⟨hs, hB, x0, x1, x2, x3, x4, x5, x6, x7, x8, x9, x10, x11, x12, x13, rfl, e0, e1, e2, e3, e4, e5, e6, e7, e8, e9, e10, e11, e12, e13⟩ hun hio hpre
            have HB := Lib.hid hB
            have E0 := Lib.hid e0
            have E1 := Lib.hid e1
            have E2 := Lib.hid e2
            have E3 := Lib.hid e3
            have E4 := Lib.hid e4
            have E5 := Lib.hid e5
            have E6 := Lib.hid e6
            have E7 := Lib.hid e7
            have E8 := Lib.hid e8
            have E9 := Lib.hid e9
            have E10 := Lib.hid e10
            have E11 := Lib.hid e11
            have E12 := Lib.hid e12
            have E13 := Lib.hid e13
            have HS := Lib.hid hs
            have HU := Lib.hid hun
            have PRE := Lib.hid hpre
            clear e0 e1 e2 e3 e4 e5 e6 e7 e8 e9 e10 e11 e12 e13 hs hpre hB hun
            match i, hio with
            | 0, hio =>
              clear hio
              refine wpOp_by rfl fun K HK => ?_
              go_wp2_with (fail)
              exact HK.out _ _ ⟨by rw [Array.size_setIfInBounds, HS.out], HB.out, _, _, _, _, _, _, _, _, _, _, _, _, _, _, rfl, fun _ => rfl, fun h => E1.out ((listed_set h).resolve_left (by decide)), fun h => E2.out ((listed_set h).resolve_left (by decide)), fun h => E3.out ((listed_set h).resolve_left (by decide)), fun h => E4.out ((listed_set h).resolve_left (by decide)), fun h => E5.out ((listed_set h).resolve_left (by decide)), fun h => E6.out ((listed_set h).resolve_left (by decide)), fun h => E7.out ((listed_set h).resolve_left (by decide)), fun h => E8.out ((listed_set h).resolve_left (by decide)), fun h => E9.out ((listed_set h).resolve_left (by decide)), fun h => E10.out ((listed_set h).resolve_left (by decide)), fun h => E11.out ((listed_set h).resolve_left (by decide)), fun h => E12.out ((listed_set h).resolve_left (by decide)), fun h => E13.out ((listed_set h).resolve_left (by decide))⟩
            | 1, hio =>
              simp only [List.getElem?_toArray, List.getElem?_cons_succ, List.getElem?_cons_zero, Option.some.injEq] at hio
              subst hio
              have p0 := PRE.out ⟨0, .data⟩ (by simp) rfl
              obtain rfl := E0.out p0
              refine wpOp_by rfl fun K HK => ?_
              go_wp2_with (fail)
              exact HK.out _ _ ⟨by rw [Array.size_setIfInBounds, HS.out], HB.out, _, _, _, _, _, _, _, _, _, _, _, _, _, _, rfl, fun _ => rfl, fun _ => rfl, fun h => E2.out ((listed_set h).resolve_left (by decide)), fun h => E3.out ((listed_set h).resolve_left (by decide)), fun h => E4.out ((listed_set h).resolve_left (by decide)), fun h => E5.out ((listed_set h).resolve_left (by decide)), fun h => E6.out ((listed_set h).resolve_left (by decide)), fun h => E7.out ((listed_set h).resolve_left (by decide)), fun h => E8.out ((listed_set h).resolve_left (by decide)), fun h => E9.out ((listed_set h).resolve_left (by decide)), fun h => E10.out ((listed_set h).resolve_left (by decide)), fun h => E11.out ((listed_set h).resolve_left (by decide)), fun h => E12.out ((listed_set h).resolve_left (by decide)), fun h => E13.out ((listed_set h).resolve_left (by decide))⟩
            | 2, hio =>
              simp only [List.getElem?_toArray, List.getElem?_cons_succ, List.getElem?_cons_zero, Option.some.injEq] at hio
              subst hio
              have p1 := PRE.out ⟨1, .data⟩ (by simp) rfl
              obtain rfl := E1.out p1
              obtain ⟨z0, z1, z2, -, -⟩ := CC.out W HB.out
              refine wpOp_by rfl fun K HK => ?_
              go_wp2_with (fail)
              exact HK.out _ _ ⟨by rw [Array.size_setIfInBounds, HS.out], HB.out, _, _, _, _, _, _, _, _, _, _, _, _, _, _, rfl, fun h => E0.out ((listed_set h).resolve_left (by decide)), fun _ => rfl, fun _ => rfl, fun h => E3.out ((listed_set h).resolve_left (by decide)), fun h => E4.out ((listed_set h).resolve_left (by decide)), fun h => E5.out ((listed_set h).resolve_left (by decide)), fun h => E6.out ((listed_set h).resolve_left (by decide)), fun h => E7.out ((listed_set h).resolve_left (by decide)), fun h => E8.out ((listed_set h).resolve_left (by decide)), fun h => E9.out ((listed_set h).resolve_left (by decide)), fun h => E10.out ((listed_set h).resolve_left (by decide)), fun h => E11.out ((listed_set h).resolve_left (by decide)), fun h => E12.out ((listed_set h).resolve_left (by decide)), fun h => E13.out ((listed_set h).resolve_left (by decide))⟩
            | 3, hio =>
              clear hio
              refine wpOp_by rfl fun K HK => ?_
              go_wp2_with (fail)
              exact HK.out _ _ ⟨by rw [Array.size_setIfInBounds, HS.out], HB.out, _, _, _, _, _, _, _, _, _, _, _, _, _, _, rfl, fun h => E0.out ((listed_set h).resolve_left (by decide)), fun h => E1.out ((listed_set h).resolve_left (by decide)), fun h => E2.out ((listed_set h).resolve_left (by decide)), fun _ => rfl, fun h => E4.out ((listed_set h).resolve_left (by decide)), fun h => E5.out ((listed_set h).resolve_left (by decide)), fun h => E6.out ((listed_set h).resolve_left (by decide)), fun h => E7.out ((listed_set h).resolve_left (by decide)), fun h => E8.out ((listed_set h).resolve_left (by decide)), fun h => E9.out ((listed_set h).resolve_left (by decide)), fun h => E10.out ((listed_set h).resolve_left (by decide)), fun h => E11.out ((listed_set h).resolve_left (by decide)), fun h => E12.out ((listed_set h).resolve_left (by decide)), fun h => E13.out ((listed_set h).resolve_left (by decide))⟩
            | 4, hio =>
              clear hio
              refine wpOp_by rfl fun K HK => ?_
              go_wp2_with (fail)
              exact HK.out _ _ ⟨by rw [Array.size_setIfInBounds, HS.out], HB.out, _, _, _, _, _, _, _, _, _, _, _, _, _, _, rfl, fun h => E0.out ((listed_set h).resolve_left (by decide)), fun h => E1.out ((listed_set h).resolve_left (by decide)), fun h => E2.out ((listed_set h).resolve_left (by decide)), fun h => E3.out ((listed_set h).resolve_left (by decide)), fun _ => rfl, fun h => E5.out ((listed_set h).resolve_left (by decide)), fun h => E6.out ((listed_set h).resolve_left (by decide)), fun h => E7.out ((listed_set h).resolve_left (by decide)), fun h => E8.out ((listed_set h).resolve_left (by decide)), fun h => E9.out ((listed_set h).resolve_left (by decide)), fun h => E10.out ((listed_set h).resolve_left (by decide)), fun h => E11.out ((listed_set h).resolve_left (by decide)), fun h => E12.out ((listed_set h).resolve_left (by decide)), fun h => E13.out ((listed_set h).resolve_left (by decide))⟩
            | 5, hio =>
              simp only [List.getElem?_toArray, List.getElem?_cons_succ, List.getElem?_cons_zero, Option.some.injEq] at hio
              subst hio
              have p3 := PRE.out ⟨3, .data⟩ (by simp) rfl
              have p4 := PRE.out ⟨4, .data⟩ (by simp) rfl
              obtain rfl := E3.out p3
              obtain rfl := E4.out p4
              refine wpOp_by rfl fun K HK => ?_
              go_wp2_with (fail)
              exact HK.out _ _ ⟨by rw [Array.size_setIfInBounds, HS.out], HB.out, _, _, _, _, _, _, _, _, _, _, _, _, _, _, rfl, fun h => E0.out ((listed_set h).resolve_left (by decide)), fun h => E1.out ((listed_set h).resolve_left (by decide)), fun h => E2.out ((listed_set h).resolve_left (by decide)), fun _ => rfl, fun _ => rfl, fun _ => rfl, fun h => E6.out ((listed_set h).resolve_left (by decide)), fun h => E7.out ((listed_set h).resolve_left (by decide)), fun h => E8.out ((listed_set h).resolve_left (by decide)), fun h => E9.out ((listed_set h).resolve_left (by decide)), fun h => E10.out ((listed_set h).resolve_left (by decide)), fun h => E11.out ((listed_set h).resolve_left (by decide)), fun h => E12.out ((listed_set h).resolve_left (by decide)), fun h => E13.out ((listed_set h).resolve_left (by decide))⟩
            | 6, hio =>
              simp only [List.getElem?_toArray, List.getElem?_cons_succ, List.getElem?_cons_zero, Option.some.injEq] at hio
              subst hio
              have p5 := PRE.out ⟨5, .data⟩ (by simp) rfl
              obtain rfl := E5.out p5
              obtain ⟨z0, z1, z2, -, -⟩ := CC.out W HB.out
              refine wpOp_by rfl fun K HK => ?_
              go_wp2_with (fail)
              exact HK.out _ _ ⟨by rw [Array.size_setIfInBounds, HS.out], HB.out, _, _, _, _, _, _, _, _, _, _, _, _, _, _, rfl, fun h => E0.out ((listed_set h).resolve_left (by decide)), fun h => E1.out ((listed_set h).resolve_left (by decide)), fun h => E2.out ((listed_set h).resolve_left (by decide)), fun h => E3.out ((listed_set h).resolve_left (by decide)), fun h => E4.out ((listed_set h).resolve_left (by decide)), fun _ => rfl, fun _ => rfl, fun h => E7.out ((listed_set h).resolve_left (by decide)), fun h => E8.out ((listed_set h).resolve_left (by decide)), fun h => E9.out ((listed_set h).resolve_left (by decide)), fun h => E10.out ((listed_set h).resolve_left (by decide)), fun h => E11.out ((listed_set h).resolve_left (by decide)), fun h => E12.out ((listed_set h).resolve_left (by decide)), fun h => E13.out ((listed_set h).resolve_left (by decide))⟩
            | 7, hio =>
              simp only [List.getElem?_toArray, List.getElem?_cons_succ, List.getElem?_cons_zero, Option.some.injEq] at hio
              subst hio
              have p2 := PRE.out ⟨2, .data⟩ (by simp) rfl
              have p6 := PRE.out ⟨6, .data⟩ (by simp) rfl
              obtain rfl := E2.out p2
              obtain rfl := E6.out p6
              refine wpOp_by rfl fun K HK => ?_
              go_wp2_with (fail)
              exact HK.out _ _ ⟨by rw [Array.size_setIfInBounds, HS.out], HB.out, _, _, _, _, _, _, _, _, _, _, _, _, _, _, rfl, fun h => E0.out ((listed_set h).resolve_left (by decide)), fun h => E1.out ((listed_set h).resolve_left (by decide)), fun _ => rfl, fun h => E3.out ((listed_set h).resolve_left (by decide)), fun h => E4.out ((listed_set h).resolve_left (by decide)), fun h => E5.out ((listed_set h).resolve_left (by decide)), fun _ => rfl, fun _ => rfl, fun h => E8.out ((listed_set h).resolve_left (by decide)), fun h => E9.out ((listed_set h).resolve_left (by decide)), fun h => E10.out ((listed_set h).resolve_left (by decide)), fun h => E11.out ((listed_set h).resolve_left (by decide)), fun h => E12.out ((listed_set h).resolve_left (by decide)), fun h => E13.out ((listed_set h).resolve_left (by decide))⟩
            | 8, hio =>
              simp only [List.getElem?_toArray, List.getElem?_cons_succ, List.getElem?_cons_zero, Option.some.injEq] at hio
              subst hio
              have p7 := PRE.out ⟨7, .data⟩ (by simp) rfl
              obtain rfl := E7.out p7
              refine wpOp_by rfl fun K HK => ?_
              go_wp2_with (fail)
              exact HK.out _ _ ⟨by rw [Array.size_setIfInBounds, HS.out], HB.out, _, _, _, _, _, _, _, _, _, _, _, _, _, _, rfl, fun h => E0.out ((listed_set h).resolve_left (by decide)), fun h => E1.out ((listed_set h).resolve_left (by decide)), fun h => E2.out ((listed_set h).resolve_left (by decide)), fun h => E3.out ((listed_set h).resolve_left (by decide)), fun h => E4.out ((listed_set h).resolve_left (by decide)), fun h => E5.out ((listed_set h).resolve_left (by decide)), fun h => E6.out ((listed_set h).resolve_left (by decide)), fun _ => rfl, fun _ => rfl, fun h => E9.out ((listed_set h).resolve_left (by decide)), fun h => E10.out ((listed_set h).resolve_left (by decide)), fun h => E11.out ((listed_set h).resolve_left (by decide)), fun h => E12.out ((listed_set h).resolve_left (by decide)), fun h => E13.out ((listed_set h).resolve_left (by decide))⟩
            | 9, hio =>
              simp only [List.getElem?_toArray, List.getElem?_cons_succ, List.getElem?_cons_zero, Option.some.injEq] at hio
              subst hio
              have p8 := PRE.out ⟨8, .guard⟩ (by simp) rfl
              obtain rfl := E8.out p8
              refine wpOp_by rfl fun K HK => ?_
              go_wp2_with (fail)
              exact HK.out _ _ ⟨by rw [Array.size_setIfInBounds, HS.out], HB.out, _, _, _, _, _, _, _, _, _, _, _, _, _, _, rfl, fun h => E0.out ((listed_set h).resolve_left (by decide)), fun h => E1.out ((listed_set h).resolve_left (by decide)), fun h => E2.out ((listed_set h).resolve_left (by decide)), fun h => E3.out ((listed_set h).resolve_left (by decide)), fun h => E4.out ((listed_set h).resolve_left (by decide)), fun h => E5.out ((listed_set h).resolve_left (by decide)), fun h => E6.out ((listed_set h).resolve_left (by decide)), fun h => E7.out ((listed_set h).resolve_left (by decide)), fun _ => rfl, fun _ => rfl, fun h => E10.out ((listed_set h).resolve_left (by decide)), fun h => E11.out ((listed_set h).resolve_left (by decide)), fun h => E12.out ((listed_set h).resolve_left (by decide)), fun h => E13.out ((listed_set h).resolve_left (by decide))⟩
            | 10, hio =>
              simp only [List.getElem?_toArray, List.getElem?_cons_succ, List.getElem?_cons_zero, Option.some.injEq] at hio
              subst hio
              have p8 := PRE.out ⟨8, .guard⟩ (by simp) rfl
              obtain rfl := E8.out p8
              refine wpOp_by rfl fun K HK => ?_
              go_wp2_with (fail)
              exact HK.out _ _ ⟨by rw [Array.size_setIfInBounds, HS.out], HB.out, _, _, _, _, _, _, _, _, _, _, _, _, _, _, rfl, fun h => E0.out ((listed_set h).resolve_left (by decide)), fun h => E1.out ((listed_set h).resolve_left (by decide)), fun h => E2.out ((listed_set h).resolve_left (by decide)), fun h => E3.out ((listed_set h).resolve_left (by decide)), fun h => E4.out ((listed_set h).resolve_left (by decide)), fun h => E5.out ((listed_set h).resolve_left (by decide)), fun h => E6.out ((listed_set h).resolve_left (by decide)), fun h => E7.out ((listed_set h).resolve_left (by decide)), fun _ => rfl, fun h => E9.out ((listed_set h).resolve_left (by decide)), fun _ => rfl, fun h => E11.out ((listed_set h).resolve_left (by decide)), fun h => E12.out ((listed_set h).resolve_left (by decide)), fun h => E13.out ((listed_set h).resolve_left (by decide))⟩
            | 11, hio =>
              simp only [List.getElem?_toArray, List.getElem?_cons_succ, List.getElem?_cons_zero, Option.some.injEq] at hio
              subst hio
              have p8 := PRE.out ⟨8, .guard⟩ (by simp) rfl
              obtain rfl := E8.out p8
              refine wpOp_by rfl fun K HK => ?_
              go_wp2_with (fail)
              exact HK.out _ _ ⟨by rw [Array.size_setIfInBounds, HS.out], HB.out, _, _, _, _, _, _, _, _, _, _, _, _, _, _, rfl, fun h => E0.out ((listed_set h).resolve_left (by decide)), fun h => E1.out ((listed_set h).resolve_left (by decide)), fun h => E2.out ((listed_set h).resolve_left (by decide)), fun h => E3.out ((listed_set h).resolve_left (by decide)), fun h => E4.out ((listed_set h).resolve_left (by decide)), fun h => E5.out ((listed_set h).resolve_left (by decide)), fun h => E6.out ((listed_set h).resolve_left (by decide)), fun h => E7.out ((listed_set h).resolve_left (by decide)), fun _ => rfl, fun h => E9.out ((listed_set h).resolve_left (by decide)), fun h => E10.out ((listed_set h).resolve_left (by decide)), fun _ => rfl, fun h => E12.out ((listed_set h).resolve_left (by decide)), fun h => E13.out ((listed_set h).resolve_left (by decide))⟩
            | 12, hio =>
              simp only [List.getElem?_toArray, List.getElem?_cons_succ, List.getElem?_cons_zero, Option.some.injEq] at hio
              subst hio
              have p8 := PRE.out ⟨8, .guard⟩ (by simp) rfl
              obtain rfl := E8.out p8
              refine wpOp_by rfl fun K HK => ?_
              go_wp2_with (fail)
              exact HK.out _ _ ⟨by rw [Array.size_setIfInBounds, HS.out], HB.out, _, _, _, _, _, _, _, _, _, _, _, _, _, _, rfl, fun h => E0.out ((listed_set h).resolve_left (by decide)), fun h => E1.out ((listed_set h).resolve_left (by decide)), fun h => E2.out ((listed_set h).resolve_left (by decide)), fun h => E3.out ((listed_set h).resolve_left (by decide)), fun h => E4.out ((listed_set h).resolve_left (by decide)), fun h => E5.out ((listed_set h).resolve_left (by decide)), fun h => E6.out ((listed_set h).resolve_left (by decide)), fun h => E7.out ((listed_set h).resolve_left (by decide)), fun _ => rfl, fun h => E9.out ((listed_set h).resolve_left (by decide)), fun h => E10.out ((listed_set h).resolve_left (by decide)), fun h => E11.out ((listed_set h).resolve_left (by decide)), fun _ => rfl, fun h => E13.out ((listed_set h).resolve_left (by decide))⟩
            | 13, hio =>
              simp only [List.getElem?_toArray, List.getElem?_cons_succ, List.getElem?_cons_zero, Option.some.injEq] at hio
              subst hio
              have p8 := PRE.out ⟨8, .data⟩ (by simp) rfl
              obtain rfl := E8.out p8
              refine wpOp_by rfl fun K HK => ?_
              go_wp2_with (fail)
              exact HK.out _ _ ⟨by rw [Array.size_setIfInBounds, HS.out], HB.out, _, _, _, _, _, _, _, _, _, _, _, _, _, _, rfl, fun h => E0.out ((listed_set h).resolve_left (by decide)), fun h => E1.out ((listed_set h).resolve_left (by decide)), fun h => E2.out ((listed_set h).resolve_left (by decide)), fun h => E3.out ((listed_set h).resolve_left (by decide)), fun h => E4.out ((listed_set h).resolve_left (by decide)), fun h => E5.out ((listed_set h).resolve_left (by decide)), fun h => E6.out ((listed_set h).resolve_left (by decide)), fun h => E7.out ((listed_set h).resolve_left (by decide)), fun _ => rfl, fun h => E9.out ((listed_set h).resolve_left (by decide)), fun h => E10.out ((listed_set h).resolve_left (by decide)), fun h => E11.out ((listed_set h).resolve_left (by decide)), fun h => E12.out ((listed_set h).resolve_left (by decide)), fun _ => rfl⟩
            | k + 14, hio => simp at hio
          case hend000 =>
            rintro listed act W1 ⟨hs, hB, x0, x1, x2, x3, x4, x5, x6, x7, x8, x9, x10, x11, x12, x13, rfl, e0, e1, e2, e3, e4, e5, e6, e7, e8, e9, e10, e11, e12, e13⟩ hall
            obtain rfl := e0 (hall 0 (by decide))
            obtain rfl := e1 (hall 1 (by decide))
            obtain rfl := e2 (hall 2 (by decide))
            obtain rfl := e3 (hall 3 (by decide))
            obtain rfl := e4 (hall 4 (by decide))
            obtain rfl := e5 (hall 5 (by decide))
            obtain rfl := e6 (hall 6 (by decide))
            obtain rfl := e7 (hall 7 (by decide))
            obtain rfl := e8 (hall 8 (by decide))
            obtain rfl := e9 (hall 9 (by decide))
            obtain rfl := e10 (hall 10 (by decide))
            obtain rfl := e11 (hall 11 (by decide))
            obtain rfl := e12 (hall 12 (by decide))
            obtain rfl := e13 (hall 13 (by decide))
            clear hs
            have BN : Hid (Below w4.heap.size w4 W1) := Lib.hid (B6.out.trans (hB.mono B6.out.size))
            clear hB hall CC
            go_wp2
            refine ⟨⟨k + 1, by omega, by omega, by go_num, BN, MS⟩, by simp [intOf]; omega⟩
      · have EA : Hid (aQ (k : Int) (splitL 32 T.data.toList) = (smallI (smN 9 q1.data.toList))) := Lib.hid (by unfold aQ; rw [hN]; rw [← L1'.out]; rfl)
        have EB : Hid (bQ (k : Int) (splitL 32 T.data.toList) = 0) := Lib.hid (by unfold bQ; rw [hN]; rfl)
        rw [hN] at NA
        clear hN
        obtain ⟨A, hA⟩ : ∃ x, (smallI (smN 9 q1.data.toList)) = x := ⟨_, rfl⟩
        rw [hA] at EA
        have S1 : Hid (∀ w, Calls Tryd.prog 34 #[.string q1] w fun e w' => e = .returned (.int .i64 A) ∧ w = w') := Lib.hid fun w => by rw [← hA]; exact l01Small9_any q1 w
        clear hA
        have d1 : w6.cell? ⟨wr.heap.size, 1, none⟩ = some (.int .i64 0) := Lib.cell_of_heap R6.out 1
        have f1 : w6.frozen? ⟨wr.heap.size, 1, none⟩ = false := Lib.frozen_of_heap R6.out 1
        have x1 := (CW.out w6 B6.out).2.1
        obtain ⟨w7, hw7⟩ : ∃ x, w6.setCell ⟨wr.heap.size, 1, none⟩ (.int .i64 A) = x := ⟨_, rfl⟩
        have R7 : Hid (w7.heap[wr.heap.size]? = some (.cells (D3 (k : Int) A 0) 25 (0, 0))) := Lib.hid (by rw [← hw7]; exact fset_at R6.out 1 _)
        have B7 : Hid (Below w4.heap.size w4 w7) := Lib.hid (by rw [← hw7]; exact B6.out.setCell (p := ⟨wr.heap.size, _, none⟩) HBW.out _)
        have DTX := Lib.hid (sDeedText_any (k : Int) A 0)
        obtain ⟨DV, hDV⟩ : ∃ x, dtT (k : Int) A 0 = x := ⟨_, rfl⟩
        rw [hDV] at DTX
        obtain ⟨WK, hWK⟩ : ∃ x, nmW k = x := ⟨_, rfl⟩
        have WE : Hid (WK = wdD (k : Int)) := Lib.hid (by rw [← hWK]; exact W9.out)
        have CC : Hid (∀ W, Below w7.heap.size w7 W → W.cell? ⟨g, 0, none⟩ = some (.string q0) ∧ W.cell? ⟨w3.heap.size, k, none⟩ = some (.string WK) ∧ W.heap[wr.heap.size]? = some (.cells (D3 (k : Int) A 0) 25 (0, 0)) ∧ W.heap[w.heap.size]? = some (.cells #[Value.int .i64 0, Value.int .i64 0, Value.int .i64 0] 25 (0, 0)) ∧ Below w.heap.size w W) := Lib.hid fun W hW => by
          have bb := B7.out.trans (hW.mono B7.out.size)
          have c := CW.out W bb
          exact ⟨c.1, by rw [c.2.2.2.1 k (by omega), hWK], far_row hW R7.out, c.2.2.2.2, B4.out.trans (bb.mono (Nat.le_of_lt SZ4.out.1))⟩
        clear hWK
        go_wp2_with (refine wpList_store_row rfl 25 _ _ rfl wr.heap.size (D3 (k : Int) 0 0) rfl rfl 25 _ T5.out (deed_info _ rfl) rfl (row3_oneD _ _ _) ?_; rw [hw6])
        refine (NA.out _).mono ?_
        rintro e w' ⟨rfl, rfl⟩
        go_wp2_with fail
        refine (S1.out _).mono ?_
        rintro e w' ⟨rfl, rfl⟩
        go_wp2_with fail
        refine (NA.out _).mono ?_
        rintro e w' ⟨rfl, rfl⟩
        go_wp2_with fail
        clear hw5 hw6 hw7 d1 f1 x1 T5 B5
        by_cases h0 : q0 = WK
        · have E1 : (q0.toList == WK.toList) = true := txt_same h0
          by_cases h1 : DV = T
          · have E3 : (DV.toList == T.toList) = true := txt_same h1
            have HT := Lib.hid (rd_hit (by omega) hR.out (sp_hit L0.out WE.out EA.out EB.out h0 (hDV.trans h1)))
            clear h0 h1
            refine wp_region_inv (by kernel_rfl) (fun listed act W => listed.size = 14 ∧ Below w7.heap.size w7 W ∧ ∃ x0 x1 x2 x3 x4 x5 x6 x7 x8 x9 x10 x11 x12 x13, act = { tmps := #[.string T, undef, .pointer (some ⟨w.heap.size, 0, none⟩), u3, .slice (some ⟨g, 0, none⟩) qn cap, .slice (some ⟨w3.heap.size, 0, none⟩) 10 10, .int .i64 (k : Int), .pointer (some ⟨wr.heap.size, 0, none⟩), .string T, .int .i64 (T.size : Int), .bool (decide ((40 : Int) < (T.size : Int))), undef, .string T, v, .slice (some ⟨w2.heap.size, 0, none⟩) 2 2, .slice (some ⟨g, 0, none⟩) qn cap, .slice (some ⟨w3.heap.size, 0, none⟩) 10 10, .int .i64 (k : Int), .bool true, u19, u20, .int .i64 (k : Int), .agg (D3 (k : Int) 0 0), .int .i64 (k : Int), .int .i64 1, .bool true, .slice (some ⟨g, 0, none⟩) qn cap, .pointer (some ⟨g, 1, none⟩), .string q1, .int .i64 A, .pointer (some ⟨wr.heap.size, 1, none⟩), .int .i64 (k : Int), .int .i64 1, .bool false, u34, u35, u36, u37, u38, x0, x1, x2, x3, x4, x5, x6, x7, x8, x9, x10, x11, x12, x13, u53, undef], defers := [] } ∧ (listed.getD 0 false = true → x0 = .slice (some ⟨g, 0, none⟩) qn cap) ∧ (listed.getD 1 false = true → x1 = .pointer (some ⟨g, 0, none⟩)) ∧ (listed.getD 2 false = true → x2 = .string q0) ∧ (listed.getD 3 false = true → x3 = .slice (some ⟨w3.heap.size, 0, none⟩) 10 10) ∧ (listed.getD 4 false = true → x4 = .int .i64 (k : Int)) ∧ (listed.getD 5 false = true → x5 = .pointer (some ⟨w3.heap.size, k, none⟩)) ∧ (listed.getD 6 false = true → x6 = .string WK) ∧ (listed.getD 7 false = true → x7 = .bool true) ∧ (listed.getD 8 false = true → x8 = .bool true) ∧ (listed.getD 9 false = true → x9 = .agg (D3 (k : Int) A 0)) ∧ (listed.getD 10 false = true → x10 = .string DV) ∧ (listed.getD 11 false = true → x11 = .string T) ∧ (listed.getD 12 false = true → x12 = .bool true) ∧ (listed.getD 13 false = true → x13 = .bool true)) (by kernel_rfl) ?h0111 (fun _ _ _ h => h.1) ?hstep111 ?hend111
            case h0111 =>
              refine ⟨rfl, (Below.refl _ _).drew, _, _, _, _, _, _, _, _, _, _, _, _, _, _, rfl, ?_, ?_, ?_, ?_, ?_, ?_, ?_, ?_, ?_, ?_, ?_, ?_, ?_, ?_⟩ <;> (intro h; exact absurd h (by decide))
            case hstep111 =>
              rintro listed act W i o ⟨hs, hB, x0, x1, x2, x3, x4, x5, x6, x7, x8, x9, x10, x11, x12, x13, rfl, e0, e1, e2, e3, e4, e5, e6, e7, e8, e9, e10, e11, e12, e13⟩ hun hio hpre
              have HB := Lib.hid hB
              have E0 := Lib.hid e0
              have E1 := Lib.hid e1
              have E2 := Lib.hid e2
              have E3 := Lib.hid e3
              have E4 := Lib.hid e4
              have E5 := Lib.hid e5
              have E6 := Lib.hid e6
              have E7 := Lib.hid e7
              have E8 := Lib.hid e8
              have E9 := Lib.hid e9
              have E10 := Lib.hid e10
              have E11 := Lib.hid e11
              have E12 := Lib.hid e12
              have E13 := Lib.hid e13
              have HS := Lib.hid hs
              have HU := Lib.hid hun
              have PRE := Lib.hid hpre
              clear e0 e1 e2 e3 e4 e5 e6 e7 e8 e9 e10 e11 e12 e13 hs hpre hB hun
              match i, hio with
              | 0, hio =>
                clear hio
                refine wpOp_by rfl fun K HK => ?_
                go_wp2_with (fail)
                exact HK.out _ _ ⟨by rw [Array.size_setIfInBounds, HS.out], HB.out, _, _, _, _, _, _, _, _, _, _, _, _, _, _, rfl, fun _ => rfl, fun h => E1.out ((listed_set h).resolve_left (by decide)), fun h => E2.out ((listed_set h).resolve_left (by decide)), fun h => E3.out ((listed_set h).resolve_left (by decide)), fun h => E4.out ((listed_set h).resolve_left (by decide)), fun h => E5.out ((listed_set h).resolve_left (by decide)), fun h => E6.out ((listed_set h).resolve_left (by decide)), fun h => E7.out ((listed_set h).resolve_left (by decide)), fun h => E8.out ((listed_set h).resolve_left (by decide)), fun h => E9.out ((listed_set h).resolve_left (by decide)), fun h => E10.out ((listed_set h).resolve_left (by decide)), fun h => E11.out ((listed_set h).resolve_left (by decide)), fun h => E12.out ((listed_set h).resolve_left (by decide)), fun h => E13.out ((listed_set h).resolve_left (by decide))⟩
              | 1, hio =>
                simp only [List.getElem?_toArray, List.getElem?_cons_succ, List.getElem?_cons_zero, Option.some.injEq] at hio
                subst hio
                have p0 := PRE.out ⟨0, .data⟩ (by simp) rfl
                obtain rfl := E0.out p0
                refine wpOp_by rfl fun K HK => ?_
                go_wp2_with (fail)
                exact HK.out _ _ ⟨by rw [Array.size_setIfInBounds, HS.out], HB.out, _, _, _, _, _, _, _, _, _, _, _, _, _, _, rfl, fun _ => rfl, fun _ => rfl, fun h => E2.out ((listed_set h).resolve_left (by decide)), fun h => E3.out ((listed_set h).resolve_left (by decide)), fun h => E4.out ((listed_set h).resolve_left (by decide)), fun h => E5.out ((listed_set h).resolve_left (by decide)), fun h => E6.out ((listed_set h).resolve_left (by decide)), fun h => E7.out ((listed_set h).resolve_left (by decide)), fun h => E8.out ((listed_set h).resolve_left (by decide)), fun h => E9.out ((listed_set h).resolve_left (by decide)), fun h => E10.out ((listed_set h).resolve_left (by decide)), fun h => E11.out ((listed_set h).resolve_left (by decide)), fun h => E12.out ((listed_set h).resolve_left (by decide)), fun h => E13.out ((listed_set h).resolve_left (by decide))⟩
              | 2, hio =>
                simp only [List.getElem?_toArray, List.getElem?_cons_succ, List.getElem?_cons_zero, Option.some.injEq] at hio
                subst hio
                have p1 := PRE.out ⟨1, .data⟩ (by simp) rfl
                obtain rfl := E1.out p1
                obtain ⟨z0, z1, z2, -, -⟩ := CC.out W HB.out
                refine wpOp_by rfl fun K HK => ?_
                go_wp2_with (fail)
                exact HK.out _ _ ⟨by rw [Array.size_setIfInBounds, HS.out], HB.out, _, _, _, _, _, _, _, _, _, _, _, _, _, _, rfl, fun h => E0.out ((listed_set h).resolve_left (by decide)), fun _ => rfl, fun _ => rfl, fun h => E3.out ((listed_set h).resolve_left (by decide)), fun h => E4.out ((listed_set h).resolve_left (by decide)), fun h => E5.out ((listed_set h).resolve_left (by decide)), fun h => E6.out ((listed_set h).resolve_left (by decide)), fun h => E7.out ((listed_set h).resolve_left (by decide)), fun h => E8.out ((listed_set h).resolve_left (by decide)), fun h => E9.out ((listed_set h).resolve_left (by decide)), fun h => E10.out ((listed_set h).resolve_left (by decide)), fun h => E11.out ((listed_set h).resolve_left (by decide)), fun h => E12.out ((listed_set h).resolve_left (by decide)), fun h => E13.out ((listed_set h).resolve_left (by decide))⟩
              | 3, hio =>
                clear hio
                refine wpOp_by rfl fun K HK => ?_
                go_wp2_with (fail)
                exact HK.out _ _ ⟨by rw [Array.size_setIfInBounds, HS.out], HB.out, _, _, _, _, _, _, _, _, _, _, _, _, _, _, rfl, fun h => E0.out ((listed_set h).resolve_left (by decide)), fun h => E1.out ((listed_set h).resolve_left (by decide)), fun h => E2.out ((listed_set h).resolve_left (by decide)), fun _ => rfl, fun h => E4.out ((listed_set h).resolve_left (by decide)), fun h => E5.out ((listed_set h).resolve_left (by decide)), fun h => E6.out ((listed_set h).resolve_left (by decide)), fun h => E7.out ((listed_set h).resolve_left (by decide)), fun h => E8.out ((listed_set h).resolve_left (by decide)), fun h => E9.out ((listed_set h).resolve_left (by decide)), fun h => E10.out ((listed_set h).resolve_left (by decide)), fun h => E11.out ((listed_set h).resolve_left (by decide)), fun h => E12.out ((listed_set h).resolve_left (by decide)), fun h => E13.out ((listed_set h).resolve_left (by decide))⟩
              | 4, hio =>
                clear hio
                refine wpOp_by rfl fun K HK => ?_
                go_wp2_with (fail)
                exact HK.out _ _ ⟨by rw [Array.size_setIfInBounds, HS.out], HB.out, _, _, _, _, _, _, _, _, _, _, _, _, _, _, rfl, fun h => E0.out ((listed_set h).resolve_left (by decide)), fun h => E1.out ((listed_set h).resolve_left (by decide)), fun h => E2.out ((listed_set h).resolve_left (by decide)), fun h => E3.out ((listed_set h).resolve_left (by decide)), fun _ => rfl, fun h => E5.out ((listed_set h).resolve_left (by decide)), fun h => E6.out ((listed_set h).resolve_left (by decide)), fun h => E7.out ((listed_set h).resolve_left (by decide)), fun h => E8.out ((listed_set h).resolve_left (by decide)), fun h => E9.out ((listed_set h).resolve_left (by decide)), fun h => E10.out ((listed_set h).resolve_left (by decide)), fun h => E11.out ((listed_set h).resolve_left (by decide)), fun h => E12.out ((listed_set h).resolve_left (by decide)), fun h => E13.out ((listed_set h).resolve_left (by decide))⟩
              | 5, hio =>
                simp only [List.getElem?_toArray, List.getElem?_cons_succ, List.getElem?_cons_zero, Option.some.injEq] at hio
                subst hio
                have p3 := PRE.out ⟨3, .data⟩ (by simp) rfl
                have p4 := PRE.out ⟨4, .data⟩ (by simp) rfl
                obtain rfl := E3.out p3
                obtain rfl := E4.out p4
                refine wpOp_by rfl fun K HK => ?_
                go_wp2_with (fail)
                exact HK.out _ _ ⟨by rw [Array.size_setIfInBounds, HS.out], HB.out, _, _, _, _, _, _, _, _, _, _, _, _, _, _, rfl, fun h => E0.out ((listed_set h).resolve_left (by decide)), fun h => E1.out ((listed_set h).resolve_left (by decide)), fun h => E2.out ((listed_set h).resolve_left (by decide)), fun _ => rfl, fun _ => rfl, fun _ => rfl, fun h => E6.out ((listed_set h).resolve_left (by decide)), fun h => E7.out ((listed_set h).resolve_left (by decide)), fun h => E8.out ((listed_set h).resolve_left (by decide)), fun h => E9.out ((listed_set h).resolve_left (by decide)), fun h => E10.out ((listed_set h).resolve_left (by decide)), fun h => E11.out ((listed_set h).resolve_left (by decide)), fun h => E12.out ((listed_set h).resolve_left (by decide)), fun h => E13.out ((listed_set h).resolve_left (by decide))⟩
              | 6, hio =>
                simp only [List.getElem?_toArray, List.getElem?_cons_succ, List.getElem?_cons_zero, Option.some.injEq] at hio
                subst hio
                have p5 := PRE.out ⟨5, .data⟩ (by simp) rfl
                obtain rfl := E5.out p5
                obtain ⟨z0, z1, z2, -, -⟩ := CC.out W HB.out
                refine wpOp_by rfl fun K HK => ?_
                go_wp2_with (fail)
                exact HK.out _ _ ⟨by rw [Array.size_setIfInBounds, HS.out], HB.out, _, _, _, _, _, _, _, _, _, _, _, _, _, _, rfl, fun h => E0.out ((listed_set h).resolve_left (by decide)), fun h => E1.out ((listed_set h).resolve_left (by decide)), fun h => E2.out ((listed_set h).resolve_left (by decide)), fun h => E3.out ((listed_set h).resolve_left (by decide)), fun h => E4.out ((listed_set h).resolve_left (by decide)), fun _ => rfl, fun _ => rfl, fun h => E7.out ((listed_set h).resolve_left (by decide)), fun h => E8.out ((listed_set h).resolve_left (by decide)), fun h => E9.out ((listed_set h).resolve_left (by decide)), fun h => E10.out ((listed_set h).resolve_left (by decide)), fun h => E11.out ((listed_set h).resolve_left (by decide)), fun h => E12.out ((listed_set h).resolve_left (by decide)), fun h => E13.out ((listed_set h).resolve_left (by decide))⟩
              | 7, hio =>
                simp only [List.getElem?_toArray, List.getElem?_cons_succ, List.getElem?_cons_zero, Option.some.injEq] at hio
                subst hio
                have p2 := PRE.out ⟨2, .data⟩ (by simp) rfl
                have p6 := PRE.out ⟨6, .data⟩ (by simp) rfl
                obtain rfl := E2.out p2
                obtain rfl := E6.out p6
                refine wpOp_by rfl fun K HK => ?_
                go_wp2_with (fail)
                exact HK.out _ _ ⟨by rw [Array.size_setIfInBounds, HS.out], HB.out, _, _, _, _, _, _, _, _, _, _, _, _, _, _, rfl, fun h => E0.out ((listed_set h).resolve_left (by decide)), fun h => E1.out ((listed_set h).resolve_left (by decide)), fun _ => rfl, fun h => E3.out ((listed_set h).resolve_left (by decide)), fun h => E4.out ((listed_set h).resolve_left (by decide)), fun h => E5.out ((listed_set h).resolve_left (by decide)), fun _ => rfl, fun _ => rfl, fun h => E8.out ((listed_set h).resolve_left (by decide)), fun h => E9.out ((listed_set h).resolve_left (by decide)), fun h => E10.out ((listed_set h).resolve_left (by decide)), fun h => E11.out ((listed_set h).resolve_left (by decide)), fun h => E12.out ((listed_set h).resolve_left (by decide)), fun h => E13.out ((listed_set h).resolve_left (by decide))⟩
              | 8, hio =>
                simp only [List.getElem?_toArray, List.getElem?_cons_succ, List.getElem?_cons_zero, Option.some.injEq] at hio
                subst hio
                have p7 := PRE.out ⟨7, .data⟩ (by simp) rfl
                obtain rfl := E7.out p7
                refine wpOp_by rfl fun K HK => ?_
                go_wp2_with (fail)
                exact HK.out _ _ ⟨by rw [Array.size_setIfInBounds, HS.out], HB.out, _, _, _, _, _, _, _, _, _, _, _, _, _, _, rfl, fun h => E0.out ((listed_set h).resolve_left (by decide)), fun h => E1.out ((listed_set h).resolve_left (by decide)), fun h => E2.out ((listed_set h).resolve_left (by decide)), fun h => E3.out ((listed_set h).resolve_left (by decide)), fun h => E4.out ((listed_set h).resolve_left (by decide)), fun h => E5.out ((listed_set h).resolve_left (by decide)), fun h => E6.out ((listed_set h).resolve_left (by decide)), fun _ => rfl, fun _ => rfl, fun h => E9.out ((listed_set h).resolve_left (by decide)), fun h => E10.out ((listed_set h).resolve_left (by decide)), fun h => E11.out ((listed_set h).resolve_left (by decide)), fun h => E12.out ((listed_set h).resolve_left (by decide)), fun h => E13.out ((listed_set h).resolve_left (by decide))⟩
              | 9, hio =>
                simp only [List.getElem?_toArray, List.getElem?_cons_succ, List.getElem?_cons_zero, Option.some.injEq] at hio
                subst hio
                have p8 := PRE.out ⟨8, .guard⟩ (by simp) rfl
                obtain rfl := E8.out p8
                obtain ⟨z0, z1, z2, -, -⟩ := CC.out W HB.out
                have DR := Lib.hid z2
                clear z0 z1 z2
                refine wpOp_by rfl fun K HK => ?_
                go_wp2_with (refine wpList_load_rowg rfl 25 _ rfl wr.heap.size rfl 25 _ _ _ DR.out Tryd.underlying25 rfl (deed_info _ rfl) ?_)
                exact HK.out _ _ ⟨by rw [Array.size_setIfInBounds, HS.out], HB.out, _, _, _, _, _, _, _, _, _, _, _, _, _, _, rfl, fun h => E0.out ((listed_set h).resolve_left (by decide)), fun h => E1.out ((listed_set h).resolve_left (by decide)), fun h => E2.out ((listed_set h).resolve_left (by decide)), fun h => E3.out ((listed_set h).resolve_left (by decide)), fun h => E4.out ((listed_set h).resolve_left (by decide)), fun h => E5.out ((listed_set h).resolve_left (by decide)), fun h => E6.out ((listed_set h).resolve_left (by decide)), fun h => E7.out ((listed_set h).resolve_left (by decide)), fun _ => rfl, fun _ => rfl, fun h => E10.out ((listed_set h).resolve_left (by decide)), fun h => E11.out ((listed_set h).resolve_left (by decide)), fun h => E12.out ((listed_set h).resolve_left (by decide)), fun h => E13.out ((listed_set h).resolve_left (by decide))⟩
              | 10, hio =>
                simp only [List.getElem?_toArray, List.getElem?_cons_succ, List.getElem?_cons_zero, Option.some.injEq] at hio
                subst hio
                have p9 := PRE.out ⟨9, .data⟩ (by simp) rfl
                have p8 := PRE.out ⟨8, .guard⟩ (by simp) rfl
                obtain rfl := E9.out p9
                obtain rfl := E8.out p8
                refine wpOp_by rfl fun K HK => ?_
                go_wp2_with fail
                refine Calls.mono (DTX.out _) ?_
                rintro e W' ⟨rfl, hb⟩
                have HBB := Lib.hid hb
                clear hb
                go_wp2
                exact HK.out _ _ ⟨by rw [Array.size_setIfInBounds, HS.out], HB.out.trans (HBB.out.mono HB.out.size), _, _, _, _, _, _, _, _, _, _, _, _, _, _, rfl, fun h => E0.out ((listed_set h).resolve_left (by decide)), fun h => E1.out ((listed_set h).resolve_left (by decide)), fun h => E2.out ((listed_set h).resolve_left (by decide)), fun h => E3.out ((listed_set h).resolve_left (by decide)), fun h => E4.out ((listed_set h).resolve_left (by decide)), fun h => E5.out ((listed_set h).resolve_left (by decide)), fun h => E6.out ((listed_set h).resolve_left (by decide)), fun h => E7.out ((listed_set h).resolve_left (by decide)), fun _ => rfl, fun _ => rfl, fun _ => rfl, fun h => E11.out ((listed_set h).resolve_left (by decide)), fun h => E12.out ((listed_set h).resolve_left (by decide)), fun h => E13.out ((listed_set h).resolve_left (by decide))⟩
              | 11, hio =>
                simp only [List.getElem?_toArray, List.getElem?_cons_succ, List.getElem?_cons_zero, Option.some.injEq] at hio
                subst hio
                have p8 := PRE.out ⟨8, .guard⟩ (by simp) rfl
                obtain rfl := E8.out p8
                refine wpOp_by rfl fun K HK => ?_
                go_wp2_with (fail)
                exact HK.out _ _ ⟨by rw [Array.size_setIfInBounds, HS.out], HB.out, _, _, _, _, _, _, _, _, _, _, _, _, _, _, rfl, fun h => E0.out ((listed_set h).resolve_left (by decide)), fun h => E1.out ((listed_set h).resolve_left (by decide)), fun h => E2.out ((listed_set h).resolve_left (by decide)), fun h => E3.out ((listed_set h).resolve_left (by decide)), fun h => E4.out ((listed_set h).resolve_left (by decide)), fun h => E5.out ((listed_set h).resolve_left (by decide)), fun h => E6.out ((listed_set h).resolve_left (by decide)), fun h => E7.out ((listed_set h).resolve_left (by decide)), fun _ => rfl, fun h => E9.out ((listed_set h).resolve_left (by decide)), fun h => E10.out ((listed_set h).resolve_left (by decide)), fun _ => rfl, fun h => E12.out ((listed_set h).resolve_left (by decide)), fun h => E13.out ((listed_set h).resolve_left (by decide))⟩
              | 12, hio =>
                simp only [List.getElem?_toArray, List.getElem?_cons_succ, List.getElem?_cons_zero, Option.some.injEq] at hio
                subst hio
                have p10 := PRE.out ⟨10, .data⟩ (by simp) rfl
                have p11 := PRE.out ⟨11, .data⟩ (by simp) rfl
                have p8 := PRE.out ⟨8, .guard⟩ (by simp) rfl
                obtain rfl := E10.out p10
                obtain rfl := E11.out p11
                obtain rfl := E8.out p8
                refine wpOp_by rfl fun K HK => ?_
                go_wp2_with (fail)
                exact HK.out _ _ ⟨by rw [Array.size_setIfInBounds, HS.out], HB.out, _, _, _, _, _, _, _, _, _, _, _, _, _, _, rfl, fun h => E0.out ((listed_set h).resolve_left (by decide)), fun h => E1.out ((listed_set h).resolve_left (by decide)), fun h => E2.out ((listed_set h).resolve_left (by decide)), fun h => E3.out ((listed_set h).resolve_left (by decide)), fun h => E4.out ((listed_set h).resolve_left (by decide)), fun h => E5.out ((listed_set h).resolve_left (by decide)), fun h => E6.out ((listed_set h).resolve_left (by decide)), fun h => E7.out ((listed_set h).resolve_left (by decide)), fun _ => rfl, fun h => E9.out ((listed_set h).resolve_left (by decide)), fun _ => rfl, fun _ => rfl, fun _ => rfl, fun h => E13.out ((listed_set h).resolve_left (by decide))⟩
              | 13, hio =>
                simp only [List.getElem?_toArray, List.getElem?_cons_succ, List.getElem?_cons_zero, Option.some.injEq] at hio
                subst hio
                have p8 := PRE.out ⟨8, .data⟩ (by simp) rfl
                have p12 := PRE.out ⟨12, .data⟩ (by simp) rfl
                obtain rfl := E8.out p8
                obtain rfl := E12.out p12
                refine wpOp_by rfl fun K HK => ?_
                go_wp2_with (fail)
                exact HK.out _ _ ⟨by rw [Array.size_setIfInBounds, HS.out], HB.out, _, _, _, _, _, _, _, _, _, _, _, _, _, _, rfl, fun h => E0.out ((listed_set h).resolve_left (by decide)), fun h => E1.out ((listed_set h).resolve_left (by decide)), fun h => E2.out ((listed_set h).resolve_left (by decide)), fun h => E3.out ((listed_set h).resolve_left (by decide)), fun h => E4.out ((listed_set h).resolve_left (by decide)), fun h => E5.out ((listed_set h).resolve_left (by decide)), fun h => E6.out ((listed_set h).resolve_left (by decide)), fun h => E7.out ((listed_set h).resolve_left (by decide)), fun _ => rfl, fun h => E9.out ((listed_set h).resolve_left (by decide)), fun h => E10.out ((listed_set h).resolve_left (by decide)), fun h => E11.out ((listed_set h).resolve_left (by decide)), fun _ => rfl, fun _ => rfl⟩
              | k + 14, hio => simp at hio
            case hend111 =>
              rintro listed act W1 ⟨hs, hB, x0, x1, x2, x3, x4, x5, x6, x7, x8, x9, x10, x11, x12, x13, rfl, e0, e1, e2, e3, e4, e5, e6, e7, e8, e9, e10, e11, e12, e13⟩ hall
              obtain rfl := e0 (hall 0 (by decide))
              obtain rfl := e1 (hall 1 (by decide))
              obtain rfl := e2 (hall 2 (by decide))
              obtain rfl := e3 (hall 3 (by decide))
              obtain rfl := e4 (hall 4 (by decide))
              obtain rfl := e5 (hall 5 (by decide))
              obtain rfl := e6 (hall 6 (by decide))
              obtain rfl := e7 (hall 7 (by decide))
              obtain rfl := e8 (hall 8 (by decide))
              obtain rfl := e9 (hall 9 (by decide))
              obtain rfl := e10 (hall 10 (by decide))
              obtain rfl := e11 (hall 11 (by decide))
              obtain rfl := e12 (hall 12 (by decide))
              obtain rfl := e13 (hall 13 (by decide))
              clear hs
              obtain ⟨-, -, z2, z3, z4⟩ := CC.out W1 hB
              have K1 := Lib.hid z2
              have K0 := Lib.hid z3
              have KB := Lib.hid z4
              clear z2 z3 z4 hB hall CC
              go_wp2_with (first | (refine wpList_load_row rfl 25 _ rfl wr.heap.size rfl 25 _ _ _ K1.out Tryd.underlying25 rfl (deed_info _ rfl) ?_) | (refine wpList_store_row rfl 25 _ _ rfl w.heap.size (D3 (k : Int) A 0) rfl rfl 25 _ K0.out (deed_info _ rfl) rfl (row3_oneD _ _ _) ?_))
              refine bodyPost_ret (v := .tuple #[.agg (D3 (k : Int) A 0), .int .i64 0]) ?_ rfl ⟨by rw [HT.out], ?_⟩
              · exact results_cell_tmp_rowF Tryd.results9 _ _ w.heap.size _ _ _ _ rfl (setRow_heap _ _ _ _ _ _ K0.out) Tryd.underlying25 rfl (deed_info _ rfl)
              · exact below_setRow KB.out (by omega) _
          · have E3 : (DV.toList == T.toList) = false := txt_other h1
            have MS := Lib.hid (rd_step (by omega) hR.out (sp_miss1 EA.out EB.out (fun e => h1 (hDV.symm.trans e))))
            clear h0 h1
            refine wp_region_inv (by kernel_rfl) (fun listed act W => listed.size = 14 ∧ Below w7.heap.size w7 W ∧ ∃ x0 x1 x2 x3 x4 x5 x6 x7 x8 x9 x10 x11 x12 x13, act = { tmps := #[.string T, undef, .pointer (some ⟨w.heap.size, 0, none⟩), u3, .slice (some ⟨g, 0, none⟩) qn cap, .slice (some ⟨w3.heap.size, 0, none⟩) 10 10, .int .i64 (k : Int), .pointer (some ⟨wr.heap.size, 0, none⟩), .string T, .int .i64 (T.size : Int), .bool (decide ((40 : Int) < (T.size : Int))), undef, .string T, v, .slice (some ⟨w2.heap.size, 0, none⟩) 2 2, .slice (some ⟨g, 0, none⟩) qn cap, .slice (some ⟨w3.heap.size, 0, none⟩) 10 10, .int .i64 (k : Int), .bool true, u19, u20, .int .i64 (k : Int), .agg (D3 (k : Int) 0 0), .int .i64 (k : Int), .int .i64 1, .bool true, .slice (some ⟨g, 0, none⟩) qn cap, .pointer (some ⟨g, 1, none⟩), .string q1, .int .i64 A, .pointer (some ⟨wr.heap.size, 1, none⟩), .int .i64 (k : Int), .int .i64 1, .bool false, u34, u35, u36, u37, u38, x0, x1, x2, x3, x4, x5, x6, x7, x8, x9, x10, x11, x12, x13, u53, undef], defers := [] } ∧ (listed.getD 0 false = true → x0 = .slice (some ⟨g, 0, none⟩) qn cap) ∧ (listed.getD 1 false = true → x1 = .pointer (some ⟨g, 0, none⟩)) ∧ (listed.getD 2 false = true → x2 = .string q0) ∧ (listed.getD 3 false = true → x3 = .slice (some ⟨w3.heap.size, 0, none⟩) 10 10) ∧ (listed.getD 4 false = true → x4 = .int .i64 (k : Int)) ∧ (listed.getD 5 false = true → x5 = .pointer (some ⟨w3.heap.size, k, none⟩)) ∧ (listed.getD 6 false = true → x6 = .string WK) ∧ (listed.getD 7 false = true → x7 = .bool true) ∧ (listed.getD 8 false = true → x8 = .bool true) ∧ (listed.getD 9 false = true → x9 = .agg (D3 (k : Int) A 0)) ∧ (listed.getD 10 false = true → x10 = .string DV) ∧ (listed.getD 11 false = true → x11 = .string T) ∧ (listed.getD 12 false = true → x12 = .bool false) ∧ (listed.getD 13 false = true → x13 = .bool false)) (by kernel_rfl) ?h0110 (fun _ _ _ h => h.1) ?hstep110 ?hend110
            case h0110 =>
              refine ⟨rfl, (Below.refl _ _).drew, _, _, _, _, _, _, _, _, _, _, _, _, _, _, rfl, ?_, ?_, ?_, ?_, ?_, ?_, ?_, ?_, ?_, ?_, ?_, ?_, ?_, ?_⟩ <;> (intro h; exact absurd h (by decide))
            case hstep110 =>
              rintro listed act W i o ⟨hs, hB, x0, x1, x2, x3, x4, x5, x6, x7, x8, x9, x10, x11, x12, x13, rfl, e0, e1, e2, e3, e4, e5, e6, e7, e8, e9, e10, e11, e12, e13⟩ hun hio hpre
              have HB := Lib.hid hB
              have E0 := Lib.hid e0
              have E1 := Lib.hid e1
              have E2 := Lib.hid e2
              have E3 := Lib.hid e3
              have E4 := Lib.hid e4
              have E5 := Lib.hid e5
              have E6 := Lib.hid e6
              have E7 := Lib.hid e7
              have E8 := Lib.hid e8
              have E9 := Lib.hid e9
              have E10 := Lib.hid e10
              have E11 := Lib.hid e11
              have E12 := Lib.hid e12
              have E13 := Lib.hid e13
              have HS := Lib.hid hs
              have HU := Lib.hid hun
              have PRE := Lib.hid hpre
              clear e0 e1 e2 e3 e4 e5 e6 e7 e8 e9 e10 e11 e12 e13 hs hpre hB hun
              match i, hio with
              | 0, hio =>
                clear hio
                refine wpOp_by rfl fun K HK => ?_
                go_wp2_with (fail)
                exact HK.out _ _ ⟨by rw [Array.size_setIfInBounds, HS.out], HB.out, _, _, _, _, _, _, _, _, _, _, _, _, _, _, rfl, fun _ => rfl, fun h => E1.out ((listed_set h).resolve_left (by decide)), fun h => E2.out ((listed_set h).resolve_left (by decide)), fun h => E3.out ((listed_set h).resolve_left (by decide)), fun h => E4.out ((listed_set h).resolve_left (by decide)), fun h => E5.out ((listed_set h).resolve_left (by decide)), fun h => E6.out ((listed_set h).resolve_left (by decide)), fun h => E7.out ((listed_set h).resolve_left (by decide)), fun h => E8.out ((listed_set h).resolve_left (by decide)), fun h => E9.out ((listed_set h).resolve_left (by decide)), fun h => E10.out ((listed_set h).resolve_left (by decide)), fun h => E11.out ((listed_set h).resolve_left (by decide)), fun h => E12.out ((listed_set h).resolve_left (by decide)), fun h => E13.out ((listed_set h).resolve_left (by decide))⟩
              | 1, hio =>
                simp only [List.getElem?_toArray, List.getElem?_cons_succ, List.getElem?_cons_zero, Option.some.injEq] at hio
                subst hio
                have p0 := PRE.out ⟨0, .data⟩ (by simp) rfl
                obtain rfl := E0.out p0
                refine wpOp_by rfl fun K HK => ?_
                go_wp2_with (fail)
                exact HK.out _ _ ⟨by rw [Array.size_setIfInBounds, HS.out], HB.out, _, _, _, _, _, _, _, _, _, _, _, _, _, _, rfl, fun _ => rfl, fun _ => rfl, fun h => E2.out ((listed_set h).resolve_left (by decide)), fun h => E3.out ((listed_set h).resolve_left (by decide)), fun h => E4.out ((listed_set h).resolve_left (by decide)), fun h => E5.out ((listed_set h).resolve_left (by decide)), fun h => E6.out ((listed_set h).resolve_left (by decide)), fun h => E7.out ((listed_set h).resolve_left (by decide)), fun h => E8.out ((listed_set h).resolve_left (by decide)), fun h => E9.out ((listed_set h).resolve_left (by decide)), fun h => E10.out ((listed_set h).resolve_left (by decide)), fun h => E11.out ((listed_set h).resolve_left (by decide)), fun h => E12.out ((listed_set h).resolve_left (by decide)), fun h => E13.out ((listed_set h).resolve_left (by decide))⟩
              | 2, hio =>
                simp only [List.getElem?_toArray, List.getElem?_cons_succ, List.getElem?_cons_zero, Option.some.injEq] at hio
                subst hio
                have p1 := PRE.out ⟨1, .data⟩ (by simp) rfl
                obtain rfl := E1.out p1
                obtain ⟨z0, z1, z2, -, -⟩ := CC.out W HB.out
                refine wpOp_by rfl fun K HK => ?_
                go_wp2_with (fail)
                exact HK.out _ _ ⟨by rw [Array.size_setIfInBounds, HS.out], HB.out, _, _, _, _, _, _, _, _, _, _, _, _, _, _, rfl, fun h => E0.out ((listed_set h).resolve_left (by decide)), fun _ => rfl, fun _ => rfl, fun h => E3.out ((listed_set h).resolve_left (by decide)), fun h => E4.out ((listed_set h).resolve_left (by decide)), fun h => E5.out ((listed_set h).resolve_left (by decide)), fun h => E6.out ((listed_set h).resolve_left (by decide)), fun h => E7.out ((listed_set h).resolve_left (by decide)), fun h => E8.out ((listed_set h).resolve_left (by decide)), fun h => E9.out ((listed_set h).resolve_left (by decide)), fun h => E10.out ((listed_set h).resolve_left (by decide)), fun h => E11.out ((listed_set h).resolve_left (by decide)), fun h => E12.out ((listed_set h).resolve_left (by decide)), fun h => E13.out ((listed_set h).resolve_left (by decide))⟩
              | 3, hio =>
                clear hio
                refine wpOp_by rfl fun K HK => ?_
                go_wp2_with (fail)
                exact HK.out _ _ ⟨by rw [Array.size_setIfInBounds, HS.out], HB.out, _, _, _, _, _, _, _, _, _, _, _, _, _, _, rfl, fun h => E0.out ((listed_set h).resolve_left (by decide)), fun h => E1.out ((listed_set h).resolve_left (by decide)), fun h => E2.out ((listed_set h).resolve_left (by decide)), fun _ => rfl, fun h => E4.out ((listed_set h).resolve_left (by decide)), fun h => E5.out ((listed_set h).resolve_left (by decide)), fun h => E6.out ((listed_set h).resolve_left (by decide)), fun h => E7.out ((listed_set h).resolve_left (by decide)), fun h => E8.out ((listed_set h).resolve_left (by decide)), fun h => E9.out ((listed_set h).resolve_left (by decide)), fun h => E10.out ((listed_set h).resolve_left (by decide)), fun h => E11.out ((listed_set h).resolve_left (by decide)), fun h => E12.out ((listed_set h).resolve_left (by decide)), fun h => E13.out ((listed_set h).resolve_left (by decide))⟩
              | 4, hio =>
                clear hio
                refine wpOp_by rfl fun K HK => ?_
                go_wp2_with (fail)
                exact HK.out _ _ ⟨by rw [Array.size_setIfInBounds, HS.out], HB.out, _, _, _, _, _, _, _, _, _, _, _, _, _, _, rfl, fun h => E0.out ((listed_set h).resolve_left (by decide)), fun h => E1.out ((listed_set h).resolve_left (by decide)), fun h => E2.out ((listed_set h).resolve_left (by decide)), fun h => E3.out ((listed_set h).resolve_left (by decide)), fun _ => rfl, fun h => E5.out ((listed_set h).resolve_left (by decide)), fun h => E6.out ((listed_set h).resolve_left (by decide)), fun h => E7.out ((listed_set h).resolve_left (by decide)), fun h => E8.out ((listed_set h).resolve_left (by decide)), fun h => E9.out ((listed_set h).resolve_left (by decide)), fun h => E10.out ((listed_set h).resolve_left (by decide)), fun h => E11.out ((listed_set h).resolve_left (by decide)), fun h => E12.out ((listed_set h).resolve_left (by decide)), fun h => E13.out ((listed_set h).resolve_left (by decide))⟩
              | 5, hio =>
                simp only [List.getElem?_toArray, List.getElem?_cons_succ, List.getElem?_cons_zero, Option.some.injEq] at hio
                subst hio
                have p3 := PRE.out ⟨3, .data⟩ (by simp) rfl
                have p4 := PRE.out ⟨4, .data⟩ (by simp) rfl
                obtain rfl := E3.out p3
                obtain rfl := E4.out p4
                refine wpOp_by rfl fun K HK => ?_
                go_wp2_with (fail)
                exact HK.out _ _ ⟨by rw [Array.size_setIfInBounds, HS.out], HB.out, _, _, _, _, _, _, _, _, _, _, _, _, _, _, rfl, fun h => E0.out ((listed_set h).resolve_left (by decide)), fun h => E1.out ((listed_set h).resolve_left (by decide)), fun h => E2.out ((listed_set h).resolve_left (by decide)), fun _ => rfl, fun _ => rfl, fun _ => rfl, fun h => E6.out ((listed_set h).resolve_left (by decide)), fun h => E7.out ((listed_set h).resolve_left (by decide)), fun h => E8.out ((listed_set h).resolve_left (by decide)), fun h => E9.out ((listed_set h).resolve_left (by decide)), fun h => E10.out ((listed_set h).resolve_left (by decide)), fun h => E11.out ((listed_set h).resolve_left (by decide)), fun h => E12.out ((listed_set h).resolve_left (by decide)), fun h => E13.out ((listed_set h).resolve_left (by decide))⟩
              | 6, hio =>
                simp only [List.getElem?_toArray, List.getElem?_cons_succ, List.getElem?_cons_zero, Option.some.injEq] at hio
                subst hio
                have p5 := PRE.out ⟨5, .data⟩ (by simp) rfl
                obtain rfl := E5.out p5
                obtain ⟨z0, z1, z2, -, -⟩ := CC.out W HB.out
                refine wpOp_by rfl fun K HK => ?_
                go_wp2_with (fail)
                exact HK.out _ _ ⟨by rw [Array.size_setIfInBounds, HS.out], HB.out, _, _, _, _, _, _, _, _, _, _, _, _, _, _, rfl, fun h => E0.out ((listed_set h).resolve_left (by decide)), fun h => E1.out ((listed_set h).resolve_left (by decide)), fun h => E2.out ((listed_set h).resolve_left (by decide)), fun h => E3.out ((listed_set h).resolve_left (by decide)), fun h => E4.out ((listed_set h).resolve_left (by decide)), fun _ => rfl, fun _ => rfl, fun h => E7.out ((listed_set h).resolve_left (by decide)), fun h => E8.out ((listed_set h).resolve_left (by decide)), fun h => E9.out ((listed_set h).resolve_left (by decide)), fun h => E10.out ((listed_set h).resolve_left (by decide)), fun h => E11.out ((listed_set h).resolve_left (by decide)), fun h => E12.out ((listed_set h).resolve_left (by decide)), fun h => E13.out ((listed_set h).resolve_left (by decide))⟩
              | 7, hio =>
                simp only [List.getElem?_toArray, List.getElem?_cons_succ, List.getElem?_cons_zero, Option.some.injEq] at hio
                subst hio
                have p2 := PRE.out ⟨2, .data⟩ (by simp) rfl
                have p6 := PRE.out ⟨6, .data⟩ (by simp) rfl
                obtain rfl := E2.out p2
                obtain rfl := E6.out p6
                refine wpOp_by rfl fun K HK => ?_
                go_wp2_with (fail)
                exact HK.out _ _ ⟨by rw [Array.size_setIfInBounds, HS.out], HB.out, _, _, _, _, _, _, _, _, _, _, _, _, _, _, rfl, fun h => E0.out ((listed_set h).resolve_left (by decide)), fun h => E1.out ((listed_set h).resolve_left (by decide)), fun _ => rfl, fun h => E3.out ((listed_set h).resolve_left (by decide)), fun h => E4.out ((listed_set h).resolve_left (by decide)), fun h => E5.out ((listed_set h).resolve_left (by decide)), fun _ => rfl, fun _ => rfl, fun h => E8.out ((listed_set h).resolve_left (by decide)), fun h => E9.out ((listed_set h).resolve_left (by decide)), fun h => E10.out ((listed_set h).resolve_left (by decide)), fun h => E11.out ((listed_set h).resolve_left (by decide)), fun h => E12.out ((listed_set h).resolve_left (by decide)), fun h => E13.out ((listed_set h).resolve_left (by decide))⟩
              | 8, hio =>
                simp only [List.getElem?_toArray, List.getElem?_cons_succ, List.getElem?_cons_zero, Option.some.injEq] at hio
                subst hio
                have p7 := PRE.out ⟨7, .data⟩ (by simp) rfl
                obtain rfl := E7.out p7
                refine wpOp_by rfl fun K HK => ?_
                go_wp2_with (fail)
                exact HK.out _ _ ⟨by rw [Array.size_setIfInBounds, HS.out], HB.out, _, _, _, _, _, _, _, _, _, _, _, _, _, _, rfl, fun h => E0.out ((listed_set h).resolve_left (by decide)), fun h => E1.out ((listed_set h).resolve_left (by decide)), fun h => E2.out ((listed_set h).resolve_left (by decide)), fun h => E3.out ((listed_set h).resolve_left (by decide)), fun h => E4.out ((listed_set h).resolve_left (by decide)), fun h => E5.out ((listed_set h).resolve_left (by decide)), fun h => E6.out ((listed_set h).resolve_left (by decide)), fun _ => rfl, fun _ => rfl, fun h => E9.out ((listed_set h).resolve_left (by decide)), fun h => E10.out ((listed_set h).resolve_left (by decide)), fun h => E11.out ((listed_set h).resolve_left (by decide)), fun h => E12.out ((listed_set h).resolve_left (by decide)), fun h => E13.out ((listed_set h).resolve_left (by decide))⟩
              | 9, hio =>
                simp only [List.getElem?_toArray, List.getElem?_cons_succ, List.getElem?_cons_zero, Option.some.injEq] at hio
                subst hio
                have p8 := PRE.out ⟨8, .guard⟩ (by simp) rfl
                obtain rfl := E8.out p8
                obtain ⟨z0, z1, z2, -, -⟩ := CC.out W HB.out
                have DR := Lib.hid z2
                clear z0 z1 z2
                refine wpOp_by rfl fun K HK => ?_
                go_wp2_with (refine wpList_load_rowg rfl 25 _ rfl wr.heap.size rfl 25 _ _ _ DR.out Tryd.underlying25 rfl (deed_info _ rfl) ?_)
                exact HK.out _ _ ⟨by rw [Array.size_setIfInBounds, HS.out], HB.out, _, _, _, _, _, _, _, _, _, _, _, _, _, _, rfl, fun h => E0.out ((listed_set h).resolve_left (by decide)), fun h => E1.out ((listed_set h).resolve_left (by decide)), fun h => E2.out ((listed_set h).resolve_left (by decide)), fun h => E3.out ((listed_set h).resolve_left (by decide)), fun h => E4.out ((listed_set h).resolve_left (by decide)), fun h => E5.out ((listed_set h).resolve_left (by decide)), fun h => E6.out ((listed_set h).resolve_left (by decide)), fun h => E7.out ((listed_set h).resolve_left (by decide)), fun _ => rfl, fun _ => rfl, fun h => E10.out ((listed_set h).resolve_left (by decide)), fun h => E11.out ((listed_set h).resolve_left (by decide)), fun h => E12.out ((listed_set h).resolve_left (by decide)), fun h => E13.out ((listed_set h).resolve_left (by decide))⟩
              | 10, hio =>
                simp only [List.getElem?_toArray, List.getElem?_cons_succ, List.getElem?_cons_zero, Option.some.injEq] at hio
                subst hio
                have p9 := PRE.out ⟨9, .data⟩ (by simp) rfl
                have p8 := PRE.out ⟨8, .guard⟩ (by simp) rfl
                obtain rfl := E9.out p9
                obtain rfl := E8.out p8
                refine wpOp_by rfl fun K HK => ?_
                go_wp2_with fail
                refine Calls.mono (DTX.out _) ?_
                rintro e W' ⟨rfl, hb⟩
                have HBB := Lib.hid hb
                clear hb
                go_wp2
                exact HK.out _ _ ⟨by rw [Array.size_setIfInBounds, HS.out], HB.out.trans (HBB.out.mono HB.out.size), _, _, _, _, _, _, _, _, _, _, _, _, _, _, rfl, fun h => E0.out ((listed_set h).resolve_left (by decide)), fun h => E1.out ((listed_set h).resolve_left (by decide)), fun h => E2.out ((listed_set h).resolve_left (by decide)), fun h => E3.out ((listed_set h).resolve_left (by decide)), fun h => E4.out ((listed_set h).resolve_left (by decide)), fun h => E5.out ((listed_set h).resolve_left (by decide)), fun h => E6.out ((listed_set h).resolve_left (by decide)), fun h => E7.out ((listed_set h).resolve_left (by decide)), fun _ => rfl, fun _ => rfl, fun _ => rfl, fun h => E11.out ((listed_set h).resolve_left (by decide)), fun h => E12.out ((listed_set h).resolve_left (by decide)), fun h => E13.out ((listed_set h).resolve_left (by decide))⟩
              | 11, hio =>
                simp only [List.getElem?_toArray, List.getElem?_cons_succ, List.getElem?_cons_zero, Option.some.injEq] at hio
                subst hio
                have p8 := PRE.out ⟨8, .guard⟩ (by simp) rfl
                obtain rfl := E8.out p8
                refine wpOp_by rfl fun K HK => ?_
                go_wp2_with (fail)
                exact HK.out _ _ ⟨by rw [Array.size_setIfInBounds, HS.out], HB.out, _, _, _, _, _, _, _, _, _, _, _, _, _, _, rfl, fun h => E0.out ((listed_set h).resolve_left (by decide)), fun h => E1.out ((listed_set h).resolve_left (by decide)), fun h => E2.out ((listed_set h).resolve_left (by decide)), fun h => E3.out ((listed_set h).resolve_left (by decide)), fun h => E4.out ((listed_set h).resolve_left (by decide)), fun h => E5.out ((listed_set h).resolve_left (by decide)), fun h => E6.out ((listed_set h).resolve_left (by decide)), fun h => E7.out ((listed_set h).resolve_left (by decide)), fun _ => rfl, fun h => E9.out ((listed_set h).resolve_left (by decide)), fun h => E10.out ((listed_set h).resolve_left (by decide)), fun _ => rfl, fun h => E12.out ((listed_set h).resolve_left (by decide)), fun h => E13.out ((listed_set h).resolve_left (by decide))⟩
              | 12, hio =>
                simp only [List.getElem?_toArray, List.getElem?_cons_succ, List.getElem?_cons_zero, Option.some.injEq] at hio
                subst hio
                have p10 := PRE.out ⟨10, .data⟩ (by simp) rfl
                have p11 := PRE.out ⟨11, .data⟩ (by simp) rfl
                have p8 := PRE.out ⟨8, .guard⟩ (by simp) rfl
                obtain rfl := E10.out p10
                obtain rfl := E11.out p11
                obtain rfl := E8.out p8
                refine wpOp_by rfl fun K HK => ?_
                go_wp2_with (fail)
                exact HK.out _ _ ⟨by rw [Array.size_setIfInBounds, HS.out], HB.out, _, _, _, _, _, _, _, _, _, _, _, _, _, _, rfl, fun h => E0.out ((listed_set h).resolve_left (by decide)), fun h => E1.out ((listed_set h).resolve_left (by decide)), fun h => E2.out ((listed_set h).resolve_left (by decide)), fun h => E3.out ((listed_set h).resolve_left (by decide)), fun h => E4.out ((listed_set h).resolve_left (by decide)), fun h => E5.out ((listed_set h).resolve_left (by decide)), fun h => E6.out ((listed_set h).resolve_left (by decide)), fun h => E7.out ((listed_set h).resolve_left (by decide)), fun _ => rfl, fun h => E9.out ((listed_set h).resolve_left (by decide)), fun _ => rfl, fun _ => rfl, fun _ => rfl, fun h => E13.out ((listed_set h).resolve_left (by decide))⟩
              | 13, hio =>
                simp only [List.getElem?_toArray, List.getElem?_cons_succ, List.getElem?_cons_zero, Option.some.injEq] at hio
                subst hio
                have p8 := PRE.out ⟨8, .data⟩ (by simp) rfl
                have p12 := PRE.out ⟨12, .data⟩ (by simp) rfl
                obtain rfl := E8.out p8
                obtain rfl := E12.out p12
                refine wpOp_by rfl fun K HK => ?_
                go_wp2_with (fail)
                exact HK.out _ _ ⟨by rw [Array.size_setIfInBounds, HS.out], HB.out, _, _, _, _, _, _, _, _, _, _, _, _, _, _, rfl, fun h => E0.out ((listed_set h).resolve_left (by decide)), fun h => E1.out ((listed_set h).resolve_left (by decide)), fun h => E2.out ((listed_set h).resolve_left (by decide)), fun h => E3.out ((listed_set h).resolve_left (by decide)), fun h => E4.out ((listed_set h).resolve_left (by decide)), fun h => E5.out ((listed_set h).resolve_left (by decide)), fun h => E6.out ((listed_set h).resolve_left (by decide)), fun h => E7.out ((listed_set h).resolve_left (by decide)), fun _ => rfl, fun h => E9.out ((listed_set h).resolve_left (by decide)), fun h => E10.out ((listed_set h).resolve_left (by decide)), fun h => E11.out ((listed_set h).resolve_left (by decide)), fun _ => rfl, fun _ => rfl⟩
              | k + 14, hio => simp at hio
            case hend110 =>
              rintro listed act W1 ⟨hs, hB, x0, x1, x2, x3, x4, x5, x6, x7, x8, x9, x10, x11, x12, x13, rfl, e0, e1, e2, e3, e4, e5, e6, e7, e8, e9, e10, e11, e12, e13⟩ hall
              obtain rfl := e0 (hall 0 (by decide))
              obtain rfl := e1 (hall 1 (by decide))
              obtain rfl := e2 (hall 2 (by decide))
              obtain rfl := e3 (hall 3 (by decide))
              obtain rfl := e4 (hall 4 (by decide))
              obtain rfl := e5 (hall 5 (by decide))
              obtain rfl := e6 (hall 6 (by decide))
              obtain rfl := e7 (hall 7 (by decide))
              obtain rfl := e8 (hall 8 (by decide))
              obtain rfl := e9 (hall 9 (by decide))
              obtain rfl := e10 (hall 10 (by decide))
              obtain rfl := e11 (hall 11 (by decide))
              obtain rfl := e12 (hall 12 (by decide))
              obtain rfl := e13 (hall 13 (by decide))
              clear hs
              have BN : Hid (Below w4.heap.size w4 W1) := Lib.hid (B7.out.trans (hB.mono B7.out.size))
              clear hB hall CC
              go_wp2
              refine ⟨⟨k + 1, by omega, by omega, by go_num, BN, MS⟩, by simp [intOf]; omega⟩
        · have E1 : (q0.toList == WK.toList) = false := txt_other h0
          have MS := Lib.hid (rd_step (by omega) hR.out (sp_miss0 L0.out WE.out h0))
          clear h0
          refine wp_region_inv (by kernel_rfl) (fun listed act W => listed.size = 14 ∧ Below w7.heap.size w7 W ∧ ∃ x0 x1 x2 x3 x4 x5 x6 x7 x8 x9 x10 x11 x12 x13, act = { tmps := #[.string T, undef, .pointer (some ⟨w.heap.size, 0, none⟩), u3, .slice (some ⟨g, 0, none⟩) qn cap, .slice (some ⟨w3.heap.size, 0, none⟩) 10 10, .int .i64 (k : Int), .pointer (some ⟨wr.heap.size, 0, none⟩), .string T, .int .i64 (T.size : Int), .bool (decide ((40 : Int) < (T.size : Int))), undef, .string T, v, .slice (some ⟨w2.heap.size, 0, none⟩) 2 2, .slice (some ⟨g, 0, none⟩) qn cap, .slice (some ⟨w3.heap.size, 0, none⟩) 10 10, .int .i64 (k : Int), .bool true, u19, u20, .int .i64 (k : Int), .agg (D3 (k : Int) 0 0), .int .i64 (k : Int), .int .i64 1, .bool true, .slice (some ⟨g, 0, none⟩) qn cap, .pointer (some ⟨g, 1, none⟩), .string q1, .int .i64 A, .pointer (some ⟨wr.heap.size, 1, none⟩), .int .i64 (k : Int), .int .i64 1, .bool false, u34, u35, u36, u37, u38, x0, x1, x2, x3, x4, x5, x6, x7, x8, x9, x10, x11, x12, x13, u53, undef], defers := [] } ∧ (listed.getD 0 false = true → x0 = .slice (some ⟨g, 0, none⟩) qn cap) ∧ (listed.getD 1 false = true → x1 = .pointer (some ⟨g, 0, none⟩)) ∧ (listed.getD 2 false = true → x2 = .string q0) ∧ (listed.getD 3 false = true → x3 = .slice (some ⟨w3.heap.size, 0, none⟩) 10 10) ∧ (listed.getD 4 false = true → x4 = .int .i64 (k : Int)) ∧ (listed.getD 5 false = true → x5 = .pointer (some ⟨w3.heap.size, k, none⟩)) ∧ (listed.getD 6 false = true → x6 = .string WK) ∧ (listed.getD 7 false = true → x7 = .bool false) ∧ (listed.getD 8 false = true → x8 = .bool false) ∧ (listed.getD 9 false = true → x9 = undef) ∧ (listed.getD 10 false = true → x10 = undef) ∧ (listed.getD 11 false = true → x11 = undef) ∧ (listed.getD 12 false = true → x12 = undef) ∧ (listed.getD 13 false = true → x13 = .bool false)) (by kernel_rfl) ?h0100 (fun _ _ _ h => h.1) ?hstep100 ?hend100
          case h0100 =>
            refine ⟨rfl, (Below.refl _ _).drew, _, _, _, _, _, _, _, _, _, _, _, _, _, _, rfl, ?_, ?_, ?_, ?_, ?_, ?_, ?_, ?_, ?_, ?_, ?_, ?_, ?_, ?_⟩ <;> (intro h; exact absurd h (by decide))
          case hstep100 =>
            rintro listed act W i o ⟨hs, hB, x0, x1, x2, x3, x4, x5, x6, x7, x8, x9, x10, x11, x12, x13, rfl, e0, e1, e2, e3, e4, e5, e6, e7, e8, e9, e10, e11, e12, e13⟩ hun hio hpre
            have HB := Lib.hid hB
            have E0 := Lib.hid e0
            have E1 := Lib.hid e1
            have E2 := Lib.hid e2
            have E3 := Lib.hid e3
            have E4 := Lib.hid e4
            have E5 := Lib.hid e5
            have E6 := Lib.hid e6
            have E7 := Lib.hid e7
            have E8 := Lib.hid e8
            have E9 := Lib.hid e9
            have E10 := Lib.hid e10
            have E11 := Lib.hid e11
            have E12 := Lib.hid e12
            have E13 := Lib.hid e13
            have HS := Lib.hid hs
            have HU := Lib.hid hun
            have PRE := Lib.hid hpre
            clear e0 e1 e2 e3 e4 e5 e6 e7 e8 e9 e10 e11 e12 e13 hs hpre hB hun
            match i, hio with
            | 0, hio =>
              clear hio
              refine wpOp_by rfl fun K HK => ?_
              go_wp2_with (fail)
              exact HK.out _ _ ⟨by rw [Array.size_setIfInBounds, HS.out], HB.out, _, _, _, _, _, _, _, _, _, _, _, _, _, _, rfl, fun _ => rfl, fun h => E1.out ((listed_set h).resolve_left (by decide)), fun h => E2.out ((listed_set h).resolve_left (by decide)), fun h => E3.out ((listed_set h).resolve_left (by decide)), fun h => E4.out ((listed_set h).resolve_left (by decide)), fun h => E5.out ((listed_set h).resolve_left (by decide)), fun h => E6.out ((listed_set h).resolve_left (by decide)), fun h => E7.out ((listed_set h).resolve_left (by decide)), fun h => E8.out ((listed_set h).resolve_left (by decide)), fun h => E9.out ((listed_set h).resolve_left (by decide)), fun h => E10.out ((listed_set h).resolve_left (by decide)), fun h => E11.out ((listed_set h).resolve_left (by decide)), fun h => E12.out ((listed_set h).resolve_left (by decide)), fun h => E13.out ((listed_set h).resolve_left (by decide))⟩
            | 1, hio =>
              simp only [List.getElem?_toArray, List.getElem?_cons_succ, List.getElem?_cons_zero, Option.some.injEq] at hio
              subst hio
              have p0 := PRE.out ⟨0, .data⟩ (by simp) rfl
              obtain rfl := E0.out p0
              refine wpOp_by rfl fun K HK => ?_
              go_wp2_with (fail)
              exact HK.out _ _ ⟨by rw [Array.size_setIfInBounds, HS.out], HB.out, _, _, _, _, _, _, _, _, _, _, _, _, _, _, rfl, fun _ => rfl, fun _ => rfl, fun h => E2.out ((listed_set h).resolve_left (by decide)), fun h => E3.out ((listed_set h).resolve_left (by decide)), fun h => E4.out ((listed_set h).resolve_left (by decide)), fun h => E5.out ((listed_set h).resolve_left (by decide)), fun h => E6.out ((listed_set h).resolve_left (by decide)), fun h => E7.out ((listed_set h).resolve_left (by decide)), fun h => E8.out ((listed_set h).resolve_left (by decide)), fun h => E9.out ((listed_set h).resolve_left (by decide)), fun h => E10.out ((listed_set h).resolve_left (by decide)), fun h => E11.out ((listed_set h).resolve_left (by decide)), fun h => E12.out ((listed_set h).resolve_left (by decide)), fun h => E13.out ((listed_set h).resolve_left (by decide))⟩
            | 2, hio =>
              simp only [List.getElem?_toArray, List.getElem?_cons_succ, List.getElem?_cons_zero, Option.some.injEq] at hio
              subst hio
              have p1 := PRE.out ⟨1, .data⟩ (by simp) rfl
              obtain rfl := E1.out p1
              obtain ⟨z0, z1, z2, -, -⟩ := CC.out W HB.out
              refine wpOp_by rfl fun K HK => ?_
              go_wp2_with (fail)
              exact HK.out _ _ ⟨by rw [Array.size_setIfInBounds, HS.out], HB.out, _, _, _, _, _, _, _, _, _, _, _, _, _, _, rfl, fun h => E0.out ((listed_set h).resolve_left (by decide)), fun _ => rfl, fun _ => rfl, fun h => E3.out ((listed_set h).resolve_left (by decide)), fun h => E4.out ((listed_set h).resolve_left (by decide)), fun h => E5.out ((listed_set h).resolve_left (by decide)), fun h => E6.out ((listed_set h).resolve_left (by decide)), fun h => E7.out ((listed_set h).resolve_left (by decide)), fun h => E8.out ((listed_set h).resolve_left (by decide)), fun h => E9.out ((listed_set h).resolve_left (by decide)), fun h => E10.out ((listed_set h).resolve_left (by decide)), fun h => E11.out ((listed_set h).resolve_left (by decide)), fun h => E12.out ((listed_set h).resolve_left (by decide)), fun h => E13.out ((listed_set h).resolve_left (by decide))⟩
            | 3, hio =>
              clear hio
              refine wpOp_by rfl fun K HK => ?_
              go_wp2_with (fail)
              exact HK.out _ _ ⟨by rw [Array.size_setIfInBounds, HS.out], HB.out, _, _, _, _, _, _, _, _, _, _, _, _, _, _, rfl, fun h => E0.out ((listed_set h).resolve_left (by decide)), fun h => E1.out ((listed_set h).resolve_left (by decide)), fun h => E2.out ((listed_set h).resolve_left (by decide)), fun _ => rfl, fun h => E4.out ((listed_set h).resolve_left (by decide)), fun h => E5.out ((listed_set h).resolve_left (by decide)), fun h => E6.out ((listed_set h).resolve_left (by decide)), fun h => E7.out ((listed_set h).resolve_left (by decide)), fun h => E8.out ((listed_set h).resolve_left (by decide)), fun h => E9.out ((listed_set h).resolve_left (by decide)), fun h => E10.out ((listed_set h).resolve_left (by decide)), fun h => E11.out ((listed_set h).resolve_left (by decide)), fun h => E12.out ((listed_set h).resolve_left (by decide)), fun h => E13.out ((listed_set h).resolve_left (by decide))⟩
            | 4, hio =>
              clear hio
              refine wpOp_by rfl fun K HK => ?_
              go_wp2_with (fail)
              exact HK.out _ _ ⟨by rw [Array.size_setIfInBounds, HS.out], HB.out, _, _, _, _, _, _, _, _, _, _, _, _, _, _, rfl, fun h => E0.out ((listed_set h).resolve_left (by decide)), fun h => E1.out ((listed_set h).resolve_left (by decide)), fun h => E2.out ((listed_set h).resolve_left (by decide)), fun h => E3.out ((listed_set h).resolve_left (by decide)), fun _ => rfl, fun h => E5.out ((listed_set h).resolve_left (by decide)), fun h => E6.out ((listed_set h).resolve_left (by decide)), fun h => E7.out ((listed_set h).resolve_left (by decide)), fun h => E8.out ((listed_set h).resolve_left (by decide)), fun h => E9.out ((listed_set h).resolve_left (by decide)), fun h => E10.out ((listed_set h).resolve_left (by decide)), fun h => E11.out ((listed_set h).resolve_left (by decide)), fun h => E12.out ((listed_set h).resolve_left (by decide)), fun h => E13.out ((listed_set h).resolve_left (by decide))⟩
            | 5, hio =>
              simp only [List.getElem?_toArray, List.getElem?_cons_succ, List.getElem?_cons_zero, Option.some.injEq] at hio
              subst hio
              have p3 := PRE.out ⟨3, .data⟩ (by simp) rfl
              have p4 := PRE.out ⟨4, .data⟩ (by simp) rfl
              obtain rfl := E3.out p3
              obtain rfl := E4.out p4
              refine wpOp_by rfl fun K HK => ?_
              go_wp2_with (fail)
              exact HK.out _ _ ⟨by rw [Array.size_setIfInBounds, HS.out], HB.out, _, _, _, _, _, _, _, _, _, _, _, _, _, _, rfl, fun h => E0.out ((listed_set h).resolve_left (by decide)), fun h => E1.out ((listed_set h).resolve_left (by decide)), fun h => E2.out ((listed_set h).resolve_left (by decide)), fun _ => rfl, fun _ => rfl, fun _ => rfl, fun h => E6.out ((listed_set h).resolve_left (by decide)), fun h => E7.out ((listed_set h).resolve_left (by decide)), fun h => E8.out ((listed_set h).resolve_left (by decide)), fun h => E9.out ((listed_set h).resolve_left (by decide)), fun h => E10.out ((listed_set h).resolve_left (by decide)), fun h => E11.out ((listed_set h).resolve_left (by decide)), fun h => E12.out ((listed_set h).resolve_left (by decide)), fun h => E13.out ((listed_set h).resolve_left (by decide))⟩
            | 6, hio =>
              simp only [List.getElem?_toArray, List.getElem?_cons_succ, List.getElem?_cons_zero, Option.some.injEq] at hio
              subst hio
              have p5 := PRE.out ⟨5, .data⟩ (by simp) rfl
              obtain rfl := E5.out p5
              obtain ⟨z0, z1, z2, -, -⟩ := CC.out W HB.out
              refine wpOp_by rfl fun K HK => ?_
              go_wp2_with (fail)
              exact HK.out _ _ ⟨by rw [Array.size_setIfInBounds, HS.out], HB.out, _, _, _, _, _, _, _, _, _, _, _, _, _, _, rfl, fun h => E0.out ((listed_set h).resolve_left (by decide)), fun h => E1.out ((listed_set h).resolve_left (by decide)), fun h => E2.out ((listed_set h).resolve_left (by decide)), fun h => E3.out ((listed_set h).resolve_left (by decide)), fun h => E4.out ((listed_set h).resolve_left (by decide)), fun _ => rfl, fun _ => rfl, fun h => E7.out ((listed_set h).resolve_left (by decide)), fun h => E8.out ((listed_set h).resolve_left (by decide)), fun h => E9.out ((listed_set h).resolve_left (by decide)), fun h => E10.out ((listed_set h).resolve_left (by decide)), fun h => E11.out ((listed_set h).resolve_left (by decide)), fun h => E12.out ((listed_set h).resolve_left (by decide)), fun h => E13.out ((listed_set h).resolve_left (by decide))⟩
            | 7, hio =>
              simp only [List.getElem?_toArray, List.getElem?_cons_succ, List.getElem?_cons_zero, Option.some.injEq] at hio
              subst hio
              have p2 := PRE.out ⟨2, .data⟩ (by simp) rfl
              have p6 := PRE.out ⟨6, .data⟩ (by simp) rfl
              obtain rfl := E2.out p2
              obtain rfl := E6.out p6
              refine wpOp_by rfl fun K HK => ?_
              go_wp2_with (fail)
              exact HK.out _ _ ⟨by rw [Array.size_setIfInBounds, HS.out], HB.out, _, _, _, _, _, _, _, _, _, _, _, _, _, _, rfl, fun h => E0.out ((listed_set h).resolve_left (by decide)), fun h => E1.out ((listed_set h).resolve_left (by decide)), fun _ => rfl, fun h => E3.out ((listed_set h).resolve_left (by decide)), fun h => E4.out ((listed_set h).resolve_left (by decide)), fun h => E5.out ((listed_set h).resolve_left (by decide)), fun _ => rfl, fun _ => rfl, fun h => E8.out ((listed_set h).resolve_left (by decide)), fun h => E9.out ((listed_set h).resolve_left (by decide)), fun h => E10.out ((listed_set h).resolve_left (by decide)), fun h => E11.out ((listed_set h).resolve_left (by decide)), fun h => E12.out ((listed_set h).resolve_left (by decide)), fun h => E13.out ((listed_set h).resolve_left (by decide))⟩
            | 8, hio =>
              simp only [List.getElem?_toArray, List.getElem?_cons_succ, List.getElem?_cons_zero, Option.some.injEq] at hio
              subst hio
              have p7 := PRE.out ⟨7, .data⟩ (by simp) rfl
              obtain rfl := E7.out p7
              refine wpOp_by rfl fun K HK => ?_
              go_wp2_with (fail)
              exact HK.out _ _ ⟨by rw [Array.size_setIfInBounds, HS.out], HB.out, _, _, _, _, _, _, _, _, _, _, _, _, _, _, rfl, fun h => E0.out ((listed_set h).resolve_left (by decide)), fun h => E1.out ((listed_set h).resolve_left (by decide)), fun h => E2.out ((listed_set h).resolve_left (by decide)), fun h => E3.out ((listed_set h).resolve_left (by decide)), fun h => E4.out ((listed_set h).resolve_left (by decide)), fun h => E5.out ((listed_set h).resolve_left (by decide)), fun h => E6.out ((listed_set h).resolve_left (by decide)), fun _ => rfl, fun _ => rfl, fun h => E9.out ((listed_set h).resolve_left (by decide)), fun h => E10.out ((listed_set h).resolve_left (by decide)), fun h => E11.out ((listed_set h).resolve_left (by decide)), fun h => E12.out ((listed_set h).resolve_left (by decide)), fun h => E13.out ((listed_set h).resolve_left (by decide))⟩
            | 9, hio =>
              simp only [List.getElem?_toArray, List.getElem?_cons_succ, List.getElem?_cons_zero, Option.some.injEq] at hio
              subst hio
              have p8 := PRE.out ⟨8, .guard⟩ (by simp) rfl
              obtain rfl := E8.out p8
              refine wpOp_by rfl fun K HK => ?_
              go_wp2_with (fail)
              exact HK.out _ _ ⟨by rw [Array.size_setIfInBounds, HS.out], HB.out, _, _, _, _, _, _, _, _, _, _, _, _, _, _, rfl, fun h => E0.out ((listed_set h).resolve_left (by decide)), fun h => E1.out ((listed_set h).resolve_left (by decide)), fun h => E2.out ((listed_set h).resolve_left (by decide)), fun h => E3.out ((listed_set h).resolve_left (by decide)), fun h => E4.out ((listed_set h).resolve_left (by decide)), fun h => E5.out ((listed_set h).resolve_left (by decide)), fun h => E6.out ((listed_set h).resolve_left (by decide)), fun h => E7.out ((listed_set h).resolve_left (by decide)), fun _ => rfl, fun _ => rfl, fun h => E10.out ((listed_set h).resolve_left (by decide)), fun h => E11.out ((listed_set h).resolve_left (by decide)), fun h => E12.out ((listed_set h).resolve_left (by decide)), fun h => E13.out ((listed_set h).resolve_left (by decide))⟩
            | 10, hio =>
              simp only [List.getElem?_toArray, List.getElem?_cons_succ, List.getElem?_cons_zero, Option.some.injEq] at hio
              subst hio
              have p8 := PRE.out ⟨8, .guard⟩ (by simp) rfl
              obtain rfl := E8.out p8
              refine wpOp_by rfl fun K HK => ?_
              go_wp2_with (fail)
              exact HK.out _ _ ⟨by rw [Array.size_setIfInBounds, HS.out], HB.out, _, _, _, _, _, _, _, _, _, _, _, _, _, _, rfl, fun h => E0.out ((listed_set h).resolve_left (by decide)), fun h => E1.out ((listed_set h).resolve_left (by decide)), fun h => E2.out ((listed_set h).resolve_left (by decide)), fun h => E3.out ((listed_set h).resolve_left (by decide)), fun h => E4.out ((listed_set h).resolve_left (by decide)), fun h => E5.out ((listed_set h).resolve_left (by decide)), fun h => E6.out ((listed_set h).resolve_left (by decide)), fun h => E7.out ((listed_set h).resolve_left (by decide)), fun _ => rfl, fun h => E9.out ((listed_set h).resolve_left (by decide)), fun _ => rfl, fun h => E11.out ((listed_set h).resolve_left (by decide)), fun h => E12.out ((listed_set h).resolve_left (by decide)), fun h => E13.out ((listed_set h).resolve_left (by decide))⟩
            | 11, hio =>
              simp only [List.getElem?_toArray, List.getElem?_cons_succ, List.getElem?_cons_zero, Option.some.injEq] at hio
              subst hio
              have p8 := PRE.out ⟨8, .guard⟩ (by simp) rfl
              obtain rfl := E8.out p8
              refine wpOp_by rfl fun K HK => ?_
              go_wp2_with (fail)
              exact HK.out _ _ ⟨by rw [Array.size_setIfInBounds, HS.out], HB.out, _, _, _, _, _, _, _, _, _, _, _, _, _, _, rfl, fun h => E0.out ((listed_set h).resolve_left (by decide)), fun h => E1.out ((listed_set h).resolve_left (by decide)), fun h => E2.out ((listed_set h).resolve_left (by decide)), fun h => E3.out ((listed_set h).resolve_left (by decide)), fun h => E4.out ((listed_set h).resolve_left (by decide)), fun h => E5.out ((listed_set h).resolve_left (by decide)), fun h => E6.out ((listed_set h).resolve_left (by decide)), fun h => E7.out ((listed_set h).resolve_left (by decide)), fun _ => rfl, fun h => E9.out ((listed_set h).resolve_left (by decide)), fun h => E10.out ((listed_set h).resolve_left (by decide)), fun _ => rfl, fun h => E12.out ((listed_set h).resolve_left (by decide)), fun h => E13.out ((listed_set h).resolve_left (by decide))⟩
            | 12, hio =>
              simp only [List.getElem?_toArray, List.getElem?_cons_succ, List.getElem?_cons_zero, Option.some.injEq] at hio
              subst hio
              have p8 := PRE.out ⟨8, .guard⟩ (by simp) rfl
              obtain rfl := E8.out p8
              refine wpOp_by rfl fun K HK => ?_
              go_wp2_with (fail)
              exact HK.out _ _ ⟨by rw [Array.size_setIfInBounds, HS.out], HB.out, _, _, _, _, _, _, _, _, _, _, _, _, _, _, rfl, fun h => E0.out ((listed_set h).resolve_left (by decide)), fun h => E1.out ((listed_set h).resolve_left (by decide)), fun h => E2.out ((listed_set h).resolve_left (by decide)), fun h => E3.out ((listed_set h).resolve_left (by decide)), fun h => E4.out ((listed_set h).resolve_left (by decide)), fun h => E5.out ((listed_set h).resolve_left (by decide)), fun h => E6.out ((listed_set h).resolve_left (by decide)), fun h => E7.out ((listed_set h).resolve_left (by decide)), fun _ => rfl, fun h => E9.out ((listed_set h).resolve_left (by decide)), fun h => E10.out ((listed_set h).resolve_left (by decide)), fun h => E11.out ((listed_set h).resolve_left (by decide)), fun _ => rfl, fun h => E13.out ((listed_set h).resolve_left (by decide))⟩
            | 13, hio =>
              simp only [List.getElem?_toArray, List.getElem?_cons_succ, List.getElem?_cons_zero, Option.some.injEq] at hio
              subst hio
              have p8 := PRE.out ⟨8, .data⟩ (by simp) rfl
              obtain rfl := E8.out p8
              refine wpOp_by rfl fun K HK => ?_
              go_wp2_with (fail)
              exact HK.out _ _ ⟨by rw [Array.size_setIfInBounds, HS.out], HB.out, _, _, _, _, _, _, _, _, _, _, _, _, _, _, rfl, fun h => E0.out ((listed_set h).resolve_left (by decide)), fun h => E1.out ((listed_set h).resolve_left (by decide)), fun h => E2.out ((listed_set h).resolve_left (by decide)), fun h => E3.out ((listed_set h).resolve_left (by decide)), fun h => E4.out ((listed_set h).resolve_left (by decide)), fun h => E5.out ((listed_set h).resolve_left (by decide)), fun h => E6.out ((listed_set h).resolve_left (by decide)), fun h => E7.out ((listed_set h).resolve_left (by decide)), fun _ => rfl, fun h => E9.out ((listed_set h).resolve_left (by decide)), fun h => E10.out ((listed_set h).resolve_left (by decide)), fun h => E11.out ((listed_set h).resolve_left (by decide)), fun h => E12.out ((listed_set h).resolve_left (by decide)), fun _ => rfl⟩
            | k + 14, hio => simp at hio
          case hend100 =>
            rintro listed act W1 ⟨hs, hB, x0, x1, x2, x3, x4, x5, x6, x7, x8, x9, x10, x11, x12, x13, rfl, e0, e1, e2, e3, e4, e5, e6, e7, e8, e9, e10, e11, e12, e13⟩ hall
            obtain rfl := e0 (hall 0 (by decide))
            obtain rfl := e1 (hall 1 (by decide))
            obtain rfl := e2 (hall 2 (by decide))
            obtain rfl := e3 (hall 3 (by decide))
            obtain rfl := e4 (hall 4 (by decide))
            obtain rfl := e5 (hall 5 (by decide))
            obtain rfl := e6 (hall 6 (by decide))
            obtain rfl := e7 (hall 7 (by decide))
            obtain rfl := e8 (hall 8 (by decide))
            obtain rfl := e9 (hall 9 (by decide))
            obtain rfl := e10 (hall 10 (by decide))
            obtain rfl := e11 (hall 11 (by decide))
            obtain rfl := e12 (hall 12 (by decide))
            obtain rfl := e13 (hall 13 (by decide))
            clear hs
            have BN : Hid (Below w4.heap.size w4 W1) := Lib.hid (B7.out.trans (hB.mono B7.out.size))
            clear hB hall CC
            go_wp2
            refine ⟨⟨k + 1, by omega, by omega, by go_num, BN, MS⟩, by simp [intOf]; omega⟩
      · have EA : Hid (aQ (k : Int) (splitL 32 T.data.toList) = (smallI (smN 9 q1.data.toList))) := Lib.hid (by unfold aQ; rw [hN]; rw [← L1'.out]; rfl)
        have EB : Hid (bQ (k : Int) (splitL 32 T.data.toList) = (smallI (smN 9 q2.data.toList))) := Lib.hid (by unfold bQ; rw [hN]; rw [← L2'.out]; rfl)
        rw [hN] at NA
        clear hN
        obtain ⟨A, hA⟩ : ∃ x, (smallI (smN 9 q1.data.toList)) = x := ⟨_, rfl⟩
        rw [hA] at EA
        have S1 : Hid (∀ w, Calls Tryd.prog 34 #[.string q1] w fun e w' => e = .returned (.int .i64 A) ∧ w = w') := Lib.hid fun w => by rw [← hA]; exact l01Small9_any q1 w
        clear hA
        obtain ⟨B, hB⟩ : ∃ x, (smallI (smN 9 q2.data.toList)) = x := ⟨_, rfl⟩
        rw [hB] at EB
        have S2 : Hid (∀ w, Calls Tryd.prog 34 #[.string q2] w fun e w' => e = .returned (.int .i64 B) ∧ w = w') := Lib.hid fun w => by rw [← hB]; exact l01Small9_any q2 w
        clear hB
        have d1 : w6.cell? ⟨wr.heap.size, 1, none⟩ = some (.int .i64 0) := Lib.cell_of_heap R6.out 1
        have f1 : w6.frozen? ⟨wr.heap.size, 1, none⟩ = false := Lib.frozen_of_heap R6.out 1
        have x1 := (CW.out w6 B6.out).2.1
        obtain ⟨w7, hw7⟩ : ∃ x, w6.setCell ⟨wr.heap.size, 1, none⟩ (.int .i64 A) = x := ⟨_, rfl⟩
        have R7 : Hid (w7.heap[wr.heap.size]? = some (.cells (D3 (k : Int) A 0) 25 (0, 0))) := Lib.hid (by rw [← hw7]; exact fset_at R6.out 1 _)
        have B7 : Hid (Below w4.heap.size w4 w7) := Lib.hid (by rw [← hw7]; exact B6.out.setCell (p := ⟨wr.heap.size, _, none⟩) HBW.out _)
        have d2 : w7.cell? ⟨wr.heap.size, 2, none⟩ = some (.int .i64 0) := Lib.cell_of_heap R7.out 2
        have f2 : w7.frozen? ⟨wr.heap.size, 2, none⟩ = false := Lib.frozen_of_heap R7.out 2
        have x2 := (CW.out w7 B7.out).2.2.1
        obtain ⟨w8, hw8⟩ : ∃ x, w7.setCell ⟨wr.heap.size, 2, none⟩ (.int .i64 B) = x := ⟨_, rfl⟩
        have R8 : Hid (w8.heap[wr.heap.size]? = some (.cells (D3 (k : Int) A B) 25 (0, 0))) := Lib.hid (by rw [← hw8]; exact fset_at R7.out 2 _)
        have B8 : Hid (Below w4.heap.size w4 w8) := Lib.hid (by rw [← hw8]; exact B7.out.setCell (p := ⟨wr.heap.size, _, none⟩) HBW.out _)
        have DTX := Lib.hid (sDeedText_any (k : Int) A B)
        obtain ⟨DV, hDV⟩ : ∃ x, dtT (k : Int) A B = x := ⟨_, rfl⟩
        rw [hDV] at DTX
        obtain ⟨WK, hWK⟩ : ∃ x, nmW k = x := ⟨_, rfl⟩
        have WE : Hid (WK = wdD (k : Int)) := Lib.hid (by rw [← hWK]; exact W9.out)
        have CC : Hid (∀ W, Below w8.heap.size w8 W → W.cell? ⟨g, 0, none⟩ = some (.string q0) ∧ W.cell? ⟨w3.heap.size, k, none⟩ = some (.string WK) ∧ W.heap[wr.heap.size]? = some (.cells (D3 (k : Int) A B) 25 (0, 0)) ∧ W.heap[w.heap.size]? = some (.cells #[Value.int .i64 0, Value.int .i64 0, Value.int .i64 0] 25 (0, 0)) ∧ Below w.heap.size w W) := Lib.hid fun W hW => by
          have bb := B8.out.trans (hW.mono B8.out.size)
          have c := CW.out W bb
          exact ⟨c.1, by rw [c.2.2.2.1 k (by omega), hWK], far_row hW R8.out, c.2.2.2.2, B4.out.trans (bb.mono (Nat.le_of_lt SZ4.out.1))⟩
        clear hWK
        go_wp2_with (refine wpList_store_row rfl 25 _ _ rfl wr.heap.size (D3 (k : Int) 0 0) rfl rfl 25 _ T5.out (deed_info _ rfl) rfl (row3_oneD _ _ _) ?_; rw [hw6])
        refine (NA.out _).mono ?_
        rintro e w' ⟨rfl, rfl⟩
        go_wp2_with fail
        refine (S1.out _).mono ?_
        rintro e w' ⟨rfl, rfl⟩
        go_wp2_with fail
        refine (NA.out _).mono ?_
        rintro e w' ⟨rfl, rfl⟩
        go_wp2_with fail
        refine (S2.out _).mono ?_
        rintro e w' ⟨rfl, rfl⟩
        go_wp2_with fail
        clear hw5 hw6 hw7 d1 f1 x1 hw8 d2 f2 x2 T5 B5
        by_cases h0 : q0 = WK
        · have E1 : (q0.toList == WK.toList) = true := txt_same h0
          by_cases h1 : DV = T
          · have E3 : (DV.toList == T.toList) = true := txt_same h1
            have HT := Lib.hid (rd_hit (by omega) hR.out (sp_hit L0.out WE.out EA.out EB.out h0 (hDV.trans h1)))
            clear h0 h1
            refine wp_region_inv (by kernel_rfl) (fun listed act W => listed.size = 14 ∧ Below w8.heap.size w8 W ∧ ∃ x0 x1 x2 x3 x4 x5 x6 x7 x8 x9 x10 x11 x12 x13, act = { tmps := #[.string T, undef, .pointer (some ⟨w.heap.size, 0, none⟩), u3, .slice (some ⟨g, 0, none⟩) qn cap, .slice (some ⟨w3.heap.size, 0, none⟩) 10 10, .int .i64 (k : Int), .pointer (some ⟨wr.heap.size, 0, none⟩), .string T, .int .i64 (T.size : Int), .bool (decide ((40 : Int) < (T.size : Int))), undef, .string T, v, .slice (some ⟨w2.heap.size, 0, none⟩) 2 2, .slice (some ⟨g, 0, none⟩) qn cap, .slice (some ⟨w3.heap.size, 0, none⟩) 10 10, .int .i64 (k : Int), .bool true, u19, u20, .int .i64 (k : Int), .agg (D3 (k : Int) 0 0), .int .i64 (k : Int), .int .i64 2, .bool true, .slice (some ⟨g, 0, none⟩) qn cap, .pointer (some ⟨g, 1, none⟩), .string q1, .int .i64 A, .pointer (some ⟨wr.heap.size, 1, none⟩), .int .i64 (k : Int), .int .i64 2, .bool true, .slice (some ⟨g, 0, none⟩) qn cap, .pointer (some ⟨g, 2, none⟩), .string q2, .int .i64 B, .pointer (some ⟨wr.heap.size, 2, none⟩), x0, x1, x2, x3, x4, x5, x6, x7, x8, x9, x10, x11, x12, x13, u53, undef], defers := [] } ∧ (listed.getD 0 false = true → x0 = .slice (some ⟨g, 0, none⟩) qn cap) ∧ (listed.getD 1 false = true → x1 = .pointer (some ⟨g, 0, none⟩)) ∧ (listed.getD 2 false = true → x2 = .string q0) ∧ (listed.getD 3 false = true → x3 = .slice (some ⟨w3.heap.size, 0, none⟩) 10 10) ∧ (listed.getD 4 false = true → x4 = .int .i64 (k : Int)) ∧ (listed.getD 5 false = true → x5 = .pointer (some ⟨w3.heap.size, k, none⟩)) ∧ (listed.getD 6 false = true → x6 = .string WK) ∧ (listed.getD 7 false = true → x7 = .bool true) ∧ (listed.getD 8 false = true → x8 = .bool true) ∧ (listed.getD 9 false = true → x9 = .agg (D3 (k : Int) A B)) ∧ (listed.getD 10 false = true → x10 = .string DV) ∧ (listed.getD 11 false = true → x11 = .string T) ∧ (listed.getD 12 false = true → x12 = .bool true) ∧ (listed.getD 13 false = true → x13 = .bool true)) (by kernel_rfl) ?h0211 (fun _ _ _ h => h.1) ?hstep211 ?hend211
            case h0211 =>
              refine ⟨rfl, (Below.refl _ _).drew, _, _, _, _, _, _, _, _, _, _, _, _, _, _, rfl, ?_, ?_, ?_, ?_, ?_, ?_, ?_, ?_, ?_, ?_, ?_, ?_, ?_, ?_⟩ <;> (intro h; exact absurd h (by decide))
            case hstep211 =>
              rintro listed act W i o ⟨hs, hB, x0, x1, x2, x3, x4, x5, x6, x7, x8, x9, x10, x11, x12, x13, rfl, e0, e1, e2, e3, e4, e5, e6, e7, e8, e9, e10, e11, e12, e13⟩ hun hio hpre
              have HB := Lib.hid hB
              have E0 := Lib.hid e0
              have E1 := Lib.hid e1
              have E2 := Lib.hid e2
              have E3 := Lib.hid e3
              have E4 := Lib.hid e4
              have E5 := Lib.hid e5
              have E6 := Lib.hid e6
              have E7 := Lib.hid e7
              have E8 := Lib.hid e8
              have E9 := Lib.hid e9
              have E10 := Lib.hid e10
              have E11 := Lib.hid e11
              have E12 := Lib.hid e12
              have E13 := Lib.hid e13
              have HS := Lib.hid hs
              have HU := Lib.hid hun
              have PRE := Lib.hid hpre
              clear e0 e1 e2 e3 e4 e5 e6 e7 e8 e9 e10 e11 e12 e13 hs hpre hB hun
              match i, hio with
              | 0, hio =>
                clear hio
                refine wpOp_by rfl fun K HK => ?_
                go_wp2_with (fail)
                exact HK.out _ _ ⟨by rw [Array.size_setIfInBounds, HS.out], HB.out, _, _, _, _, _, _, _, _, _, _, _, _, _, _, rfl, fun _ => rfl, fun h => E1.out ((listed_set h).resolve_left (by decide)), fun h => E2.out ((listed_set h).resolve_left (by decide)), fun h => E3.out ((listed_set h).resolve_left (by decide)), fun h => E4.out ((listed_set h).resolve_left (by decide)), fun h => E5.out ((listed_set h).resolve_left (by decide)), fun h => E6.out ((listed_set h).resolve_left (by decide)), fun h => E7.out ((listed_set h).resolve_left (by decide)), fun h => E8.out ((listed_set h).resolve_left (by decide)), fun h => E9.out ((listed_set h).resolve_left (by decide)), fun h => E10.out ((listed_set h).resolve_left (by decide)), fun h => E11.out ((listed_set h).resolve_left (by decide)), fun h => E12.out ((listed_set h).resolve_left (by decide)), fun h => E13.out ((listed_set h).resolve_left (by decide))⟩
              | 1, hio =>
                simp only [List.getElem?_toArray, List.getElem?_cons_succ, List.getElem?_cons_zero, Option.some.injEq] at hio
                subst hio
                have p0 := PRE.out ⟨0, .data⟩ (by simp) rfl
                obtain rfl := E0.out p0
                refine wpOp_by rfl fun K HK => ?_
                go_wp2_with (fail)
                exact HK.out _ _ ⟨by rw [Array.size_setIfInBounds, HS.out], HB.out, _, _, _, _, _, _, _, _, _, _, _, _, _, _, rfl, fun _ => rfl, fun _ => rfl, fun h => E2.out ((listed_set h).resolve_left (by decide)), fun h => E3.out ((listed_set h).resolve_left (by decide)), fun h => E4.out ((listed_set h).resolve_left (by decide)), fun h => E5.out ((listed_set h).resolve_left (by decide)), fun h => E6.out ((listed_set h).resolve_left (by decide)), fun h => E7.out ((listed_set h).resolve_left (by decide)), fun h => E8.out ((listed_set h).resolve_left (by decide)), fun h => E9.out ((listed_set h).resolve_left (by decide)), fun h => E10.out ((listed_set h).resolve_left (by decide)), fun h => E11.out ((listed_set h).resolve_left (by decide)), fun h => E12.out ((listed_set h).resolve_left (by decide)), fun h => E13.out ((listed_set h).resolve_left (by decide))⟩
              | 2, hio =>
                simp only [List.getElem?_toArray, List.getElem?_cons_succ, List.getElem?_cons_zero, Option.some.injEq] at hio
                subst hio
                have p1 := PRE.out ⟨1, .data⟩ (by simp) rfl
                obtain rfl := E1.out p1
                obtain ⟨z0, z1, z2, -, -⟩ := CC.out W HB.out
                refine wpOp_by rfl fun K HK => ?_
                go_wp2_with (fail)
                exact HK.out _ _ ⟨by rw [Array.size_setIfInBounds, HS.out], HB.out, _, _, _, _, _, _, _, _, _, _, _, _, _, _, rfl, fun h => E0.out ((listed_set h).resolve_left (by decide)), fun _ => rfl, fun _ => rfl, fun h => E3.out ((listed_set h).resolve_left (by decide)), fun h => E4.out ((listed_set h).resolve_left (by decide)), fun h => E5.out ((listed_set h).resolve_left (by decide)), fun h => E6.out ((listed_set h).resolve_left (by decide)), fun h => E7.out ((listed_set h).resolve_left (by decide)), fun h => E8.out ((listed_set h).resolve_left (by decide)), fun h => E9.out ((listed_set h).resolve_left (by decide)), fun h => E10.out ((listed_set h).resolve_left (by decide)), fun h => E11.out ((listed_set h).resolve_left (by decide)), fun h => E12.out ((listed_set h).resolve_left (by decide)), fun h => E13.out ((listed_set h).resolve_left (by decide))⟩
              | 3, hio =>
                clear hio
                refine wpOp_by rfl fun K HK => ?_
                go_wp2_with (fail)
                exact HK.out _ _ ⟨by rw [Array.size_setIfInBounds, HS.out], HB.out, _, _, _, _, _, _, _, _, _, _, _, _, _, _, rfl, fun h => E0.out ((listed_set h).resolve_left (by decide)), fun h => E1.out ((listed_set h).resolve_left (by decide)), fun h => E2.out ((listed_set h).resolve_left (by decide)), fun _ => rfl, fun h => E4.out ((listed_set h).resolve_left (by decide)), fun h => E5.out ((listed_set h).resolve_left (by decide)), fun h => E6.out ((listed_set h).resolve_left (by decide)), fun h => E7.out ((listed_set h).resolve_left (by decide)), fun h => E8.out ((listed_set h).resolve_left (by decide)), fun h => E9.out ((listed_set h).resolve_left (by decide)), fun h => E10.out ((listed_set h).resolve_left (by decide)), fun h => E11.out ((listed_set h).resolve_left (by decide)), fun h => E12.out ((listed_set h).resolve_left (by decide)), fun h => E13.out ((listed_set h).resolve_left (by decide))⟩
              | 4, hio =>
                clear hio
                refine wpOp_by rfl fun K HK => ?_
                go_wp2_with (fail)
                exact HK.out _ _ ⟨by rw [Array.size_setIfInBounds, HS.out], HB.out, _, _, _, _, _, _, _, _, _, _, _, _, _, _, rfl, fun h => E0.out ((listed_set h).resolve_left (by decide)), fun h => E1.out ((listed_set h).resolve_left (by decide)), fun h => E2.out ((listed_set h).resolve_left (by decide)), fun h => E3.out ((listed_set h).resolve_left (by decide)), fun _ => rfl, fun h => E5.out ((listed_set h).resolve_left (by decide)), fun h => E6.out ((listed_set h).resolve_left (by decide)), fun h => E7.out ((listed_set h).resolve_left (by decide)), fun h => E8.out ((listed_set h).resolve_left (by decide)), fun h => E9.out ((listed_set h).resolve_left (by decide)), fun h => E10.out ((listed_set h).resolve_left (by decide)), fun h => E11.out ((listed_set h).resolve_left (by decide)), fun h => E12.out ((listed_set h).resolve_left (by decide)), fun h => E13.out ((listed_set h).resolve_left (by decide))⟩
              | 5, hio =>
                simp only [List.getElem?_toArray, List.getElem?_cons_succ, List.getElem?_cons_zero, Option.some.injEq] at hio
                subst hio
                have p3 := PRE.out ⟨3, .data⟩ (by simp) rfl
                have p4 := PRE.out ⟨4, .data⟩ (by simp) rfl
                obtain rfl := E3.out p3
                obtain rfl := E4.out p4
                refine wpOp_by rfl fun K HK => ?_
                go_wp2_with (fail)
                exact HK.out _ _ ⟨by rw [Array.size_setIfInBounds, HS.out], HB.out, _, _, _, _, _, _, _, _, _, _, _, _, _, _, rfl, fun h => E0.out ((listed_set h).resolve_left (by decide)), fun h => E1.out ((listed_set h).resolve_left (by decide)), fun h => E2.out ((listed_set h).resolve_left (by decide)), fun _ => rfl, fun _ => rfl, fun _ => rfl, fun h => E6.out ((listed_set h).resolve_left (by decide)), fun h => E7.out ((listed_set h).resolve_left (by decide)), fun h => E8.out ((listed_set h).resolve_left (by decide)), fun h => E9.out ((listed_set h).resolve_left (by decide)), fun h => E10.out ((listed_set h).resolve_left (by decide)), fun h => E11.out ((listed_set h).resolve_left (by decide)), fun h => E12.out ((listed_set h).resolve_left (by decide)), fun h => E13.out ((listed_set h).resolve_left (by decide))⟩
              | 6, hio =>
                simp only [List.getElem?_toArray, List.getElem?_cons_succ, List.getElem?_cons_zero, Option.some.injEq] at hio
                subst hio
                have p5 := PRE.out ⟨5, .data⟩ (by simp) rfl
                obtain rfl := E5.out p5
                obtain ⟨z0, z1, z2, -, -⟩ := CC.out W HB.out
                refine wpOp_by rfl fun K HK => ?_
                go_wp2_with (fail)
                exact HK.out _ _ ⟨by rw [Array.size_setIfInBounds, HS.out], HB.out, _, _, _, _, _, _, _, _, _, _, _, _, _, _, rfl, fun h => E0.out ((listed_set h).resolve_left (by decide)), fun h => E1.out ((listed_set h).resolve_left (by decide)), fun h => E2.out ((listed_set h).resolve_left (by decide)), fun h => E3.out ((listed_set h).resolve_left (by decide)), fun h => E4.out ((listed_set h).resolve_left (by decide)), fun _ => rfl, fun _ => rfl, fun h => E7.out ((listed_set h).resolve_left (by decide)), fun h => E8.out ((listed_set h).resolve_left (by decide)), fun h => E9.out ((listed_set h).resolve_left (by decide)), fun h => E10.out ((listed_set h).resolve_left (by decide)), fun h => E11.out ((listed_set h).resolve_left (by decide)), fun h => E12.out ((listed_set h).resolve_left (by decide)), fun h => E13.out ((listed_set h).resolve_left (by decide))⟩
              | 7, hio =>
                simp only [List.getElem?_toArray, List.getElem?_cons_succ, List.getElem?_cons_zero, Option.some.injEq] at hio
                subst hio
                have p2 := PRE.out ⟨2, .data⟩ (by simp) rfl
                have p6 := PRE.out ⟨6, .data⟩ (by simp) rfl
                obtain rfl := E2.out p2
                obtain rfl := E6.out p6
                refine wpOp_by rfl fun K HK => ?_
                go_wp2_with (fail)
                exact HK.out _ _ ⟨by rw [Array.size_setIfInBounds, HS.out], HB.out, _, _, _, _, _, _, _, _, _, _, _, _, _, _, rfl, fun h => E0.out ((listed_set h).resolve_left (by decide)), fun h => E1.out ((listed_set h).resolve_left (by decide)), fun _ => rfl, fun h => E3.out ((listed_set h).resolve_left (by decide)), fun h => E4.out ((listed_set h).resolve_left (by decide)), fun h => E5.out ((listed_set h).resolve_left (by decide)), fun _ => rfl, fun _ => rfl, fun h => E8.out ((listed_set h).resolve_left (by decide)), fun h => E9.out ((listed_set h).resolve_left (by decide)), fun h => E10.out ((listed_set h).resolve_left (by decide)), fun h => E11.out ((listed_set h).resolve_left (by decide)), fun h => E12.out ((listed_set h).resolve_left (by decide)), fun h => E13.out ((listed_set h).resolve_left (by decide))⟩
              | 8, hio =>
                simp only [List.getElem?_toArray, List.getElem?_cons_succ, List.getElem?_cons_zero, Option.some.injEq] at hio
                subst hio
                have p7 := PRE.out ⟨7, .data⟩ (by simp) rfl
                obtain rfl := E7.out p7
                refine wpOp_by rfl fun K HK => ?_
                go_wp2_with (fail)
                exact HK.out _ _ ⟨by rw [Array.size_setIfInBounds, HS.out], HB.out, _, _, _, _, _, _, _, _, _, _, _, _, _, _, rfl, fun h => E0.out ((listed_set h).resolve_left (by decide)), fun h => E1.out ((listed_set h).resolve_left (by decide)), fun h => E2.out ((listed_set h).resolve_left (by decide)), fun h => E3.out ((listed_set h).resolve_left (by decide)), fun h => E4.out ((listed_set h).resolve_left (by decide)), fun h => E5.out ((listed_set h).resolve_left (by decide)), fun h => E6.out ((listed_set h).resolve_left (by decide)), fun _ => rfl, fun _ => rfl, fun h => E9.out ((listed_set h).resolve_left (by decide)), fun h => E10.out ((listed_set h).resolve_left (by decide)), fun h => E11.out ((listed_set h).resolve_left (by decide)), fun h => E12.out ((listed_set h).resolve_left (by decide)), fun h => E13.out ((listed_set h).resolve_left (by decide))⟩
              | 9, hio =>
                simp only [List.getElem?_toArray, List.getElem?_cons_succ, List.getElem?_cons_zero, Option.some.injEq] at hio
                subst hio
                have p8 := PRE.out ⟨8, .guard⟩ (by simp) rfl
                obtain rfl := E8.out p8
                obtain ⟨z0, z1, z2, -, -⟩ := CC.out W HB.out
                have DR := Lib.hid z2
                clear z0 z1 z2
                refine wpOp_by rfl fun K HK => ?_
                go_wp2_with (refine wpList_load_rowg rfl 25 _ rfl wr.heap.size rfl 25 _ _ _ DR.out Tryd.underlying25 rfl (deed_info _ rfl) ?_)
                exact HK.out _ _ ⟨by rw [Array.size_setIfInBounds, HS.out], HB.out, _, _, _, _, _, _, _, _, _, _, _, _, _, _, rfl, fun h => E0.out ((listed_set h).resolve_left (by decide)), fun h => E1.out ((listed_set h).resolve_left (by decide)), fun h => E2.out ((listed_set h).resolve_left (by decide)), fun h => E3.out ((listed_set h).resolve_left (by decide)), fun h => E4.out ((listed_set h).resolve_left (by decide)), fun h => E5.out ((listed_set h).resolve_left (by decide)), fun h => E6.out ((listed_set h).resolve_left (by decide)), fun h => E7.out ((listed_set h).resolve_left (by decide)), fun _ => rfl, fun _ => rfl, fun h => E10.out ((listed_set h).resolve_left (by decide)), fun h => E11.out ((listed_set h).resolve_left (by decide)), fun h => E12.out ((listed_set h).resolve_left (by decide)), fun h => E13.out ((listed_set h).resolve_left (by decide))⟩
              | 10, hio =>
                simp only [List.getElem?_toArray, List.getElem?_cons_succ, List.getElem?_cons_zero, Option.some.injEq] at hio
                subst hio
                have p9 := PRE.out ⟨9, .data⟩ (by simp) rfl
                have p8 := PRE.out ⟨8, .guard⟩ (by simp) rfl
                obtain rfl := E9.out p9
                obtain rfl := E8.out p8
                refine wpOp_by rfl fun K HK => ?_
                go_wp2_with fail
                refine Calls.mono (DTX.out _) ?_
                rintro e W' ⟨rfl, hb⟩
                have HBB := Lib.hid hb
                clear hb
                go_wp2
                exact HK.out _ _ ⟨by rw [Array.size_setIfInBounds, HS.out], HB.out.trans (HBB.out.mono HB.out.size), _, _, _, _, _, _, _, _, _, _, _, _, _, _, rfl, fun h => E0.out ((listed_set h).resolve_left (by decide)), fun h => E1.out ((listed_set h).resolve_left (by decide)), fun h => E2.out ((listed_set h).resolve_left (by decide)), fun h => E3.out ((listed_set h).resolve_left (by decide)), fun h => E4.out ((listed_set h).resolve_left (by decide)), fun h => E5.out ((listed_set h).resolve_left (by decide)), fun h => E6.out ((listed_set h).resolve_left (by decide)), fun h => E7.out ((listed_set h).resolve_left (by decide)), fun _ => rfl, fun _ => rfl, fun _ => rfl, fun h => E11.out ((listed_set h).resolve_left (by decide)), fun h => E12.out ((listed_set h).resolve_left (by decide)), fun h => E13.out ((listed_set h).resolve_left (by decide))⟩
              | 11, hio =>
                simp only [List.getElem?_toArray, List.getElem?_cons_succ, List.getElem?_cons_zero, Option.some.injEq] at hio
                subst hio
                have p8 := PRE.out ⟨8, .guard⟩ (by simp) rfl
                obtain rfl := E8.out p8
                refine wpOp_by rfl fun K HK => ?_
                go_wp2_with (fail)
                exact HK.out _ _ ⟨by rw [Array.size_setIfInBounds, HS.out], HB.out, _, _, _, _, _, _, _, _, _, _, _, _, _, _, rfl, fun h => E0.out ((listed_set h).resolve_left (by decide)), fun h => E1.out ((listed_set h).resolve_left (by decide)), fun h => E2.out ((listed_set h).resolve_left (by decide)), fun h => E3.out ((listed_set h).resolve_left (by decide)), fun h => E4.out ((listed_set h).resolve_left (by decide)), fun h => E5.out ((listed_set h).resolve_left (by decide)), fun h => E6.out ((listed_set h).resolve_left (by decide)), fun h => E7.out ((listed_set h).resolve_left (by decide)), fun _ => rfl, fun h => E9.out ((listed_set h).resolve_left (by decide)), fun h => E10.out ((listed_set h).resolve_left (by decide)), fun _ => rfl, fun h => E12.out ((listed_set h).resolve_left (by decide)), fun h => E13.out ((listed_set h).resolve_left (by decide))⟩
              | 12, hio =>
                simp only [List.getElem?_toArray, List.getElem?_cons_succ, List.getElem?_cons_zero, Option.some.injEq] at hio
                subst hio
                have p10 := PRE.out ⟨10, .data⟩ (by simp) rfl
                have p11 := PRE.out ⟨11, .data⟩ (by simp) rfl
                have p8 := PRE.out ⟨8, .guard⟩ (by simp) rfl
                obtain rfl := E10.out p10
                obtain rfl := E11.out p11
                obtain rfl := E8.out p8
                refine wpOp_by rfl fun K HK => ?_
                go_wp2_with (fail)
                exact HK.out _ _ ⟨by rw [Array.size_setIfInBounds, HS.out], HB.out, _, _, _, _, _, _, _, _, _, _, _, _, _, _, rfl, fun h => E0.out ((listed_set h).resolve_left (by decide)), fun h => E1.out ((listed_set h).resolve_left (by decide)), fun h => E2.out ((listed_set h).resolve_left (by decide)), fun h => E3.out ((listed_set h).resolve_left (by decide)), fun h => E4.out ((listed_set h).resolve_left (by decide)), fun h => E5.out ((listed_set h).resolve_left (by decide)), fun h => E6.out ((listed_set h).resolve_left (by decide)), fun h => E7.out ((listed_set h).resolve_left (by decide)), fun _ => rfl, fun h => E9.out ((listed_set h).resolve_left (by decide)), fun _ => rfl, fun _ => rfl, fun _ => rfl, fun h => E13.out ((listed_set h).resolve_left (by decide))⟩
              | 13, hio =>
                simp only [List.getElem?_toArray, List.getElem?_cons_succ, List.getElem?_cons_zero, Option.some.injEq] at hio
                subst hio
                have p8 := PRE.out ⟨8, .data⟩ (by simp) rfl
                have p12 := PRE.out ⟨12, .data⟩ (by simp) rfl
                obtain rfl := E8.out p8
                obtain rfl := E12.out p12
                refine wpOp_by rfl fun K HK => ?_
                go_wp2_with (fail)
                exact HK.out _ _ ⟨by rw [Array.size_setIfInBounds, HS.out], HB.out, _, _, _, _, _, _, _, _, _, _, _, _, _, _, rfl, fun h => E0.out ((listed_set h).resolve_left (by decide)), fun h => E1.out ((listed_set h).resolve_left (by decide)), fun h => E2.out ((listed_set h).resolve_left (by decide)), fun h => E3.out ((listed_set h).resolve_left (by decide)), fun h => E4.out ((listed_set h).resolve_left (by decide)), fun h => E5.out ((listed_set h).resolve_left (by decide)), fun h => E6.out ((listed_set h).resolve_left (by decide)), fun h => E7.out ((listed_set h).resolve_left (by decide)), fun _ => rfl, fun h => E9.out ((listed_set h).resolve_left (by decide)), fun h => E10.out ((listed_set h).resolve_left (by decide)), fun h => E11.out ((listed_set h).resolve_left (by decide)), fun _ => rfl, fun _ => rfl⟩
              | k + 14, hio => simp at hio
            case hend211 =>
              rintro listed act W1 ⟨hs, hB, x0, x1, x2, x3, x4, x5, x6, x7, x8, x9, x10, x11, x12, x13, rfl, e0, e1, e2, e3, e4, e5, e6, e7, e8, e9, e10, e11, e12, e13⟩ hall
              obtain rfl := e0 (hall 0 (by decide))
              obtain rfl := e1 (hall 1 (by decide))
              obtain rfl := e2 (hall 2 (by decide))
              obtain rfl := e3 (hall 3 (by decide))
              obtain rfl := e4 (hall 4 (by decide))
              obtain rfl := e5 (hall 5 (by decide))
              obtain rfl := e6 (hall 6 (by decide))
              obtain rfl := e7 (hall 7 (by decide))
              obtain rfl := e8 (hall 8 (by decide))
              obtain rfl := e9 (hall 9 (by decide))
              obtain rfl := e10 (hall 10 (by decide))
              obtain rfl := e11 (hall 11 (by decide))
              obtain rfl := e12 (hall 12 (by decide))
              obtain rfl := e13 (hall 13 (by decide))
              clear hs
              obtain ⟨-, -, z2, z3, z4⟩ := CC.out W1 hB
              have K1 := Lib.hid z2
              have K0 := Lib.hid z3
              have KB := Lib.hid z4
              clear z2 z3 z4 hB hall CC
              go_wp2_with (first | (refine wpList_load_row rfl 25 _ rfl wr.heap.size rfl 25 _ _ _ K1.out Tryd.underlying25 rfl (deed_info _ rfl) ?_) | (refine wpList_store_row rfl 25 _ _ rfl w.heap.size (D3 (k : Int) A B) rfl rfl 25 _ K0.out (deed_info _ rfl) rfl (row3_oneD _ _ _) ?_))
              refine bodyPost_ret (v := .tuple #[.agg (D3 (k : Int) A B), .int .i64 0]) ?_ rfl ⟨by rw [HT.out], ?_⟩
              · exact results_cell_tmp_rowF Tryd.results9 _ _ w.heap.size _ _ _ _ rfl (setRow_heap _ _ _ _ _ _ K0.out) Tryd.underlying25 rfl (deed_info _ rfl)
              · exact below_setRow KB.out (by omega) _
          · have E3 : (DV.toList == T.toList) = false := txt_other h1
            have MS := Lib.hid (rd_step (by omega) hR.out (sp_miss1 EA.out EB.out (fun e => h1 (hDV.symm.trans e))))
            clear h0 h1
            refine wp_region_inv (by kernel_rfl) (fun listed act W => listed.size = 14 ∧ Below w8.heap.size w8 W ∧ ∃ x0 x1 x2 x3 x4 x5 x6 x7 x8 x9 x10 x11 x12 x13, act = { tmps := #[.string T, undef, .pointer (some ⟨w.heap.size, 0, none⟩), u3, .slice (some ⟨g, 0, none⟩) qn cap, .slice (some ⟨w3.heap.size, 0, none⟩) 10 10, .int .i64 (k : Int), .pointer (some ⟨wr.heap.size, 0, none⟩), .string T, .int .i64 (T.size : Int), .bool (decide ((40 : Int) < (T.size : Int))), undef, .string T, v, .slice (some ⟨w2.heap.size, 0, none⟩) 2 2, .slice (some ⟨g, 0, none⟩) qn cap, .slice (some ⟨w3.heap.size, 0, none⟩) 10 10, .int .i64 (k : Int), .bool true, u19, u20, .int .i64 (k : Int), .agg (D3 (k : Int) 0 0), .int .i64 (k : Int), .int .i64 2, .bool true, .slice (some ⟨g, 0, none⟩) qn cap, .pointer (some ⟨g, 1, none⟩), .string q1, .int .i64 A, .pointer (some ⟨wr.heap.size, 1, none⟩), .int .i64 (k : Int), .int .i64 2, .bool true, .slice (some ⟨g, 0, none⟩) qn cap, .pointer (some ⟨g, 2, none⟩), .string q2, .int .i64 B, .pointer (some ⟨wr.heap.size, 2, none⟩), x0, x1, x2, x3, x4, x5, x6, x7, x8, x9, x10, x11, x12, x13, u53, undef], defers := [] } ∧ (listed.getD 0 false = true → x0 = .slice (some ⟨g, 0, none⟩) qn cap) ∧ (listed.getD 1 false = true → x1 = .pointer (some ⟨g, 0, none⟩)) ∧ (listed.getD 2 false = true → x2 = .string q0) ∧ (listed.getD 3 false = true → x3 = .slice (some ⟨w3.heap.size, 0, none⟩) 10 10) ∧ (listed.getD 4 false = true → x4 = .int .i64 (k : Int)) ∧ (listed.getD 5 false = true → x5 = .pointer (some ⟨w3.heap.size, k, none⟩)) ∧ (listed.getD 6 false = true → x6 = .string WK) ∧ (listed.getD 7 false = true → x7 = .bool true) ∧ (listed.getD 8 false = true → x8 = .bool true) ∧ (listed.getD 9 false = true → x9 = .agg (D3 (k : Int) A B)) ∧ (listed.getD 10 false = true → x10 = .string DV) ∧ (listed.getD 11 false = true → x11 = .string T) ∧ (listed.getD 12 false = true → x12 = .bool false) ∧ (listed.getD 13 false = true → x13 = .bool false)) (by kernel_rfl) ?h0210 (fun _ _ _ h => h.1) ?hstep210 ?hend210
            case h0210 =>
              refine ⟨rfl, (Below.refl _ _).drew, _, _, _, _, _, _, _, _, _, _, _, _, _, _, rfl, ?_, ?_, ?_, ?_, ?_, ?_, ?_, ?_, ?_, ?_, ?_, ?_, ?_, ?_⟩ <;> (intro h; exact absurd h (by decide))
            case hstep210 =>
              rintro listed act W i o ⟨hs, hB, x0, x1, x2, x3, x4, x5, x6, x7, x8, x9, x10, x11, x12, x13, rfl, e0, e1, e2, e3, e4, e5, e6, e7, e8, e9, e10, e11, e12, e13⟩ hun hio hpre
              have HB := Lib.hid hB
              have E0 := Lib.hid e0
              have E1 := Lib.hid e1
              have E2 := Lib.hid e2
              have E3 := Lib.hid e3
              have E4 := Lib.hid e4
              have E5 := Lib.hid e5
              have E6 := Lib.hid e6
              have E7 := Lib.hid e7
              have E8 := Lib.hid e8
              have E9 := Lib.hid e9
              have E10 := Lib.hid e10
              have E11 := Lib.hid e11
              have E12 := Lib.hid e12
              have E13 := Lib.hid e13
              have HS := Lib.hid hs
              have HU := Lib.hid hun
              have PRE := Lib.hid hpre
              clear e0 e1 e2 e3 e4 e5 e6 e7 e8 e9 e10 e11 e12 e13 hs hpre hB hun
              match i, hio with
              | 0, hio =>
                clear hio
                refine wpOp_by rfl fun K HK => ?_
                go_wp2_with (fail)
                exact HK.out _ _ ⟨by rw [Array.size_setIfInBounds, HS.out], HB.out, _, _, _, _, _, _, _, _, _, _, _, _, _, _, rfl, fun _ => rfl, fun h => E1.out ((listed_set h).resolve_left (by decide)), fun h => E2.out ((listed_set h).resolve_left (by decide)), fun h => E3.out ((listed_set h).resolve_left (by decide)), fun h => E4.out ((listed_set h).resolve_left (by decide)), fun h => E5.out ((listed_set h).resolve_left (by decide)), fun h => E6.out ((listed_set h).resolve_left (by decide)), fun h => E7.out ((listed_set h).resolve_left (by decide)), fun h => E8.out ((listed_set h).resolve_left (by decide)), fun h => E9.out ((listed_set h).resolve_left (by decide)), fun h => E10.out ((listed_set h).resolve_left (by decide)), fun h => E11.out ((listed_set h).resolve_left (by decide)), fun h => E12.out ((listed_set h).resolve_left (by decide)), fun h => E13.out ((listed_set h).resolve_left (by decide))⟩
              | 1, hio =>
                simp only [List.getElem?_toArray, List.getElem?_cons_succ, List.getElem?_cons_zero, Option.some.injEq] at hio
                subst hio
                have p0 := PRE.out ⟨0, .data⟩ (by simp) rfl
                obtain rfl := E0.out p0
                refine wpOp_by rfl fun K HK => ?_
                go_wp2_with (fail)
                exact HK.out _ _ ⟨by rw [Array.size_setIfInBounds, HS.out], HB.out, _, _, _, _, _, _, _, _, _, _, _, _, _, _, rfl, fun _ => rfl, fun _ => rfl, fun h => E2.out ((listed_set h).resolve_left (by decide)), fun h => E3.out ((listed_set h).resolve_left (by decide)), fun h => E4.out ((listed_set h).resolve_left (by decide)), fun h => E5.out ((listed_set h).resolve_left (by decide)), fun h => E6.out ((listed_set h).resolve_left (by decide)), fun h => E7.out ((listed_set h).resolve_left (by decide)), fun h => E8.out ((listed_set h).resolve_left (by decide)), fun h => E9.out ((listed_set h).resolve_left (by decide)), fun h => E10.out ((listed_set h).resolve_left (by decide)), fun h => E11.out ((listed_set h).resolve_left (by decide)), fun h => E12.out ((listed_set h).resolve_left (by decide)), fun h => E13.out ((listed_set h).resolve_left (by decide))⟩
              | 2, hio =>
                simp only [List.getElem?_toArray, List.getElem?_cons_succ, List.getElem?_cons_zero, Option.some.injEq] at hio
                subst hio
                have p1 := PRE.out ⟨1, .data⟩ (by simp) rfl
                obtain rfl := E1.out p1
                obtain ⟨z0, z1, z2, -, -⟩ := CC.out W HB.out
                refine wpOp_by rfl fun K HK => ?_
                go_wp2_with (fail)
                exact HK.out _ _ ⟨by rw [Array.size_setIfInBounds, HS.out], HB.out, _, _, _, _, _, _, _, _, _, _, _, _, _, _, rfl, fun h => E0.out ((listed_set h).resolve_left (by decide)), fun _ => rfl, fun _ => rfl, fun h => E3.out ((listed_set h).resolve_left (by decide)), fun h => E4.out ((listed_set h).resolve_left (by decide)), fun h => E5.out ((listed_set h).resolve_left (by decide)), fun h => E6.out ((listed_set h).resolve_left (by decide)), fun h => E7.out ((listed_set h).resolve_left (by decide)), fun h => E8.out ((listed_set h).resolve_left (by decide)), fun h => E9.out ((listed_set h).resolve_left (by decide)), fun h => E10.out ((listed_set h).resolve_left (by decide)), fun h => E11.out ((listed_set h).resolve_left (by decide)), fun h => E12.out ((listed_set h).resolve_left (by decide)), fun h => E13.out ((listed_set h).resolve_left (by decide))⟩
              | 3, hio =>
                clear hio
                refine wpOp_by rfl fun K HK => ?_
                go_wp2_with (fail)
                exact HK.out _ _ ⟨by rw [Array.size_setIfInBounds, HS.out], HB.out, _, _, _, _, _, _, _, _, _, _, _, _, _, _, rfl, fun h => E0.out ((listed_set h).resolve_left (by decide)), fun h => E1.out ((listed_set h).resolve_left (by decide)), fun h => E2.out ((listed_set h).resolve_left (by decide)), fun _ => rfl, fun h => E4.out ((listed_set h).resolve_left (by decide)), fun h => E5.out ((listed_set h).resolve_left (by decide)), fun h => E6.out ((listed_set h).resolve_left (by decide)), fun h => E7.out ((listed_set h).resolve_left (by decide)), fun h => E8.out ((listed_set h).resolve_left (by decide)), fun h => E9.out ((listed_set h).resolve_left (by decide)), fun h => E10.out ((listed_set h).resolve_left (by decide)), fun h => E11.out ((listed_set h).resolve_left (by decide)), fun h => E12.out ((listed_set h).resolve_left (by decide)), fun h => E13.out ((listed_set h).resolve_left (by decide))⟩
              | 4, hio =>
                clear hio
                refine wpOp_by rfl fun K HK => ?_
                go_wp2_with (fail)
                exact HK.out _ _ ⟨by rw [Array.size_setIfInBounds, HS.out], HB.out, _, _, _, _, _, _, _, _, _, _, _, _, _, _, rfl, fun h => E0.out ((listed_set h).resolve_left (by decide)), fun h => E1.out ((listed_set h).resolve_left (by decide)), fun h => E2.out ((listed_set h).resolve_left (by decide)), fun h => E3.out ((listed_set h).resolve_left (by decide)), fun _ => rfl, fun h => E5.out ((listed_set h).resolve_left (by decide)), fun h => E6.out ((listed_set h).resolve_left (by decide)), fun h => E7.out ((listed_set h).resolve_left (by decide)), fun h => E8.out ((listed_set h).resolve_left (by decide)), fun h => E9.out ((listed_set h).resolve_left (by decide)), fun h => E10.out ((listed_set h).resolve_left (by decide)), fun h => E11.out ((listed_set h).resolve_left (by decide)), fun h => E12.out ((listed_set h).resolve_left (by decide)), fun h => E13.out ((listed_set h).resolve_left (by decide))⟩
              | 5, hio =>
                simp only [List.getElem?_toArray, List.getElem?_cons_succ, List.getElem?_cons_zero, Option.some.injEq] at hio
                subst hio
                have p3 := PRE.out ⟨3, .data⟩ (by simp) rfl
                have p4 := PRE.out ⟨4, .data⟩ (by simp) rfl
                obtain rfl := E3.out p3
                obtain rfl := E4.out p4
                refine wpOp_by rfl fun K HK => ?_
                go_wp2_with (fail)
                exact HK.out _ _ ⟨by rw [Array.size_setIfInBounds, HS.out], HB.out, _, _, _, _, _, _, _, _, _, _, _, _, _, _, rfl, fun h => E0.out ((listed_set h).resolve_left (by decide)), fun h => E1.out ((listed_set h).resolve_left (by decide)), fun h => E2.out ((listed_set h).resolve_left (by decide)), fun _ => rfl, fun _ => rfl, fun _ => rfl, fun h => E6.out ((listed_set h).resolve_left (by decide)), fun h => E7.out ((listed_set h).resolve_left (by decide)), fun h => E8.out ((listed_set h).resolve_left (by decide)), fun h => E9.out ((listed_set h).resolve_left (by decide)), fun h => E10.out ((listed_set h).resolve_left (by decide)), fun h => E11.out ((listed_set h).resolve_left (by decide)), fun h => E12.out ((listed_set h).resolve_left (by decide)), fun h => E13.out ((listed_set h).resolve_left (by decide))⟩
              | 6, hio =>
                simp only [List.getElem?_toArray, List.getElem?_cons_succ, List.getElem?_cons_zero, Option.some.injEq] at hio
                subst hio
                have p5 := PRE.out ⟨5, .data⟩ (by simp) rfl
                obtain rfl := E5.out p5
                obtain ⟨z0, z1, z2, -, -⟩ := CC.out W HB.out
                refine wpOp_by rfl fun K HK => ?_
                go_wp2_with (fail)
                exact HK.out _ _ ⟨by rw [Array.size_setIfInBounds, HS.out], HB.out, _, _, _, _, _, _, _, _, _, _, _, _, _, _, rfl, fun h => E0.out ((listed_set h).resolve_left (by decide)), fun h => E1.out ((listed_set h).resolve_left (by decide)), fun h => E2.out ((listed_set h).resolve_left (by decide)), fun h => E3.out ((listed_set h).resolve_left (by decide)), fun h => E4.out ((listed_set h).resolve_left (by decide)), fun _ => rfl, fun _ => rfl, fun h => E7.out ((listed_set h).resolve_left (by decide)), fun h => E8.out ((listed_set h).resolve_left (by decide)), fun h => E9.out ((listed_set h).resolve_left (by decide)), fun h => E10.out ((listed_set h).resolve_left (by decide)), fun h => E11.out ((listed_set h).resolve_left (by decide)), fun h => E12.out ((listed_set h).resolve_left (by decide)), fun h => E13.out ((listed_set h).resolve_left (by decide))⟩
              | 7, hio =>
                simp only [List.getElem?_toArray, List.getElem?_cons_succ, List.getElem?_cons_zero, Option.some.injEq] at hio
                subst hio
                have p2 := PRE.out ⟨2, .data⟩ (by simp) rfl
                have p6 := PRE.out ⟨6, .data⟩ (by simp) rfl
                obtain rfl := E2.out p2
                obtain rfl := E6.out p6
                refine wpOp_by rfl fun K HK => ?_
                go_wp2_with (fail)
                exact HK.out _ _ ⟨by rw [Array.size_setIfInBounds, HS.out], HB.out, _, _, _, _, _, _, _, _, _, _, _, _, _, _, rfl, fun h => E0.out ((listed_set h).resolve_left (by decide)), fun h => E1.out ((listed_set h).resolve_left (by decide)), fun _ => rfl, fun h => E3.out ((listed_set h).resolve_left (by decide)), fun h => E4.out ((listed_set h).resolve_left (by decide)), fun h => E5.out ((listed_set h).resolve_left (by decide)), fun _ => rfl, fun _ => rfl, fun h => E8.out ((listed_set h).resolve_left (by decide)), fun h => E9.out ((listed_set h).resolve_left (by decide)), fun h => E10.out ((listed_set h).resolve_left (by decide)), fun h => E11.out ((listed_set h).resolve_left (by decide)), fun h => E12.out ((listed_set h).resolve_left (by decide)), fun h => E13.out ((listed_set h).resolve_left (by decide))⟩
              | 8, hio =>
                simp only [List.getElem?_toArray, List.getElem?_cons_succ, List.getElem?_cons_zero, Option.some.injEq] at hio
                subst hio
                have p7 := PRE.out ⟨7, .data⟩ (by simp) rfl
                obtain rfl := E7.out p7
                refine wpOp_by rfl fun K HK => ?_
                go_wp2_with (fail)
                exact HK.out _ _ ⟨by rw [Array.size_setIfInBounds, HS.out], HB.out, _, _, _, _, _, _, _, _, _, _, _, _, _, _, rfl, fun h => E0.out ((listed_set h).resolve_left (by decide)), fun h => E1.out ((listed_set h).resolve_left (by decide)), fun h => E2.out ((listed_set h).resolve_left (by decide)), fun h => E3.out ((listed_set h).resolve_left (by decide)), fun h => E4.out ((listed_set h).resolve_left (by decide)), fun h => E5.out ((listed_set h).resolve_left (by decide)), fun h => E6.out ((listed_set h).resolve_left (by decide)), fun _ => rfl, fun _ => rfl, fun h => E9.out ((listed_set h).resolve_left (by decide)), fun h => E10.out ((listed_set h).resolve_left (by decide)), fun h => E11.out ((listed_set h).resolve_left (by decide)), fun h => E12.out ((listed_set h).resolve_left (by decide)), fun h => E13.out ((listed_set h).resolve_left (by decide))⟩
              | 9, hio =>
                simp only [List.getElem?_toArray, List.getElem?_cons_succ, List.getElem?_cons_zero, Option.some.injEq] at hio
                subst hio
                have p8 := PRE.out ⟨8, .guard⟩ (by simp) rfl
                obtain rfl := E8.out p8
                obtain ⟨z0, z1, z2, -, -⟩ := CC.out W HB.out
                have DR := Lib.hid z2
                clear z0 z1 z2
                refine wpOp_by rfl fun K HK => ?_
                go_wp2_with (refine wpList_load_rowg rfl 25 _ rfl wr.heap.size rfl 25 _ _ _ DR.out Tryd.underlying25 rfl (deed_info _ rfl) ?_)
                exact HK.out _ _ ⟨by rw [Array.size_setIfInBounds, HS.out], HB.out, _, _, _, _, _, _, _, _, _, _, _, _, _, _, rfl, fun h => E0.out ((listed_set h).resolve_left (by decide)), fun h => E1.out ((listed_set h).resolve_left (by decide)), fun h => E2.out ((listed_set h).resolve_left (by decide)), fun h => E3.out ((listed_set h).resolve_left (by decide)), fun h => E4.out ((listed_set h).resolve_left (by decide)), fun h => E5.out ((listed_set h).resolve_left (by decide)), fun h => E6.out ((listed_set h).resolve_left (by decide)), fun h => E7.out ((listed_set h).resolve_left (by decide)), fun _ => rfl, fun _ => rfl, fun h => E10.out ((listed_set h).resolve_left (by decide)), fun h => E11.out ((listed_set h).resolve_left (by decide)), fun h => E12.out ((listed_set h).resolve_left (by decide)), fun h => E13.out ((listed_set h).resolve_left (by decide))⟩
              | 10, hio =>
                simp only [List.getElem?_toArray, List.getElem?_cons_succ, List.getElem?_cons_zero, Option.some.injEq] at hio
                subst hio
                have p9 := PRE.out ⟨9, .data⟩ (by simp) rfl
                have p8 := PRE.out ⟨8, .guard⟩ (by simp) rfl
                obtain rfl := E9.out p9
                obtain rfl := E8.out p8
                refine wpOp_by rfl fun K HK => ?_
                go_wp2_with fail
                refine Calls.mono (DTX.out _) ?_
                rintro e W' ⟨rfl, hb⟩
                have HBB := Lib.hid hb
                clear hb
                go_wp2
                exact HK.out _ _ ⟨by rw [Array.size_setIfInBounds, HS.out], HB.out.trans (HBB.out.mono HB.out.size), _, _, _, _, _, _, _, _, _, _, _, _, _, _, rfl, fun h => E0.out ((listed_set h).resolve_left (by decide)), fun h => E1.out ((listed_set h).resolve_left (by decide)), fun h => E2.out ((listed_set h).resolve_left (by decide)), fun h => E3.out ((listed_set h).resolve_left (by decide)), fun h => E4.out ((listed_set h).resolve_left (by decide)), fun h => E5.out ((listed_set h).resolve_left (by decide)), fun h => E6.out ((listed_set h).resolve_left (by decide)), fun h => E7.out ((listed_set h).resolve_left (by decide)), fun _ => rfl, fun _ => rfl, fun _ => rfl, fun h => E11.out ((listed_set h).resolve_left (by decide)), fun h => E12.out ((listed_set h).resolve_left (by decide)), fun h => E13.out ((listed_set h).resolve_left (by decide))⟩
              | 11, hio =>
                simp only [List.getElem?_toArray, List.getElem?_cons_succ, List.getElem?_cons_zero, Option.some.injEq] at hio
                subst hio
                have p8 := PRE.out ⟨8, .guard⟩ (by simp) rfl
                obtain rfl := E8.out p8
                refine wpOp_by rfl fun K HK => ?_
                go_wp2_with (fail)
                exact HK.out _ _ ⟨by rw [Array.size_setIfInBounds, HS.out], HB.out, _, _, _, _, _, _, _, _, _, _, _, _, _, _, rfl, fun h => E0.out ((listed_set h).resolve_left (by decide)), fun h => E1.out ((listed_set h).resolve_left (by decide)), fun h => E2.out ((listed_set h).resolve_left (by decide)), fun h => E3.out ((listed_set h).resolve_left (by decide)), fun h => E4.out ((listed_set h).resolve_left (by decide)), fun h => E5.out ((listed_set h).resolve_left (by decide)), fun h => E6.out ((listed_set h).resolve_left (by decide)), fun h => E7.out ((listed_set h).resolve_left (by decide)), fun _ => rfl, fun h => E9.out ((listed_set h).resolve_left (by decide)), fun h => E10.out ((listed_set h).resolve_left (by decide)), fun _ => rfl, fun h => E12.out ((listed_set h).resolve_left (by decide)), fun h => E13.out ((listed_set h).resolve_left (by decide))⟩
              | 12, hio =>
                simp only [List.getElem?_toArray, List.getElem?_cons_succ, List.getElem?_cons_zero, Option.some.injEq] at hio
                subst hio
                have p10 := PRE.out ⟨10, .data⟩ (by simp) rfl
                have p11 := PRE.out ⟨11, .data⟩ (by simp) rfl
                have p8 := PRE.out ⟨8, .guard⟩ (by simp) rfl
                obtain rfl := E10.out p10
                obtain rfl := E11.out p11
                obtain rfl := E8.out p8
                refine wpOp_by rfl fun K HK => ?_
                go_wp2_with (fail)
                exact HK.out _ _ ⟨by rw [Array.size_setIfInBounds, HS.out], HB.out, _, _, _, _, _, _, _, _, _, _, _, _, _, _, rfl, fun h => E0.out ((listed_set h).resolve_left (by decide)), fun h => E1.out ((listed_set h).resolve_left (by decide)), fun h => E2.out ((listed_set h).resolve_left (by decide)), fun h => E3.out ((listed_set h).resolve_left (by decide)), fun h => E4.out ((listed_set h).resolve_left (by decide)), fun h => E5.out ((listed_set h).resolve_left (by decide)), fun h => E6.out ((listed_set h).resolve_left (by decide)), fun h => E7.out ((listed_set h).resolve_left (by decide)), fun _ => rfl, fun h => E9.out ((listed_set h).resolve_left (by decide)), fun _ => rfl, fun _ => rfl, fun _ => rfl, fun h => E13.out ((listed_set h).resolve_left (by decide))⟩
              | 13, hio =>
                simp only [List.getElem?_toArray, List.getElem?_cons_succ, List.getElem?_cons_zero, Option.some.injEq] at hio
                subst hio
                have p8 := PRE.out ⟨8, .data⟩ (by simp) rfl
                have p12 := PRE.out ⟨12, .data⟩ (by simp) rfl
                obtain rfl := E8.out p8
                obtain rfl := E12.out p12
                refine wpOp_by rfl fun K HK => ?_
                go_wp2_with (fail)
                exact HK.out _ _ ⟨by rw [Array.size_setIfInBounds, HS.out], HB.out, _, _, _, _, _, _, _, _, _, _, _, _, _, _, rfl, fun h => E0.out ((listed_set h).resolve_left (by decide)), fun h => E1.out ((listed_set h).resolve_left (by decide)), fun h => E2.out ((listed_set h).resolve_left (by decide)), fun h => E3.out ((listed_set h).resolve_left (by decide)), fun h => E4.out ((listed_set h).resolve_left (by decide)), fun h => E5.out ((listed_set h).resolve_left (by decide)), fun h => E6.out ((listed_set h).resolve_left (by decide)), fun h => E7.out ((listed_set h).resolve_left (by decide)), fun _ => rfl, fun h => E9.out ((listed_set h).resolve_left (by decide)), fun h => E10.out ((listed_set h).resolve_left (by decide)), fun h => E11.out ((listed_set h).resolve_left (by decide)), fun _ => rfl, fun _ => rfl⟩
              | k + 14, hio => simp at hio
            case hend210 =>
              rintro listed act W1 ⟨hs, hB, x0, x1, x2, x3, x4, x5, x6, x7, x8, x9, x10, x11, x12, x13, rfl, e0, e1, e2, e3, e4, e5, e6, e7, e8, e9, e10, e11, e12, e13⟩ hall
              obtain rfl := e0 (hall 0 (by decide))
              obtain rfl := e1 (hall 1 (by decide))
              obtain rfl := e2 (hall 2 (by decide))
              obtain rfl := e3 (hall 3 (by decide))
              obtain rfl := e4 (hall 4 (by decide))
              obtain rfl := e5 (hall 5 (by decide))
              obtain rfl := e6 (hall 6 (by decide))
              obtain rfl := e7 (hall 7 (by decide))
              obtain rfl := e8 (hall 8 (by decide))
              obtain rfl := e9 (hall 9 (by decide))
              obtain rfl := e10 (hall 10 (by decide))
              obtain rfl := e11 (hall 11 (by decide))
              obtain rfl := e12 (hall 12 (by decide))
              obtain rfl := e13 (hall 13 (by decide))
              clear hs
              have BN : Hid (Below w4.heap.size w4 W1) := Lib.hid (B8.out.trans (hB.mono B8.out.size))
              clear hB hall CC
              go_wp2
              refine ⟨⟨k + 1, by omega, by omega, by go_num, BN, MS⟩, by simp [intOf]; omega⟩
        · have E1 : (q0.toList == WK.toList) = false := txt_other h0
          have MS := Lib.hid (rd_step (by omega) hR.out (sp_miss0 L0.out WE.out h0))
          clear h0
          refine wp_region_inv (by kernel_rfl) (fun listed act W => listed.size = 14 ∧ Below w8.heap.size w8 W ∧ ∃ x0 x1 x2 x3 x4 x5 x6 x7 x8 x9 x10 x11 x12 x13, act = { tmps := #[.string T, undef, .pointer (some ⟨w.heap.size, 0, none⟩), u3, .slice (some ⟨g, 0, none⟩) qn cap, .slice (some ⟨w3.heap.size, 0, none⟩) 10 10, .int .i64 (k : Int), .pointer (some ⟨wr.heap.size, 0, none⟩), .string T, .int .i64 (T.size : Int), .bool (decide ((40 : Int) < (T.size : Int))), undef, .string T, v, .slice (some ⟨w2.heap.size, 0, none⟩) 2 2, .slice (some ⟨g, 0, none⟩) qn cap, .slice (some ⟨w3.heap.size, 0, none⟩) 10 10, .int .i64 (k : Int), .bool true, u19, u20, .int .i64 (k : Int), .agg (D3 (k : Int) 0 0), .int .i64 (k : Int), .int .i64 2, .bool true, .slice (some ⟨g, 0, none⟩) qn cap, .pointer (some ⟨g, 1, none⟩), .string q1, .int .i64 A, .pointer (some ⟨wr.heap.size, 1, none⟩), .int .i64 (k : Int), .int .i64 2, .bool true, .slice (some ⟨g, 0, none⟩) qn cap, .pointer (some ⟨g, 2, none⟩), .string q2, .int .i64 B, .pointer (some ⟨wr.heap.size, 2, none⟩), x0, x1, x2, x3, x4, x5, x6, x7, x8, x9, x10, x11, x12, x13, u53, undef], defers := [] } ∧ (listed.getD 0 false = true → x0 = .slice (some ⟨g, 0, none⟩) qn cap) ∧ (listed.getD 1 false = true → x1 = .pointer (some ⟨g, 0, none⟩)) ∧ (listed.getD 2 false = true → x2 = .string q0) ∧ (listed.getD 3 false = true → x3 = .slice (some ⟨w3.heap.size, 0, none⟩) 10 10) ∧ (listed.getD 4 false = true → x4 = .int .i64 (k : Int)) ∧ (listed.getD 5 false = true → x5 = .pointer (some ⟨w3.heap.size, k, none⟩)) ∧ (listed.getD 6 false = true → x6 = .string WK) ∧ (listed.getD 7 false = true → x7 = .bool false) ∧ (listed.getD 8 false = true → x8 = .bool false) ∧ (listed.getD 9 false = true → x9 = undef) ∧ (listed.getD 10 false = true → x10 = undef) ∧ (listed.getD 11 false = true → x11 = undef) ∧ (listed.getD 12 false = true → x12 = undef) ∧ (listed.getD 13 false = true → x13 = .bool false)) (by kernel_rfl) ?h0200 (fun _ _ _ h => h.1) ?hstep200 ?hend200
          case h0200 =>
            refine ⟨rfl, (Below.refl _ _).drew, _, _, _, _, _, _, _, _, _, _, _, _, _, _, rfl, ?_, ?_, ?_, ?_, ?_, ?_, ?_, ?_, ?_, ?_, ?_, ?_, ?_, ?_⟩ <;> (intro h; exact absurd h (by decide))
          case hstep200 =>
            rintro listed act W i o ⟨hs, hB, x0, x1, x2, x3, x4, x5, x6, x7, x8, x9, x10, x11, x12, x13, rfl, e0, e1, e2, e3, e4, e5, e6, e7, e8, e9, e10, e11, e12, e13⟩ hun hio hpre
            have HB := Lib.hid hB
            have E0 := Lib.hid e0
            have E1 := Lib.hid e1
            have E2 := Lib.hid e2
            have E3 := Lib.hid e3
            have E4 := Lib.hid e4
            have E5 := Lib.hid e5
            have E6 := Lib.hid e6
            have E7 := Lib.hid e7
            have E8 := Lib.hid e8
            have E9 := Lib.hid e9
            have E10 := Lib.hid e10
            have E11 := Lib.hid e11
            have E12 := Lib.hid e12
            have E13 := Lib.hid e13
            have HS := Lib.hid hs
            have HU := Lib.hid hun
            have PRE := Lib.hid hpre
            clear e0 e1 e2 e3 e4 e5 e6 e7 e8 e9 e10 e11 e12 e13 hs hpre hB hun
            match i, hio with
            | 0, hio =>
              clear hio
              refine wpOp_by rfl fun K HK => ?_
              go_wp2_with (fail)
              exact HK.out _ _ ⟨by rw [Array.size_setIfInBounds, HS.out], HB.out, _, _, _, _, _, _, _, _, _, _, _, _, _, _, rfl, fun _ => rfl, fun h => E1.out ((listed_set h).resolve_left (by decide)), fun h => E2.out ((listed_set h).resolve_left (by decide)), fun h => E3.out ((listed_set h).resolve_left (by decide)), fun h => E4.out ((listed_set h).resolve_left (by decide)), fun h => E5.out ((listed_set h).resolve_left (by decide)), fun h => E6.out ((listed_set h).resolve_left (by decide)), fun h => E7.out ((listed_set h).resolve_left (by decide)), fun h => E8.out ((listed_set h).resolve_left (by decide)), fun h => E9.out ((listed_set h).resolve_left (by decide)), fun h => E10.out ((listed_set h).resolve_left (by decide)), fun h => E11.out ((listed_set h).resolve_left (by decide)), fun h => E12.out ((listed_set h).resolve_left (by decide)), fun h => E13.out ((listed_set h).resolve_left (by decide))⟩
            | 1, hio =>
              simp only [List.getElem?_toArray, List.getElem?_cons_succ, List.getElem?_cons_zero, Option.some.injEq] at hio
              subst hio
              have p0 := PRE.out ⟨0, .data⟩ (by simp) rfl
              obtain rfl := E0.out p0
              refine wpOp_by rfl fun K HK => ?_
              go_wp2_with (fail)
              exact HK.out _ _ ⟨by rw [Array.size_setIfInBounds, HS.out], HB.out, _, _, _, _, _, _, _, _, _, _, _, _, _, _, rfl, fun _ => rfl, fun _ => rfl, fun h => E2.out ((listed_set h).resolve_left (by decide)), fun h => E3.out ((listed_set h).resolve_left (by decide)), fun h => E4.out ((listed_set h).resolve_left (by decide)), fun h => E5.out ((listed_set h).resolve_left (by decide)), fun h => E6.out ((listed_set h).resolve_left (by decide)), fun h => E7.out ((listed_set h).resolve_left (by decide)), fun h => E8.out ((listed_set h).resolve_left (by decide)), fun h => E9.out ((listed_set h).resolve_left (by decide)), fun h => E10.out ((listed_set h).resolve_left (by decide)), fun h => E11.out ((listed_set h).resolve_left (by decide)), fun h => E12.out ((listed_set h).resolve_left (by decide)), fun h => E13.out ((listed_set h).resolve_left (by decide))⟩
            | 2, hio =>
              simp only [List.getElem?_toArray, List.getElem?_cons_succ, List.getElem?_cons_zero, Option.some.injEq] at hio
              subst hio
              have p1 := PRE.out ⟨1, .data⟩ (by simp) rfl
              obtain rfl := E1.out p1
              obtain ⟨z0, z1, z2, -, -⟩ := CC.out W HB.out
              refine wpOp_by rfl fun K HK => ?_
              go_wp2_with (fail)
              exact HK.out _ _ ⟨by rw [Array.size_setIfInBounds, HS.out], HB.out, _, _, _, _, _, _, _, _, _, _, _, _, _, _, rfl, fun h => E0.out ((listed_set h).resolve_left (by decide)), fun _ => rfl, fun _ => rfl, fun h => E3.out ((listed_set h).resolve_left (by decide)), fun h => E4.out ((listed_set h).resolve_left (by decide)), fun h => E5.out ((listed_set h).resolve_left (by decide)), fun h => E6.out ((listed_set h).resolve_left (by decide)), fun h => E7.out ((listed_set h).resolve_left (by decide)), fun h => E8.out ((listed_set h).resolve_left (by decide)), fun h => E9.out ((listed_set h).resolve_left (by decide)), fun h => E10.out ((listed_set h).resolve_left (by decide)), fun h => E11.out ((listed_set h).resolve_left (by decide)), fun h => E12.out ((listed_set h).resolve_left (by decide)), fun h => E13.out ((listed_set h).resolve_left (by decide))⟩
            | 3, hio =>
              clear hio
              refine wpOp_by rfl fun K HK => ?_
              go_wp2_with (fail)
              exact HK.out _ _ ⟨by rw [Array.size_setIfInBounds, HS.out], HB.out, _, _, _, _, _, _, _, _, _, _, _, _, _, _, rfl, fun h => E0.out ((listed_set h).resolve_left (by decide)), fun h => E1.out ((listed_set h).resolve_left (by decide)), fun h => E2.out ((listed_set h).resolve_left (by decide)), fun _ => rfl, fun h => E4.out ((listed_set h).resolve_left (by decide)), fun h => E5.out ((listed_set h).resolve_left (by decide)), fun h => E6.out ((listed_set h).resolve_left (by decide)), fun h => E7.out ((listed_set h).resolve_left (by decide)), fun h => E8.out ((listed_set h).resolve_left (by decide)), fun h => E9.out ((listed_set h).resolve_left (by decide)), fun h => E10.out ((listed_set h).resolve_left (by decide)), fun h => E11.out ((listed_set h).resolve_left (by decide)), fun h => E12.out ((listed_set h).resolve_left (by decide)), fun h => E13.out ((listed_set h).resolve_left (by decide))⟩
            | 4, hio =>
              clear hio
              refine wpOp_by rfl fun K HK => ?_
              go_wp2_with (fail)
              exact HK.out _ _ ⟨by rw [Array.size_setIfInBounds, HS.out], HB.out, _, _, _, _, _, _, _, _, _, _, _, _, _, _, rfl, fun h => E0.out ((listed_set h).resolve_left (by decide)), fun h => E1.out ((listed_set h).resolve_left (by decide)), fun h => E2.out ((listed_set h).resolve_left (by decide)), fun h => E3.out ((listed_set h).resolve_left (by decide)), fun _ => rfl, fun h => E5.out ((listed_set h).resolve_left (by decide)), fun h => E6.out ((listed_set h).resolve_left (by decide)), fun h => E7.out ((listed_set h).resolve_left (by decide)), fun h => E8.out ((listed_set h).resolve_left (by decide)), fun h => E9.out ((listed_set h).resolve_left (by decide)), fun h => E10.out ((listed_set h).resolve_left (by decide)), fun h => E11.out ((listed_set h).resolve_left (by decide)), fun h => E12.out ((listed_set h).resolve_left (by decide)), fun h => E13.out ((listed_set h).resolve_left (by decide))⟩
            | 5, hio =>
              simp only [List.getElem?_toArray, List.getElem?_cons_succ, List.getElem?_cons_zero, Option.some.injEq] at hio
              subst hio
              have p3 := PRE.out ⟨3, .data⟩ (by simp) rfl
              have p4 := PRE.out ⟨4, .data⟩ (by simp) rfl
              obtain rfl := E3.out p3
              obtain rfl := E4.out p4
              refine wpOp_by rfl fun K HK => ?_
              go_wp2_with (fail)
              exact HK.out _ _ ⟨by rw [Array.size_setIfInBounds, HS.out], HB.out, _, _, _, _, _, _, _, _, _, _, _, _, _, _, rfl, fun h => E0.out ((listed_set h).resolve_left (by decide)), fun h => E1.out ((listed_set h).resolve_left (by decide)), fun h => E2.out ((listed_set h).resolve_left (by decide)), fun _ => rfl, fun _ => rfl, fun _ => rfl, fun h => E6.out ((listed_set h).resolve_left (by decide)), fun h => E7.out ((listed_set h).resolve_left (by decide)), fun h => E8.out ((listed_set h).resolve_left (by decide)), fun h => E9.out ((listed_set h).resolve_left (by decide)), fun h => E10.out ((listed_set h).resolve_left (by decide)), fun h => E11.out ((listed_set h).resolve_left (by decide)), fun h => E12.out ((listed_set h).resolve_left (by decide)), fun h => E13.out ((listed_set h).resolve_left (by decide))⟩
            | 6, hio =>
              simp only [List.getElem?_toArray, List.getElem?_cons_succ, List.getElem?_cons_zero, Option.some.injEq] at hio
              subst hio
              have p5 := PRE.out ⟨5, .data⟩ (by simp) rfl
              obtain rfl := E5.out p5
              obtain ⟨z0, z1, z2, -, -⟩ := CC.out W HB.out
              refine wpOp_by rfl fun K HK => ?_
              go_wp2_with (fail)
              exact HK.out _ _ ⟨by rw [Array.size_setIfInBounds, HS.out], HB.out, _, _, _, _, _, _, _, _, _, _, _, _, _, _, rfl, fun h => E0.out ((listed_set h).resolve_left (by decide)), fun h => E1.out ((listed_set h).resolve_left (by decide)), fun h => E2.out ((listed_set h).resolve_left (by decide)), fun h => E3.out ((listed_set h).resolve_left (by decide)), fun h => E4.out ((listed_set h).resolve_left (by decide)), fun _ => rfl, fun _ => rfl, fun h => E7.out ((listed_set h).resolve_left (by decide)), fun h => E8.out ((listed_set h).resolve_left (by decide)), fun h => E9.out ((listed_set h).resolve_left (by decide)), fun h => E10.out ((listed_set h).resolve_left (by decide)), fun h => E11.out ((listed_set h).resolve_left (by decide)), fun h => E12.out ((listed_set h).resolve_left (by decide)), fun h => E13.out ((listed_set h).resolve_left (by decide))⟩
            | 7, hio =>
              simp only [List.getElem?_toArray, List.getElem?_cons_succ, List.getElem?_cons_zero, Option.some.injEq] at hio
              subst hio
              have p2 := PRE.out ⟨2, .data⟩ (by simp) rfl
              have p6 := PRE.out ⟨6, .data⟩ (by simp) rfl
              obtain rfl := E2.out p2
              obtain rfl := E6.out p6
              refine wpOp_by rfl fun K HK => ?_
              go_wp2_with (fail)
              exact HK.out _ _ ⟨by rw [Array.size_setIfInBounds, HS.out], HB.out, _, _, _, _, _, _, _, _, _, _, _, _, _, _, rfl, fun h => E0.out ((listed_set h).resolve_left (by decide)), fun h => E1.out ((listed_set h).resolve_left (by decide)), fun _ => rfl, fun h => E3.out ((listed_set h).resolve_left (by decide)), fun h => E4.out ((listed_set h).resolve_left (by decide)), fun h => E5.out ((listed_set h).resolve_left (by decide)), fun _ => rfl, fun _ => rfl, fun h => E8.out ((listed_set h).resolve_left (by decide)), fun h => E9.out ((listed_set h).resolve_left (by decide)), fun h => E10.out ((listed_set h).resolve_left (by decide)), fun h => E11.out ((listed_set h).resolve_left (by decide)), fun h => E12.out ((listed_set h).resolve_left (by decide)), fun h => E13.out ((listed_set h).resolve_left (by decide))⟩
            | 8, hio =>
              simp only [List.getElem?_toArray, List.getElem?_cons_succ, List.getElem?_cons_zero, Option.some.injEq] at hio
              subst hio
              have p7 := PRE.out ⟨7, .data⟩ (by simp) rfl
              obtain rfl := E7.out p7
              refine wpOp_by rfl fun K HK => ?_
              go_wp2_with (fail)
              exact HK.out _ _ ⟨by rw [Array.size_setIfInBounds, HS.out], HB.out, _, _, _, _, _, _, _, _, _, _, _, _, _, _, rfl, fun h => E0.out ((listed_set h).resolve_left (by decide)), fun h => E1.out ((listed_set h).resolve_left (by decide)), fun h => E2.out ((listed_set h).resolve_left (by decide)), fun h => E3.out ((listed_set h).resolve_left (by decide)), fun h => E4.out ((listed_set h).resolve_left (by decide)), fun h => E5.out ((listed_set h).resolve_left (by decide)), fun h => E6.out ((listed_set h).resolve_left (by decide)), fun _ => rfl, fun _ => rfl, fun h => E9.out ((listed_set h).resolve_left (by decide)), fun h => E10.out ((listed_set h).resolve_left (by decide)), fun h => E11.out ((listed_set h).resolve_left (by decide)), fun h => E12.out ((listed_set h).resolve_left (by decide)), fun h => E13.out ((listed_set h).resolve_left (by decide))⟩
            | 9, hio =>
              simp only [List.getElem?_toArray, List.getElem?_cons_succ, List.getElem?_cons_zero, Option.some.injEq] at hio
              subst hio
              have p8 := PRE.out ⟨8, .guard⟩ (by simp) rfl
              obtain rfl := E8.out p8
              refine wpOp_by rfl fun K HK => ?_
              go_wp2_with (fail)
              exact HK.out _ _ ⟨by rw [Array.size_setIfInBounds, HS.out], HB.out, _, _, _, _, _, _, _, _, _, _, _, _, _, _, rfl, fun h => E0.out ((listed_set h).resolve_left (by decide)), fun h => E1.out ((listed_set h).resolve_left (by decide)), fun h => E2.out ((listed_set h).resolve_left (by decide)), fun h => E3.out ((listed_set h).resolve_left (by decide)), fun h => E4.out ((listed_set h).resolve_left (by decide)), fun h => E5.out ((listed_set h).resolve_left (by decide)), fun h => E6.out ((listed_set h).resolve_left (by decide)), fun h => E7.out ((listed_set h).resolve_left (by decide)), fun _ => rfl, fun _ => rfl, fun h => E10.out ((listed_set h).resolve_left (by decide)), fun h => E11.out ((listed_set h).resolve_left (by decide)), fun h => E12.out ((listed_set h).resolve_left (by decide)), fun h => E13.out ((listed_set h).resolve_left (by decide))⟩
            | 10, hio =>
              simp only [List.getElem?_toArray, List.getElem?_cons_succ, List.getElem?_cons_zero, Option.some.injEq] at hio
              subst hio
              have p8 := PRE.out ⟨8, .guard⟩ (by simp) rfl
              obtain rfl := E8.out p8
              refine wpOp_by rfl fun K HK => ?_
              go_wp2_with (fail)
              exact HK.out _ _ ⟨by rw [Array.size_setIfInBounds, HS.out], HB.out, _, _, _, _, _, _, _, _, _, _, _, _, _, _, rfl, fun h => E0.out ((listed_set h).resolve_left (by decide)), fun h => E1.out ((listed_set h).resolve_left (by decide)), fun h => E2.out ((listed_set h).resolve_left (by decide)), fun h => E3.out ((listed_set h).resolve_left (by decide)), fun h => E4.out ((listed_set h).resolve_left (by decide)), fun h => E5.out ((listed_set h).resolve_left (by decide)), fun h => E6.out ((listed_set h).resolve_left (by decide)), fun h => E7.out ((listed_set h).resolve_left (by decide)), fun _ => rfl, fun h => E9.out ((listed_set h).resolve_left (by decide)), fun _ => rfl, fun h => E11.out ((listed_set h).resolve_left (by decide)), fun h => E12.out ((listed_set h).resolve_left (by decide)), fun h => E13.out ((listed_set h).resolve_left (by decide))⟩
            | 11, hio =>
              simp only [List.getElem?_toArray, List.getElem?_cons_succ, List.getElem?_cons_zero, Option.some.injEq] at hio
              subst hio
              have p8 := PRE.out ⟨8, .guard⟩ (by simp) rfl
              obtain rfl := E8.out p8
              refine wpOp_by rfl fun K HK => ?_
              go_wp2_with (fail)
              exact HK.out _ _ ⟨by rw [Array.size_setIfInBounds, HS.out], HB.out, _, _, _, _, _, _, _, _, _, _, _, _, _, _, rfl, fun h => E0.out ((listed_set h).resolve_left (by decide)), fun h => E1.out ((listed_set h).resolve_left (by decide)), fun h => E2.out ((listed_set h).resolve_left (by decide)), fun h => E3.out ((listed_set h).resolve_left (by decide)), fun h => E4.out ((listed_set h).resolve_left (by decide)), fun h => E5.out ((listed_set h).resolve_left (by decide)), fun h => E6.out ((listed_set h).resolve_left (by decide)), fun h => E7.out ((listed_set h).resolve_left (by decide)), fun _ => rfl, fun h => E9.out ((listed_set h).resolve_left (by decide)), fun h => E10.out ((listed_set h).resolve_left (by decide)), fun _ => rfl, fun h => E12.out ((listed_set h).resolve_left (by decide)), fun h => E13.out ((listed_set h).resolve_left (by decide))⟩
            | 12, hio =>
              simp only [List.getElem?_toArray, List.getElem?_cons_succ, List.getElem?_cons_zero, Option.some.injEq] at hio
              subst hio
              have p8 := PRE.out ⟨8, .guard⟩ (by simp) rfl
              obtain rfl := E8.out p8
              refine wpOp_by rfl fun K HK => ?_
              go_wp2_with (fail)
              exact HK.out _ _ ⟨by rw [Array.size_setIfInBounds, HS.out], HB.out, _, _, _, _, _, _, _, _, _, _, _, _, _, _, rfl, fun h => E0.out ((listed_set h).resolve_left (by decide)), fun h => E1.out ((listed_set h).resolve_left (by decide)), fun h => E2.out ((listed_set h).resolve_left (by decide)), fun h => E3.out ((listed_set h).resolve_left (by decide)), fun h => E4.out ((listed_set h).resolve_left (by decide)), fun h => E5.out ((listed_set h).resolve_left (by decide)), fun h => E6.out ((listed_set h).resolve_left (by decide)), fun h => E7.out ((listed_set h).resolve_left (by decide)), fun _ => rfl, fun h => E9.out ((listed_set h).resolve_left (by decide)), fun h => E10.out ((listed_set h).resolve_left (by decide)), fun h => E11.out ((listed_set h).resolve_left (by decide)), fun _ => rfl, fun h => E13.out ((listed_set h).resolve_left (by decide))⟩
            | 13, hio =>
              simp only [List.getElem?_toArray, List.getElem?_cons_succ, List.getElem?_cons_zero, Option.some.injEq] at hio
              subst hio
              have p8 := PRE.out ⟨8, .data⟩ (by simp) rfl
              obtain rfl := E8.out p8
              refine wpOp_by rfl fun K HK => ?_
              go_wp2_with (fail)
              exact HK.out _ _ ⟨by rw [Array.size_setIfInBounds, HS.out], HB.out, _, _, _, _, _, _, _, _, _, _, _, _, _, _, rfl, fun h => E0.out ((listed_set h).resolve_left (by decide)), fun h => E1.out ((listed_set h).resolve_left (by decide)), fun h => E2.out ((listed_set h).resolve_left (by decide)), fun h => E3.out ((listed_set h).resolve_left (by decide)), fun h => E4.out ((listed_set h).resolve_left (by decide)), fun h => E5.out ((listed_set h).resolve_left (by decide)), fun h => E6.out ((listed_set h).resolve_left (by decide)), fun h => E7.out ((listed_set h).resolve_left (by decide)), fun _ => rfl, fun h => E9.out ((listed_set h).resolve_left (by decide)), fun h => E10.out ((listed_set h).resolve_left (by decide)), fun h => E11.out ((listed_set h).resolve_left (by decide)), fun h => E12.out ((listed_set h).resolve_left (by decide)), fun _ => rfl⟩
            | k + 14, hio => simp at hio
          case hend200 =>
            rintro listed act W1 ⟨hs, hB, x0, x1, x2, x3, x4, x5, x6, x7, x8, x9, x10, x11, x12, x13, rfl, e0, e1, e2, e3, e4, e5, e6, e7, e8, e9, e10, e11, e12, e13⟩ hall
            obtain rfl := e0 (hall 0 (by decide))
            obtain rfl := e1 (hall 1 (by decide))
            obtain rfl := e2 (hall 2 (by decide))
            obtain rfl := e3 (hall 3 (by decide))
            obtain rfl := e4 (hall 4 (by decide))
            obtain rfl := e5 (hall 5 (by decide))
            obtain rfl := e6 (hall 6 (by decide))
            obtain rfl := e7 (hall 7 (by decide))
            obtain rfl := e8 (hall 8 (by decide))
            obtain rfl := e9 (hall 9 (by decide))
            obtain rfl := e10 (hall 10 (by decide))
            obtain rfl := e11 (hall 11 (by decide))
            obtain rfl := e12 (hall 12 (by decide))
            obtain rfl := e13 (hall 13 (by decide))
            clear hs
            have BN : Hid (Below w4.heap.size w4 W1) := Lib.hid (B8.out.trans (hB.mono B8.out.size))
            clear hB hall CC
            go_wp2
            refine ⟨⟨k + 1, by omega, by omega, by go_num, BN, MS⟩, by simp [intOf]; omega⟩
    · obtain rfl : k = 10 := by omega
      have tk : ¬ ((10 : Nat) : Int) ≤ 9 := by omega
      have K0 := Lib.hid cr
      have KB := Lib.hid (B4.out.trans (hB.out.mono (Nat.le_of_lt SZ4.out.1)))
      clear c0 c1 c2 cn cr
      go_wp2_with (refine wpList_store_row rfl 25 _ _ rfl w.heap.size #[Value.int .i64 0, Value.int .i64 0, Value.int .i64 0] rfl rfl 25 _ K0.out (deed_info _ rfl) rfl (row3_oneD _ _ _) ?_)
      refine bodyPost_ret (v := .tuple #[.agg #[Value.int .i64 0, Value.int .i64 0, Value.int .i64 0], .int .i64 5]) ?_ rfl ⟨by rw [hR.out]; rfl, ?_⟩
      · exact results_cell_tmp_rowF Tryd.results9 _ _ w.heap.size _ _ _ _ rfl (setRow_heap _ _ _ _ _ _ K0.out) Tryd.underlying25 rfl (deed_info _ rfl)
      · exact below_setRow KB.out (by omega) _
end Go.Proofs.YtkijgadkgfapgaaDoor
