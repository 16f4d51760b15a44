/-
  CONTRACTS: manners of deeds; deeds that are valid, by the program.
-/
import Derived.Test.YtkijgadkgfapgaaDoorYh
import Derived.Test.YtkijgadkgfapgaaDoorRi
namespace Go.Proofs.YtkijgadkgfapgaaDoor
open Go.ChangeShapes Go.WideShapes Go.ChangeAt Go.RowKit
/-- the manners of all kinds -/
def mnA : Array Value := #[Value.string { data := #[] }, Value.int IntKind.i64 0, Value.nilFunc, Value.string { data := #[103, 105, 118, 101] }, Value.int IntKind.i64 1, Value.func (Fn.func 50) #[] #[], Value.string { data := #[119, 111, 114, 107] }, Value.int IntKind.i64 1, Value.func (Fn.func 51) #[] #[], Value.string { data := #[100, 101, 108, 105, 118, 101, 114] }, Value.int IntKind.i64 1, Value.func (Fn.func 52) #[] #[], Value.string { data := #[99, 111, 112, 121] }, Value.int IntKind.i64 1, Value.func (Fn.func 53) #[] #[], Value.string { data := #[100, 114, 111, 112] }, Value.int IntKind.i64 1, Value.func (Fn.func 54) #[] #[], Value.string { data := #[115, 112, 111, 105, 108] }, Value.int IntKind.i64 2, Value.func (Fn.func 55) #[] #[], Value.string { data := #[115, 121, 110, 99] }, Value.int IntKind.i64 0, Value.func (Fn.func 56) #[] #[], Value.string { data := #[99, 114, 97, 115, 104] }, Value.int IntKind.i64 0, Value.func (Fn.func 57) #[] #[], Value.string { data := #[113, 117, 105, 116] }, Value.int IntKind.i64 1, Value.func (Fn.func 58) #[] #[]]
theorem mn_info (A : Array Value) (h : A.size = 30) : (Tryd.prog.info? 66).map (·.size) = some A.size := by rw [h]; kernel_rfl
theorem mn1_info (A : Array Value) (h : A.size = 3) : (Tryd.prog.info? 65).map (·.size) = some A.size := by rw [h]; kernel_rfl
theorem mnA_size : mnA.size = 30 := rfl
theorem mnA_cells : mnA.all (·.oneCell') = true := by simp [mnA, Value.oneCell']
set_option maxRecDepth 20000 in
set_option maxHeartbeats 4000000 in
theorem manners_any (w : World) :
    Calls Tryd.prog 30 #[] w fun e w' => e = .returned (.agg mnA) ∧ Below w.heap.size w w' := by
  obtain ⟨w1, hw1⟩ : ∃ w1, w.alloc (.cells #[Value.string { data := #[] }, Value.int IntKind.i64 0, Value.nilFunc, Value.string { data := #[] }, Value.int IntKind.i64 0, Value.nilFunc, Value.string { data := #[] }, Value.int IntKind.i64 0, Value.nilFunc, Value.string { data := #[] }, Value.int IntKind.i64 0, Value.nilFunc, Value.string { data := #[] }, Value.int IntKind.i64 0, Value.nilFunc, Value.string { data := #[] }, Value.int IntKind.i64 0, Value.nilFunc, Value.string { data := #[] }, Value.int IntKind.i64 0, Value.nilFunc, Value.string { data := #[] }, Value.int IntKind.i64 0, Value.nilFunc, Value.string { data := #[] }, Value.int IntKind.i64 0, Value.nilFunc, Value.string { data := #[] }, Value.int IntKind.i64 0, Value.nilFunc] 66) = w1 := ⟨_, rfl⟩
  have H0 : Hid (w1.heap[w.heap.size]? = some (.cells #[Value.string { data := #[] }, Value.int IntKind.i64 0, Value.nilFunc, Value.string { data := #[] }, Value.int IntKind.i64 0, Value.nilFunc, Value.string { data := #[] }, Value.int IntKind.i64 0, Value.nilFunc, Value.string { data := #[] }, Value.int IntKind.i64 0, Value.nilFunc, Value.string { data := #[] }, Value.int IntKind.i64 0, Value.nilFunc, Value.string { data := #[] }, Value.int IntKind.i64 0, Value.nilFunc, Value.string { data := #[] }, Value.int IntKind.i64 0, Value.nilFunc, Value.string { data := #[] }, Value.int IntKind.i64 0, Value.nilFunc, Value.string { data := #[] }, Value.int IntKind.i64 0, Value.nilFunc, Value.string { data := #[] }, Value.int IntKind.i64 0, Value.nilFunc] 66 (0, 0))) := Lib.hid (by rw [← hw1]; exact World.alloc_heap_new w _)
  have B0 : Hid (Below w.heap.size w w1) := Lib.hid (by rw [← hw1]; exact (Below.refl _ w).alloc (Nat.le_refl _) _)
  have M : Hid (#[Value.string { data := #[] }, Value.int IntKind.i64 0, Value.nilFunc, Value.string { data := #[103, 105, 118, 101] }, Value.int IntKind.i64 1, Value.func (Fn.func 50) #[] #[], Value.string { data := #[119, 111, 114, 107] }, Value.int IntKind.i64 1, Value.func (Fn.func 51) #[] #[], Value.string { data := #[100, 101, 108, 105, 118, 101, 114] }, Value.int IntKind.i64 1, Value.func (Fn.func 52) #[] #[], Value.string { data := #[99, 111, 112, 121] }, Value.int IntKind.i64 1, Value.func (Fn.func 53) #[] #[], Value.string { data := #[100, 114, 111, 112] }, Value.int IntKind.i64 1, Value.func (Fn.func 54) #[] #[], Value.string { data := #[115, 112, 111, 105, 108] }, Value.int IntKind.i64 2, Value.func (Fn.func 55) #[] #[], Value.string { data := #[115, 121, 110, 99] }, Value.int IntKind.i64 0, Value.func (Fn.func 56) #[] #[], Value.string { data := #[99, 114, 97, 115, 104] }, Value.int IntKind.i64 0, Value.func (Fn.func 57) #[] #[], Value.string { data := #[113, 117, 105, 116] }, Value.int IntKind.i64 1, Value.func (Fn.func 58) #[] #[]] = mnA) := Lib.hid rfl
  have MS := Lib.hid mnA_size
  have MC := Lib.hid mnA_cells
  generalize mnA = m at M MS MC ⊢
  go_enter Tryd.func30, Tryd.ntmps30
  go_wp2_with (rw [M.out]; refine wpList_store_row rfl 66 _ _ rfl w.heap.size m rfl rfl 66 _ H0.out (mn_info _ MS.out) (by rw [MS.out]; rfl) MC.out ?_)
  refine bodyPost_ret (v := .agg m) ?_ rfl ⟨rfl, ?_⟩
  · exact results_cell_row Tryd.results30 _ _ w.heap.size _ _ _ _ rfl (setRow_heap _ _ _ _ _ _ H0.out) Tryd.underlying66 rfl (mn_info _ MS.out)
  · exact below_setRow B0.out (Nat.le_refl _) _
set_option maxRecDepth 20000 in
set_option maxHeartbeats 4000000 in
theorem numbersD_any (k a b : Int) (w : World) :
    Calls Tryd.prog 31 #[.agg (D3 k a b)] w fun e w' => e = .returned (.agg #[.int .i64 a, .int .i64 b]) ∧ Below w.heap.size w w' := by
  go_enter Tryd.func31, Tryd.ntmps31
  go_wp2
  exact bodyPost_ret (v := .agg #[.int .i64 a, .int .i64 b]) (by simp [results, Tryd.results31, go_sem]) rfl ⟨rfl, ((Below.refl _ w).alloc (Nat.le_refl _) _).alloc (by simp) _⟩
/-- the word of a kind -/
def wdD (k : Int) : ByteArray := if k = 1 then { data := #[103, 105, 118, 101] } else if k = 2 then { data := #[119, 111, 114, 107] } else if k = 3 then { data := #[100, 101, 108, 105, 118, 101, 114] } else if k = 4 then { data := #[99, 111, 112, 121] } else if k = 5 then { data := #[100, 114, 111, 112] } else if k = 6 then { data := #[115, 112, 111, 105, 108] } else if k = 7 then { data := #[115, 121, 110, 99] } else if k = 8 then { data := #[99, 114, 97, 115, 104] } else { data := #[113, 117, 105, 116] }
/-- what does a deed of a kind -/
def fnD (k : Int) : Value := if k = 1 then Value.func (Fn.func 50) #[] #[] else if k = 2 then Value.func (Fn.func 51) #[] #[] else if k = 3 then Value.func (Fn.func 52) #[] #[] else if k = 4 then Value.func (Fn.func 53) #[] #[] else if k = 5 then Value.func (Fn.func 54) #[] #[] else if k = 6 then Value.func (Fn.func 55) #[] #[] else if k = 7 then Value.func (Fn.func 56) #[] #[] else if k = 8 then Value.func (Fn.func 57) #[] #[] else Value.func (Fn.func 58) #[] #[]
theorem mn_ix1 (w : World) : (Instr.index 66 (.agg mnA) (.int .i64 1)).run Tryd.prog w = .ok (.agg #[.string (wdD 1), .int .i64 (nmD 1), fnD 1]) w := by kernel_rfl
theorem mn_ix2 (w : World) : (Instr.index 66 (.agg mnA) (.int .i64 2)).run Tryd.prog w = .ok (.agg #[.string (wdD 2), .int .i64 (nmD 2), fnD 2]) w := by kernel_rfl
theorem mn_ix3 (w : World) : (Instr.index 66 (.agg mnA) (.int .i64 3)).run Tryd.prog w = .ok (.agg #[.string (wdD 3), .int .i64 (nmD 3), fnD 3]) w := by kernel_rfl
theorem mn_ix4 (w : World) : (Instr.index 66 (.agg mnA) (.int .i64 4)).run Tryd.prog w = .ok (.agg #[.string (wdD 4), .int .i64 (nmD 4), fnD 4]) w := by kernel_rfl
theorem mn_ix5 (w : World) : (Instr.index 66 (.agg mnA) (.int .i64 5)).run Tryd.prog w = .ok (.agg #[.string (wdD 5), .int .i64 (nmD 5), fnD 5]) w := by kernel_rfl
theorem mn_ix6 (w : World) : (Instr.index 66 (.agg mnA) (.int .i64 6)).run Tryd.prog w = .ok (.agg #[.string (wdD 6), .int .i64 (nmD 6), fnD 6]) w := by kernel_rfl
theorem mn_ix7 (w : World) : (Instr.index 66 (.agg mnA) (.int .i64 7)).run Tryd.prog w = .ok (.agg #[.string (wdD 7), .int .i64 (nmD 7), fnD 7]) w := by kernel_rfl
theorem mn_ix8 (w : World) : (Instr.index 66 (.agg mnA) (.int .i64 8)).run Tryd.prog w = .ok (.agg #[.string (wdD 8), .int .i64 (nmD 8), fnD 8]) w := by kernel_rfl
theorem mn_ix9 (w : World) : (Instr.index 66 (.agg mnA) (.int .i64 9)).run Tryd.prog w = .ok (.agg #[.string (wdD 9), .int .i64 (nmD 9), fnD 9]) w := by kernel_rfl
theorem mn_index (k : Int) (h1 : 1 ≤ k) (h2 : k ≤ 9) (w : World) :
    (Instr.index 66 (.agg mnA) (.int .i64 k)).run Tryd.prog w = .ok (.agg #[.string (wdD k), .int .i64 (nmD k), fnD k]) w := by
  have h : k = 1 ∨ k = 2 ∨ k = 3 ∨ k = 4 ∨ k = 5 ∨ k = 6 ∨ k = 7 ∨ k = 8 ∨ k = 9 := by omega
  rcases h with rfl | rfl | rfl | rfl | rfl | rfl | rfl | rfl | rfl
  · exact mn_ix1 w
  · exact mn_ix2 w
  · exact mn_ix3 w
  · exact mn_ix4 w
  · exact mn_ix5 w
  · exact mn_ix6 w
  · exact mn_ix7 w
  · exact mn_ix8 w
  · exact mn_ix9 w
theorem fn_one (k : Int) (h1 : 1 ≤ k) (h2 : k ≤ 9) : (fnD k).oneCell' = true := by
  have h : k = 1 ∨ k = 2 ∨ k = 3 ∨ k = 4 ∨ k = 5 ∨ k = 6 ∨ k = 7 ∨ k = 8 ∨ k = 9 := by omega
  rcases h with rfl | rfl | rfl | rfl | rfl | rfl | rfl | rfl | rfl <;> simp [fnD, Value.oneCell']
theorem mn_row {wd : ByteArray} {n : Int} {fd : Value} (h : fd.oneCell' = true) : (#[Value.string wd, Value.int .i64 n, fd] : Array Value).all (·.oneCell') = true := by
  rw [Array.all_eq_true_iff_forall_mem]
  intro x hx
  simp at hx
  rcases hx with rfl | rfl | rfl
  · rfl
  · rfl
  · exact h
theorem unl_keep {listed : Array Bool} {i j : Nat} (h : (listed.setIfInBounds i true).getD j false = false) : listed.getD j false = false := by
  cases hl : listed.getD j false with
  | false => rfl
  | true => rw [listed_keep hl] at h; cases h
theorem far_row {w w' : World} {g : Nat} {o : Obj} (hb : Below w.heap.size w w') (h : w.heap[g]? = some o) : w'.heap[g]? = some o := (hb.block g (Array.getElem?_eq_some_iff.1 h).1).trans h
theorem ix2_lo (a b : Int) (w : World) : (Instr.index 68 (.agg #[.int .i64 a, .int .i64 b]) (.int .i64 0)).run Tryd.prog w = .ok (.int .i64 a) w :=
  run_index_arr .i64 (fun j => if j = 0 then a else b) 0 Tryd.underlying68 Tryd.underlying2 (by kernel_rfl) (by decide) w
theorem ix2_hi (a b : Int) (w : World) : (Instr.index 68 (.agg #[.int .i64 a, .int .i64 b]) (.int .i64 1)).run Tryd.prog w = .ok (.int .i64 b) w :=
  run_index_arr .i64 (fun j => if j = 0 then a else b) 1 Tryd.underlying68 Tryd.underlying2 (by kernel_rfl) (by decide) w
theorem nmD_in (k : Int) : nmD k = 0 ∨ nmD k = 1 ∨ nmD k = 2 := by unfold nmD; split; exact .inl rfl; split; exact .inr (.inr rfl); exact .inr (.inl rfl)
/-- a row stored whole, in a region that draws its order -/
theorem step_store_rowY {P : Program} {ops : Array Oper} {o : Oper} {a : Act} {w : World} {K : Act → World → Prop} {Q : Exit → Act → World → Prop} {E : Prop} (hgd : o.guard = none) (ty : TypeId) (x y : Operand) (ho : o.op = .store ty x y)
    (g : Nat) (cells : Array Value) (hx : a.eval x = .pointer (some ⟨g, 0, none⟩)) (hy : a.eval y = .agg cells)
    (t : TypeId) (old : Array Value) (hg : w.heap[g]? = some (.cells old t (0, 0))) (hi : (P.info? ty).map (·.size) = some cells.size)
    (hold : old.size = cells.size) (h1 : cells.all (·.oneCell') = true)
    (h : K (a.put o.dst undef) (w.setRow g cells)) : if Region.wanted o (yielded ops a.tmps) = true then Oper.wp P o a w K Q else E := by
  have hw : Region.wanted o (yielded ops a.tmps) = true := by simp [Region.wanted, hgd]
  rw [if_pos hw]
  exact wp_store_row ty x y ho g cells hx hy t old hg hi hold h1 h
set_option maxRecDepth 20000 in
set_option maxHeartbeats 4000000 in
theorem iValidDeed_any (k a b : Int) (w : World) :
    Calls Tryd.prog 29 #[.agg (D3 k a b)] w fun e w' => e = .returned (.bool (vdB k a b)) ∧ Below w.heap.size w w' := by
  have B0 : Hid (Below w.heap.size w (w.alloc (.cells (D3 k a b) 25))) := Lib.hid ((Below.refl _ _).alloc (Nat.le_refl _) _)
  obtain ⟨w1, hw1⟩ : ∃ w1, w.alloc (.cells (D3 k a b) 25) = w1 := ⟨_, rfl⟩
  have H1 : Hid (w1.heap[w.heap.size]? = some (.cells (D3 k a b) 25 (0, 0))) := Lib.hid (by rw [← hw1]; exact World.alloc_heap_new w _)
  have L1 : Hid (w.heap.size < w1.heap.size) := Lib.hid (by rw [← hw1]; simp)
  have V : Hid (vdB k a b = (((decide (1 ≤ k) && decide (k ≤ 9)) && (decide (0 ≤ a) && decide (a ≤ 999)) && (decide (0 ≤ b) && decide (b ≤ 999))) && ((decide (0 < nmD k) || decide (a = 0)) && (decide (1 < nmD k) || decide (b = 0))))) := Lib.hid (by unfold vdB; simp only [Bool.and_assoc])
  have MA := Lib.hid manners_any
  have NA := Lib.hid (numbersD_any k a b)
  have HN := nmD_in k
  rw [hw1] at B0
  generalize vdB k a b = r at V ⊢
  by_cases k1 : k < 1
  · have R : Hid (r = false) := Lib.hid (by rw [V.out, decide_eq_false (show ¬ 1 ≤ k by omega)]; rfl)
    rw [R.out]
    have c0 : w1.cell? ⟨w.heap.size, 0, none⟩ = some (.int .i64 k) := Lib.cell_of_heap H1.out 0
    clear V R HN
    go_enter Tryd.func29, Tryd.ntmps29
    go_wp2
    go_ret
    exact ⟨rfl, B0.out⟩
  · by_cases k9 : 9 < k
    · have R : Hid (r = false) := Lib.hid (by rw [V.out, decide_eq_false (show ¬ k ≤ 9 by omega)]; simp)
      rw [R.out]
      have c0 : w1.cell? ⟨w.heap.size, 0, none⟩ = some (.int .i64 k) := Lib.cell_of_heap H1.out 0
      have k1' : 1 ≤ k := by omega
      clear V R HN k1
      go_enter Tryd.func29, Tryd.ntmps29
      go_wp2
      go_ret
      exact ⟨rfl, B0.out⟩
    · have k1' : 1 ≤ k := by omega
      have k9' : k ≤ 9 := by omega
      have MI := Lib.hid (mn_index k k1' k9')
      have CC : Hid (∀ W, Below w1.heap.size w1 W → W.cell? ⟨w.heap.size, 0, none⟩ = some (.int .i64 k)) := Lib.hid fun W hW => (hW.cell (p := ⟨w.heap.size, 0, none⟩) L1.out).trans (Lib.cell_of_heap H1.out 0)
      have hk : (decide (1 ≤ k) && decide (k ≤ 9)) = true := by simp [k1', k9']
      rw [hk, Bool.true_and] at V
      generalize mnA = M at MA MI
      have FO : Hid ((fnD k).oneCell' = true) := Lib.hid (fn_one k k1' k9')
      generalize fnD k = fd at MI FO
      generalize wdD k = wd at MI
      generalize nmD k = n at MI V HN
      have c0 := CC.out w1 (Below.refl _ _)
      have AL : Hid (∀ W o, Below w1.heap.size w1 W → Below w1.heap.size w1 (W.alloc o)) := Lib.hid fun W o h => h.alloc h.size o
      have PP : Hid (∀ W, Below w1.heap.size w1 W → Below w1.heap.size w1 W ∧ W.cell? ⟨w.heap.size, 0, none⟩ = some (.int .i64 k)) := Lib.hid fun W hW => ⟨hW, CC.out W hW⟩
      clear hk k1 k9
      go_enter Tryd.func29, Tryd.ntmps29
      go_wp2_with fail
      clear hw1
      have mi := MI.out
      refine wp_region_inv (by kernel_rfl) (fun listed act W => listed.size = 6 ∧ Below w1.heap.size w1 W ∧ ∃ x0 x1 x2 x3 x4 x5, act = { tmps := #[.agg (D3 k a b), .pointer (some ⟨w.heap.size, 0, none⟩), .bool false, x4, undef, undef, .pointer (some ⟨w.heap.size, 0, none⟩), .int .i64 k, .bool (decide (k < 1)), .bool (decide (k < 1)), .pointer (some ⟨w.heap.size, 0, none⟩), .int .i64 k, .bool (decide (9 < k)), .bool (decide (k < 1) || decide (9 < k)), x0, x1, x2, x3, undef, undef, undef, undef, undef, undef, undef, undef, undef, undef, undef, undef, undef, undef, undef, undef, undef, undef, undef, undef, undef, undef, undef], defers := [] } ∧ (listed.getD 0 false = true → x0 = .agg M) ∧ (listed.getD 1 false = true → x1 = .pointer (some ⟨w.heap.size, 0, none⟩)) ∧ (listed.getD 2 false = true → x2 = .int .i64 k) ∧ (listed.getD 3 false = true → x3 = .agg #[Value.string wd, Value.int .i64 n, fd]) ∧ (listed.getD 4 false = true → (∃ g, x4 = .pointer (some ⟨g, 0, none⟩) ∧ w1.heap.size ≤ g ∧ (listed.getD 5 false = true → W.heap[g]? = some (.cells #[Value.string wd, Value.int .i64 n, fd] 65 (0, 0))) ∧ (listed.getD 5 false = false → W.heap[g]? = some (.cells #[Value.string { data := #[] }, Value.int .i64 0, Value.nilFunc] 65 (0, 0))))) ∧ (listed.getD 5 false = true → (x5 = undef ∧ listed.getD 4 false = true))) (by kernel_rfl) ?h01 (fun _ _ _ h => h.1) ?hstep1 ?hend1
      case h01 =>
        refine ⟨rfl, (Below.refl _ _).drew, _, _, _, _, _, undef, rfl, ?_, ?_, ?_, ?_, ?_, ?_⟩ <;> (intro h; exact absurd h (by decide))
      case hstep1 =>
        rintro listed act W i o ⟨hs, hB, x0, x1, x2, x3, x4, x5, rfl, e0, e1, e2, e3, e4, e5⟩ hun hio hpre
        have HB := Lib.hid hB
        have E0 := Lib.hid e0
        have E1 := Lib.hid e1
        have E2 := Lib.hid e2
        have E3 := Lib.hid e3
        have E4 := Lib.hid e4
        have E5 := Lib.hid e5
        have HS := Lib.hid hs
        have HU := Lib.hid hun
        have PRE := Lib.hid hpre
        clear e0 e1 e2 e3 e4 e5 hs hpre hB hun
        match i, hio with
        | 0, hio =>
          clear hio
          refine wpOp_by rfl fun K HK => ?_
          go_wp2_with fail
          refine Calls.mono (MA.out _) ?_
          rintro e W' ⟨rfl, hb⟩
          have HBB := Lib.hid hb
          clear hb
          go_wp2
          exact HK.out _ _ ⟨by rw [Array.size_setIfInBounds, HS.out], HB.out.trans (HBB.out.mono HB.out.size), _, _, _, _, _, x5, rfl, fun _ => rfl, fun h => E1.out ((listed_set h).resolve_left (by decide)), fun h => E2.out ((listed_set h).resolve_left (by decide)), fun h => E3.out ((listed_set h).resolve_left (by decide)), fun h => (let ⟨g, e1, e2, e3, e4⟩ := (E4.out ((listed_set h).resolve_left (by decide))); ⟨g, e1, e2, fun h5 => far_row HBB.out (e3 ((listed_set h5).resolve_left (by decide))), fun h5 => far_row HBB.out (e4 (unl_keep h5))⟩), fun h => ⟨(E5.out ((listed_set h).resolve_left (by decide))).1, listed_keep (E5.out ((listed_set h).resolve_left (by decide))).2⟩⟩
        | 1, hio =>
          clear hio
          refine wpOp_by rfl fun K HK => ?_
          go_wp2_with (fail)
          exact HK.out _ _ ⟨by rw [Array.size_setIfInBounds, HS.out], HB.out, _, _, _, _, _, x5, rfl, fun h => E0.out ((listed_set h).resolve_left (by decide)), fun _ => rfl, fun h => E2.out ((listed_set h).resolve_left (by decide)), fun h => E3.out ((listed_set h).resolve_left (by decide)), fun h => (let ⟨g, e1, e2, e3, e4⟩ := (E4.out ((listed_set h).resolve_left (by decide))); ⟨g, e1, e2, fun h5 => e3 ((listed_set h5).resolve_left (by decide)), fun h5 => e4 (unl_keep h5)⟩), fun h => ⟨(E5.out ((listed_set h).resolve_left (by decide))).1, listed_keep (E5.out ((listed_set h).resolve_left (by decide))).2⟩⟩
        | 2, hio =>
          simp only [List.getElem?_toArray, List.getElem?_cons_succ, List.getElem?_cons_zero, Option.some.injEq] at hio
          subst hio
          have p1 := PRE.out ⟨1, .data⟩ (by simp) rfl
          obtain rfl := E1.out p1
          have c0 := CC.out W HB.out
          refine wpOp_by rfl fun K HK => ?_
          go_wp2_with (fail)
          exact HK.out _ _ ⟨by rw [Array.size_setIfInBounds, HS.out], HB.out, _, _, _, _, _, x5, rfl, fun h => E0.out ((listed_set h).resolve_left (by decide)), fun _ => rfl, fun _ => rfl, fun h => E3.out ((listed_set h).resolve_left (by decide)), fun h => (let ⟨g, e1, e2, e3, e4⟩ := (E4.out ((listed_set h).resolve_left (by decide))); ⟨g, e1, e2, fun h5 => e3 ((listed_set h5).resolve_left (by decide)), fun h5 => e4 (unl_keep h5)⟩), fun h => ⟨(E5.out ((listed_set h).resolve_left (by decide))).1, listed_keep (E5.out ((listed_set h).resolve_left (by decide))).2⟩⟩
        | 3, hio =>
          simp only [List.getElem?_toArray, List.getElem?_cons_succ, List.getElem?_cons_zero, Option.some.injEq] at hio
          subst hio
          have p0 := PRE.out ⟨0, .data⟩ (by simp) rfl
          have p2 := PRE.out ⟨2, .data⟩ (by simp) rfl
          obtain rfl := E0.out p0
          obtain rfl := E2.out p2
          have mi := MI.out
          refine wpOp_by rfl fun K HK => ?_
          go_wp2_with (fail)
          exact HK.out _ _ ⟨by rw [Array.size_setIfInBounds, HS.out], HB.out, _, _, _, _, _, x5, rfl, fun _ => rfl, fun h => E1.out ((listed_set h).resolve_left (by decide)), fun _ => rfl, fun _ => rfl, fun h => (let ⟨g, e1, e2, e3, e4⟩ := (E4.out ((listed_set h).resolve_left (by decide))); ⟨g, e1, e2, fun h5 => e3 ((listed_set h5).resolve_left (by decide)), fun h5 => e4 (unl_keep h5)⟩), fun h => ⟨(E5.out ((listed_set h).resolve_left (by decide))).1, listed_keep (E5.out ((listed_set h).resolve_left (by decide))).2⟩⟩
        | 4, hio =>
          clear hio
          refine wpOp_by rfl fun K HK => ?_
          go_wp2_with (fail)
          exact HK.out _ _ ⟨by rw [Array.size_setIfInBounds, HS.out], HB.out.alloc HB.out.size _, _, _, _, _, _, x5, rfl, fun h => E0.out ((listed_set h).resolve_left (by decide)), fun h => E1.out ((listed_set h).resolve_left (by decide)), fun h => E2.out ((listed_set h).resolve_left (by decide)), fun h => E3.out ((listed_set h).resolve_left (by decide)), fun h => ⟨W.heap.size, rfl, HB.out.size, fun h5 => absurd (E5.out ((listed_set h5).resolve_left (by decide))).2 (by rw [unlisted HU.out]; decide), fun _ => World.alloc_heap_new _ _⟩, fun h => ⟨(E5.out ((listed_set h).resolve_left (by decide))).1, listed_keep (E5.out ((listed_set h).resolve_left (by decide))).2⟩⟩
        | 5, hio =>
          simp only [List.getElem?_toArray, List.getElem?_cons_succ, List.getElem?_cons_zero, Option.some.injEq] at hio
          subst hio
          have p4 := PRE.out ⟨4, .data⟩ (by simp) rfl
          have p3 := PRE.out ⟨3, .data⟩ (by simp) rfl
          obtain rfl := E3.out p3
          obtain ⟨g, rfl, hg, -, hz⟩ := E4.out p4
          have HG := Lib.hid hg
          have HZ := Lib.hid (hz (unlisted HU.out))
          have P4 := Lib.hid p4
          clear p4 hg hz
          refine wpOp_by rfl fun K HK => ?_
          go_wp2_with (refine wpList_store_row rfl 65 _ _ rfl g #[Value.string wd, Value.int .i64 n, fd] rfl rfl 65 _ HZ.out (mn1_info _ rfl) rfl (mn_row FO.out) ?_)
          exact HK.out _ _ ⟨by rw [Array.size_setIfInBounds, HS.out], below_setRow HB.out HG.out _, _, _, _, _, _, undef, rfl, fun h => E0.out ((listed_set h).resolve_left (by decide)), fun h => E1.out ((listed_set h).resolve_left (by decide)), fun h => E2.out ((listed_set h).resolve_left (by decide)), fun _ => rfl, fun _ => ⟨g, rfl, HG.out, fun _ => setRow_heap _ _ _ _ _ _ HZ.out, fun h5 => by rw [listed_new (by rw [HS.out]; decide)] at h5; cases h5⟩, fun _ => ⟨rfl, listed_keep P4.out⟩⟩
        | k + 6, hio => simp at hio
      case hend1 =>
        rintro listed act W1 ⟨hs, hB, x0, x1, x2, x3, x4, x5, rfl, e0, e1, e2, e3, e4, e5⟩ hall
        obtain rfl := e0 (hall 0 (by decide))
        obtain rfl := e1 (hall 1 (by decide))
        obtain rfl := e2 (hall 2 (by decide))
        obtain rfl := e3 (hall 3 (by decide))
        have e4 := e4 (hall 4 (by decide))
        have e5 := e5 (hall 5 (by decide))
        clear hs
        obtain ⟨g, rfl, hg, hz, -⟩ := e4
        have HG := Lib.hid hg
        have HZ := Lib.hid (hz (hall 5 (by decide)))
        have HW := Lib.hid hB
        have WL : Hid (W1.heap.size ≤ W1.heap.size) := Lib.hid (Nat.le_refl _)
        have GL : Hid (g < W1.heap.size) := Lib.hid (Array.getElem?_eq_some_iff.1 HZ.out).1
        have DL : Hid (w.heap.size < W1.heap.size) := Lib.hid (Nat.lt_of_lt_of_le L1.out hB.size)
        have BW : Hid (Below w.heap.size w W1) := Lib.hid (B0.out.trans (hB.mono (Nat.le_of_lt L1.out)))
        have DR : Hid (W1.heap[w.heap.size]? = some (.cells (D3 k a b) 25 (0, 0))) := Lib.hid ((hB.block _ L1.out).trans H1.out)
        have d0 : W1.cell? ⟨w.heap.size, 0, none⟩ = some (.int .i64 k) := Lib.cell_of_heap DR.out 0
        have d1 : W1.cell? ⟨w.heap.size, 1, none⟩ = some (.int .i64 a) := Lib.cell_of_heap DR.out 1
        have d2 : W1.cell? ⟨w.heap.size, 2, none⟩ = some (.int .i64 b) := Lib.cell_of_heap DR.out 2
        clear hg hz hB hall e5 mi
        go_wp2_with fail
        refine (NA.out _).mono ?_
        rintro e W2 ⟨rfl, hb⟩
        have B2 := Lib.hid (BW.out.trans (hb.mono (Nat.le_of_lt DL.out)))
        have G2 : Hid (W2.heap[g]? = some (.cells #[Value.string wd, Value.int .i64 n, fd] 65 (0, 0))) := Lib.hid (far_row hb HZ.out)
        have c1 : W2.cell? ⟨g, 1, none⟩ = some (.int .i64 n) := Lib.cell_of_heap G2.out 1
        clear hb d0 d1 d2
        have ix0 := fun W => ix2_lo a b W
        have ix1 := fun W => ix2_hi a b W
        go_wp2_with fail
        refine wp_loop_rounds 3 ?_
        rw [rounds_succ]
        by_cases a0 : a < 0
        · clear HN
          have R : Hid (r = false) := Lib.hid (by rw [V.out, decide_eq_false (show ¬ (0 ≤ a) by omega)]; simp)
          clear V
          go_wp2
          go_ret
          exact ⟨by rw [R.out]; rfl, B2.out⟩
        · have a0' : 0 ≤ a := by omega
          clear a0
          by_cases a9 : 999 < a
          · clear HN
            have R : Hid (r = false) := Lib.hid (by rw [V.out, decide_eq_false (show ¬ (a ≤ 999) by omega)]; simp)
            clear V
            go_wp2
            go_ret
            exact ⟨by rw [R.out]; rfl, B2.out⟩
          · have a9' : a ≤ 999 := by omega
            clear a9
            rcases HN with hn | hn | hn
            · subst hn
              by_cases az : a = 0
              · have y1 : (a == 0) = true := by simpa using az
                have y2 : (!(a == 0)) = false := by simpa using az
                have y3 : (a != 0) = false := by simpa using az
                have AZ := Lib.hid az
                clear az
                by_cases b0 : b < 0
                · skip
                  have R : Hid (r = false) := Lib.hid (by rw [V.out, decide_eq_false (show ¬ (0 ≤ b) by omega)]; simp)
                  clear V
                  go_wp2
                  rw [rounds_succ]
                  go_wp2
                  go_ret
                  exact ⟨by rw [R.out]; rfl, B2.out⟩
                · have b0' : 0 ≤ b := by omega
                  clear b0
                  by_cases b9 : 999 < b
                  · skip
                    have R : Hid (r = false) := Lib.hid (by rw [V.out, decide_eq_false (show ¬ (b ≤ 999) by omega)]; simp)
                    clear V
                    go_wp2
                    rw [rounds_succ]
                    go_wp2
                    go_ret
                    exact ⟨by rw [R.out]; rfl, B2.out⟩
                  · have b9' : b ≤ 999 := by omega
                    clear b9
                    by_cases bz : b = 0
                    · skip
                      have z1 : (b == 0) = true := by simpa using bz
                      have z2 : (!(b == 0)) = false := by simpa using bz
                      have z3 : (b != 0) = false := by simpa using bz
                      have BZ := Lib.hid bz
                      clear bz
                      have R : Hid (r = true) := Lib.hid (by rw [V.out, decide_eq_true (show 0 ≤ a by omega), decide_eq_true (show a ≤ 999 by omega), decide_eq_true (show 0 ≤ b by omega), decide_eq_true (show b ≤ 999 by omega), decide_eq_false (show ¬ ((0 : Int) < 0) by omega), decide_eq_false (show ¬ ((1 : Int) < 0) by omega), decide_eq_true (show b = 0 from BZ.out), decide_eq_true (show a = 0 from AZ.out)]; simp)
                      clear V
                      go_wp2
                      rw [rounds_succ]
                      go_wp2
                      rw [rounds_succ]
                      go_wp2
                      go_ret
                      exact ⟨by rw [R.out]; rfl, B2.out⟩
                    · skip
                      have z1 : (b == 0) = false := by simpa using bz
                      have z2 : (!(b == 0)) = true := by simpa using bz
                      have z3 : (b != 0) = true := by simpa using bz
                      have R : Hid (r = false) := Lib.hid (by rw [V.out, decide_eq_false (show ¬ ((0 : Int) < 0) by omega), decide_eq_false (show ¬ ((1 : Int) < 0) by omega), decide_eq_false (show ¬ (b = 0) by omega)]; simp)
                      clear V
                      go_wp2
                      rw [rounds_succ]
                      go_wp2
                      go_ret
                      exact ⟨by rw [R.out]; rfl, B2.out⟩
              · have y1 : (a == 0) = false := by simpa using az
                have y2 : (!(a == 0)) = true := by simpa using az
                have y3 : (a != 0) = true := by simpa using az
                have R : Hid (r = false) := Lib.hid (by rw [V.out, decide_eq_false (show ¬ ((0 : Int) < 0) by omega), decide_eq_false (show ¬ (a = 0) by omega)]; simp)
                clear V
                go_wp2
                go_ret
                exact ⟨by rw [R.out]; rfl, B2.out⟩
            · subst hn
              by_cases b0 : b < 0
              · skip
                have R : Hid (r = false) := Lib.hid (by rw [V.out, decide_eq_false (show ¬ (0 ≤ b) by omega)]; simp)
                clear V
                go_wp2
                rw [rounds_succ]
                go_wp2
                go_ret
                exact ⟨by rw [R.out]; rfl, B2.out⟩
              · have b0' : 0 ≤ b := by omega
                clear b0
                by_cases b9 : 999 < b
                · skip
                  have R : Hid (r = false) := Lib.hid (by rw [V.out, decide_eq_false (show ¬ (b ≤ 999) by omega)]; simp)
                  clear V
                  go_wp2
                  rw [rounds_succ]
                  go_wp2
                  go_ret
                  exact ⟨by rw [R.out]; rfl, B2.out⟩
                · have b9' : b ≤ 999 := by omega
                  clear b9
                  by_cases bz : b = 0
                  · skip
                    have z1 : (b == 0) = true := by simpa using bz
                    have z2 : (!(b == 0)) = false := by simpa using bz
                    have z3 : (b != 0) = false := by simpa using bz
                    have BZ := Lib.hid bz
                    clear bz
                    have R : Hid (r = true) := Lib.hid (by rw [V.out, decide_eq_true (show 0 ≤ a by omega), decide_eq_true (show a ≤ 999 by omega), decide_eq_true (show 0 ≤ b by omega), decide_eq_true (show b ≤ 999 by omega), decide_eq_true (show (0 : Int) < 1 by omega), decide_eq_false (show ¬ ((1 : Int) < 1) by omega), decide_eq_true (show b = 0 from BZ.out)]; simp)
                    clear V
                    go_wp2
                    rw [rounds_succ]
                    go_wp2
                    rw [rounds_succ]
                    go_wp2
                    go_ret
                    exact ⟨by rw [R.out]; rfl, B2.out⟩
                  · skip
                    have z1 : (b == 0) = false := by simpa using bz
                    have z2 : (!(b == 0)) = true := by simpa using bz
                    have z3 : (b != 0) = true := by simpa using bz
                    have R : Hid (r = false) := Lib.hid (by rw [V.out, decide_eq_true (show (0 : Int) < 1 by omega), decide_eq_false (show ¬ ((1 : Int) < 1) by omega), decide_eq_false (show ¬ (b = 0) by omega)]; simp)
                    clear V
                    go_wp2
                    rw [rounds_succ]
                    go_wp2
                    go_ret
                    exact ⟨by rw [R.out]; rfl, B2.out⟩
            · subst hn
              by_cases b0 : b < 0
              · skip
                have R : Hid (r = false) := Lib.hid (by rw [V.out, decide_eq_false (show ¬ (0 ≤ b) by omega)]; simp)
                clear V
                go_wp2
                rw [rounds_succ]
                go_wp2
                go_ret
                exact ⟨by rw [R.out]; rfl, B2.out⟩
              · have b0' : 0 ≤ b := by omega
                clear b0
                by_cases b9 : 999 < b
                · skip
                  have R : Hid (r = false) := Lib.hid (by rw [V.out, decide_eq_false (show ¬ (b ≤ 999) by omega)]; simp)
                  clear V
                  go_wp2
                  rw [rounds_succ]
                  go_wp2
                  go_ret
                  exact ⟨by rw [R.out]; rfl, B2.out⟩
                · have b9' : b ≤ 999 := by omega
                  clear b9
                  skip
                  have R : Hid (r = true) := Lib.hid (by rw [V.out, decide_eq_true (show 0 ≤ a by omega), decide_eq_true (show a ≤ 999 by omega), decide_eq_true (show 0 ≤ b by omega), decide_eq_true (show b ≤ 999 by omega), decide_eq_true (show (0 : Int) < 2 by omega), decide_eq_true (show (1 : Int) < 2 by omega)]; simp)
                  clear V
                  go_wp2
                  rw [rounds_succ]
                  go_wp2
                  rw [rounds_succ]
                  go_wp2
                  go_ret
                  exact ⟨by rw [R.out]; rfl, B2.out⟩
end Go.Proofs.YtkijgadkgfapgaaDoor
