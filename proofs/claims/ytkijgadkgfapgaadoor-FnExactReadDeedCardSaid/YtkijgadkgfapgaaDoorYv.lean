/-
  CONTRACTS: ReadDeed by the program.
-/
import Derived.Test.YtkijgadkgfapgaaDoorYu
import Derived.Test.YtkijgadkgfapgaaDoorYr
namespace Go.Proofs.YtkijgadkgfapgaaDoor
open Go.ChangeShapes Go.WideShapes Go.ChangeAt Go.RowKit
theorem slice_oneS (g n c : Nat) (hn : 1 ≤ n) (hc : n ≤ c) (w : World) : (Instr.slice 59 (.slice (some ⟨g, 0, none⟩) n c) (some (.int .i64 1)) none none).run Tryd.prog w = .ok (.slice (some ⟨g, if c = 1 then 0 else 1, none⟩) (n - 1) (c - 1)) w := by
  have hs : ∀ w, (sizeOf (Tryd.prog.elem 59)).run Tryd.prog w = .ok 1 w := fun w => by kernel_rfl
  rw [run_slice_l (P := Tryd.prog) (w := w) 59 (some ⟨g, 0, none⟩) n c (by kernel_rfl) .i64 1 (by omega) (by omega), hs]
  simp only [Result.andThen_ok, sliced]
  by_cases h : c = 1
  · simp [h]
  · simp [h, Go.WideShapes.add_plain]
/-- the number of a word, by the program -/
def numQ (p : ByteArray) : Int := match smN 3 p.data.toList with | some v => (v : Int) | none => 0
def codQ (p : ByteArray) : Int := match smN 3 p.data.toList with | some _ => 0 | none => 5
theorem readDigitsQ_any (p : ByteArray) (w : World) :
    Calls Tryd.prog 36 #[.string p, .int .i64 3] w fun e w' => e = .returned (.tuple #[.int .i64 (numQ p), .int .i64 (codQ p)]) ∧ w = w' := by
  have h := readDigits3_any p w
  unfold numQ codQ
  cases hs : smN 3 p.data.toList with
  | none => rw [hs] at h; exact h
  | some v => rw [hs] at h; exact h
/-- the words, by the program -/
def wdP (T : ByteArray) : List ByteArray := Lib.splitB ⟨#[32]⟩ 0 (min 3 (T.size + 1) - 1) T
theorem wdP_len (T : ByteArray) : 1 ≤ (wdP T).length ∧ (wdP T).length ≤ min 3 (T.size + 1) := by
  have h := Lib.splitB_length_le ⟨#[32]⟩ 0 (min 3 (T.size + 1) - 1) T
  unfold wdP
  refine ⟨?_, by omega⟩
  generalize min 3 (T.size + 1) - 1 = k
  cases k with
  | zero => simp [Lib.splitB]
  | succ k => unfold Lib.splitB; split <;> simp
def numP (q : List ByteArray) (i : Nat) : Int := match q[i]? with | none => 0 | some p => numQ p
theorem numP_eq (q : List ByteArray) (i : Nat) : numP q i = nP (q.map (·.data.toList)) i := by
  unfold numP nP numQ
  rw [List.getElem?_map]
  cases q[i]? <;> rfl
theorem pr_miss {T : ByteArray} {k : Int} (h : ¬ isD T k (numP (wdP T) 1) (numP (wdP T) 2)) : rdA T k = none := by
  by_cases h4 : T.size < 4
  · exact rdA_none fun a b hh => by have := (dtT_size k a b hh.1).1; rw [hh.2] at this; omega
  · refine rdA_prog ?_
    have e : (wdP T).map (·.data.toList) = Lib.splitK [32] 0 2 T.data.toList := by
      unfold wdP
      rw [Lib.splitB_data, show min 3 (T.size + 1) - 1 = 2 from by omega]
    rw [← e, ← numP_eq, ← numP_eq]
    exact h
theorem cells_at {q : List ByteArray} {N j : Nat} {p : ByteArray} (h : q[j]? = some p) : (Lib.cellsOf q N)[j]? = some (.string p) := by
  have hj := (List.getElem?_eq_some_iff.1 h).1
  unfold Lib.cellsOf
  rw [List.getElem?_toArray, List.getElem?_append_left (by rw [List.length_map]; exact hj), List.getElem?_map, h]
  rfl
theorem numP_in {q : List ByteArray} {j : Nat} {p : ByteArray} (h : q[j]? = some p) : numP q j = numQ p := by unfold numP; rw [h]
theorem numP_out {q : List ByteArray} {j : Nat} (h : q.length ≤ j) : numP q j = 0 := by unfold numP; rw [List.getElem?_eq_none h]
/-- the numbers so far -/
def nA (q : List ByteArray) (i : Nat) : Array Value := #[.int .i64 (if 1 ≤ i then numP q 1 else 0), .int .i64 (if 2 ≤ i then numP q 2 else 0)]
theorem nA_end (q : List ByteArray) (h : q.length ≤ 3) : nA q (q.length - 1) = #[.int .i64 (numP q 1), .int .i64 (numP q 2)] := by
  unfold nA
  by_cases h1 : 1 ≤ q.length - 1
  · rw [if_pos h1]
    by_cases h2 : 2 ≤ q.length - 1
    · rw [if_pos h2]
    · rw [if_neg h2, numP_out (j := 2) (by omega)]
  · rw [if_neg h1, if_neg (by omega), numP_out (j := 1) (by omega), numP_out (j := 2) (by omega)]
theorem nA_next (q : List ByteArray) (i : Nat) (hi : i < 2) {p : ByteArray} (h : q[i + 1]? = some p) : (nA q i).setIfInBounds i (.int .i64 (numQ p)) = nA q (i + 1) := by
  have e := numP_in h
  match i, hi with
  | 0, _ => rw [← e]; rfl
  | 1, _ => rw [← e]; rfl
set_option maxRecDepth 20000 in
set_option maxHeartbeats 8000000 in
theorem iReadDeed_any (T : ByteArray) (hsz : T.size ≤ 1048576) (w : World) (hT : Pow w) (hG : 1 < w.heap.size) (m : Int) (hM : w.cell? ⟨2, 0, none⟩ = some (.int .i64 m)) (hM2 : 2 < w.heap.size) :
    Calls Tryd.prog 10 #[.string T] w fun e w' => e = .returned (rdV T 1 9) ∧ Below w.heap.size w w' := by
  have HT := Lib.hid hT
  have HG := Lib.hid hG
  obtain ⟨w1, hw1⟩ : ∃ w1, w.alloc (.cells #[Value.int .i64 0, Value.int .i64 0, Value.int .i64 0] 25) = w1 := ⟨_, rfl⟩
  have H0 : Hid (w1.heap[w.heap.size]? = some (.cells #[Value.int .i64 0, Value.int .i64 0, Value.int .i64 0] 25 (0, 0))) := Lib.hid (by rw [← hw1]; exact World.alloc_heap_new w _)
  have B1 : Hid (Below w.heap.size w w1) := Lib.hid (by rw [← hw1]; exact (Below.refl _ _).alloc (Nat.le_refl _) _)
  have L1 : Hid (w.heap.size < w1.heap.size) := Lib.hid (by rw [← hw1]; simp)
  obtain ⟨P, hP⟩ : ∃ P, wdP T = P := ⟨_, rfl⟩
  obtain ⟨N, hN⟩ : ∃ N, min 3 (T.size + 1) = N := ⟨_, rfl⟩
  have hl := wdP_len T
  rw [hP, hN] at hl
  have N3 : N ≤ 3 := by omega
  obtain ⟨w2, hw2⟩ : ∃ x, w1.alloc (.cells (Lib.cellsOf P N) 9) = x := ⟨_, rfl⟩
  have SN : Hid (Calls Tryd.prog 35 #[.string T, .string { data := #[32] }, .int .i64 3] w1 fun e w' => e = .returned (.slice (some ⟨w1.heap.size, 0, none⟩) P.length N) ∧ w' = w2) := Lib.hid (by
    rw [← hw2, ← hN, ← hP]
    exact Tryd.strings_SplitN T ⟨#[32]⟩ 3 m w1 (by omega) ((Below.cell B1.out hM2).trans hM) (by decide) (by decide) (by decide))
  have R2 : Hid (w2.heap[w1.heap.size]? = some (.cells (Lib.cellsOf P N) 9 (0, 0))) := Lib.hid (by rw [← hw2]; exact World.alloc_heap_new w1 _)
  have B2 : Hid (Below w1.heap.size w1 w2) := Lib.hid (by rw [← hw2]; exact (Below.refl _ _).alloc (Nat.le_refl _) _)
  have L2 : Hid (w1.heap.size < w2.heap.size) := Lib.hid (by rw [← hw2]; simp)
  obtain ⟨w3, hw3⟩ : ∃ x, w2.alloc (.cells #[.int .i64 0, .int .i64 0] 68) = x := ⟨_, rfl⟩
  have R3 : Hid (w3.heap[w2.heap.size]? = some (.cells (nA P 0) 68 (0, 0))) := Lib.hid (by rw [← hw3]; exact World.alloc_heap_new w2 _)
  have B3 : Hid (Below w2.heap.size w2 w3) := Lib.hid (by rw [← hw3]; exact (Below.refl _ _).alloc (Nat.le_refl _) _)
  have SO := Lib.hid (slice_oneS w1.heap.size P.length N hl.1 hl.2)
  obtain ⟨RV, hRV⟩ : ∃ x, rdV T 1 9 = x := ⟨_, rfl⟩
  have RS : Hid (RV = rdV T ((0 : Nat) : Int) (10 - 0)) := Lib.hid (by rw [← hRV]; exact (rdV_ten T).symm)
  have CW : Hid (∀ W, Below w2.heap.size w2 W → (∀ j p, P[j]? = some p → W.cell? ⟨w1.heap.size, j, none⟩ = some (.string p)) ∧ W.heap[w.heap.size]? = some (.cells #[Value.int .i64 0, Value.int .i64 0, Value.int .i64 0] 25 (0, 0)) ∧ Below w.heap.size w W) := Lib.hid fun W hW => by
    refine ⟨fun j p hp => ?_, (hW.block _ (Nat.lt_trans L1.out L2.out)).trans ((B2.out.block _ L1.out).trans H0.out), B1.out.trans ((B2.out.mono (Nat.le_of_lt L1.out)).trans (hW.mono (Nat.le_of_lt (Nat.lt_trans L1.out L2.out))))⟩
    exact (Below.cell hW L2.out).trans ((Lib.cell_of_heap R2.out j).trans (cells_at hp))
  have PL : Hid (P.length ≤ 3) := Lib.hid (by omega)
  have PM : Hid (∀ k, ¬ isD T k (numP P 1) (numP P 2) → rdA T k = none) := Lib.hid fun k hh => by rw [← hP] at hh; exact pr_miss hh
  rw [hRV]
  have p1 := hl.1
  have p2 := hl.2
  clear hRV hP hN hl hsz hT hG hM hM2
  go_enter Tryd.func10, Tryd.ntmps10
  go_wp2_with fail
  refine SN.out.mono ?_
  rintro e w9 ⟨rfl, rfl⟩
  clear hw1 hw2
  obtain ⟨O, hO⟩ : ∃ x : Nat, (if N = 1 then 0 else 1) = x := ⟨_, rfl⟩
  rw [hO] at SO
  have HO : Hid (2 ≤ N → O = 1) := Lib.hid fun h => by rw [← hO, if_neg (by omega)]
  clear hO
  obtain ⟨PN, hPN⟩ : ∃ x, P.length = x := ⟨_, rfl⟩
  rw [hPN] at SO p1 p2
  have so := SO.out
  clear SO
  go_wp2_with fail
  have RR : Hid (nA P (PN - 1) = #[.int .i64 (numP P 1), .int .i64 (numP P 2)]) := Lib.hid (by rw [← hPN]; exact nA_end P PL.out)
  have PX : Hid (∀ i, i < PN - 1 → ∃ p, P[i + 1]? = some p) := Lib.hid fun i hi => ⟨_, List.getElem?_eq_getElem (by omega)⟩
  have PL3 : PN ≤ 3 := by have := PL.out; omega
  clear hPN
  go_loopw [15] (fun vi wr => ∃ i : Nat, i ≤ PN - 1 ∧ vi = .int .i64 (i : Int) ∧ Hid (Below w9.heap.size w9 wr) ∧ Hid (wr.heap[w9.heap.size]? = some (.cells (nA P i) 68 (0, 0)))) (fun vi _ => PN - (intOf vi).toNat)
  case atStart => exact ⟨0, by omega, rfl, B3, R3⟩
  case round =>
    obtain ⟨i, hi, rfl, hB, hR⟩ := hrel
    by_cases hlt : i < PN - 1
    · have ti : (i : Int) < ((PN - 1 : Nat) : Int) := by omega
      have i2 : i < 2 := by omega
      have i2' : (i : Int) < 2 := by omega
      obtain ⟨p, hp⟩ := PX.out i hlt
      have hO := HO.out (by omega)
      subst hO
      have c1 := (CW.out wr hB.out).1 (i + 1) p hp
      have c1' : wr.cell? ⟨w1.heap.size, 1 + i, none⟩ = some (.string p) := by rw [Nat.add_comm]; exact c1
      obtain ⟨z, hz⟩ : ∃ z, (nA P i)[i]? = some z := ⟨_, Array.getElem?_eq_getElem (show i < 2 from i2)⟩
      have cz : wr.cell? ⟨w9.heap.size, i, none⟩ = some z := (Lib.cell_of_heap hR.out i).trans hz
      have fz : wr.frozen? ⟨w9.heap.size, i, none⟩ = false := Lib.frozen_of_heap hR.out i
      have NX := Lib.hid (nA_next P i i2 hp)
      have RD := Lib.hid (readDigitsQ_any p)
      have I2 := Lib.hid i2
      have HL := Lib.hid hlt
      clear hp hz
      go_wp2_with fail
      refine (RD.out _).mono ?_
      rintro e w' ⟨rfl, rfl⟩
      go_wp2
      go_roundw
      case rel => exact ⟨i + 1, by have := HL.out; omega, by go_num, Lib.hid (hB.out.setCell (p := ⟨w9.heap.size, _, none⟩) (Nat.le_refl _) _), Lib.hid (by rw [← NX.out]; exact fset_at hR.out i _)⟩
      case measure => have := HL.out; simp [intOf]; omega
    · obtain rfl : i = PN - 1 := by omega
      have ti : ¬ (((PN - 1 : Nat) : Int) < ((PN - 1 : Nat) : Int)) := by omega
      have hR2 : Hid (wr.heap[w9.heap.size]? = some (.cells #[.int .i64 (numP P 1), .int .i64 (numP P 2)] 68 (0, 0))) := Lib.hid (by rw [← RR.out]; exact hR.out)
      have MA := Lib.hid manners_any
      generalize mnA = MM at MA
      clear hR RR PX R3
      obtain ⟨A, hA⟩ : ∃ x, numP P 1 = x := ⟨_, rfl⟩
      obtain ⟨B, hB'⟩ : ∃ x, numP P 2 = x := ⟨_, rfl⟩
      rw [hA, hB'] at hR2 PM
      clear hA hB'
      go_wp2_with fail
      refine (MA.out _).mono ?_
      rintro e wB ⟨rfl, hb⟩
      have CB : Hid (∀ W, Below wB.heap.size wB W → W.heap[w9.heap.size]? = some (.cells #[.int .i64 A, .int .i64 B] 68 (0, 0)) ∧ W.heap[w.heap.size]? = some (.cells #[Value.int .i64 0, Value.int .i64 0, Value.int .i64 0] 25 (0, 0)) ∧ Below w.heap.size w W) := Lib.hid fun W hW => by
        have h1 := hb.trans (hW.mono hb.size)
        have h2 := hB.out.trans (h1.mono hB.out.size)
        have c := CW.out W h2
        exact ⟨far_row h1 hR2.out, c.2.1, c.2.2⟩
      have BR : Hid (Below wB.heap.size wB wB) := Lib.hid (Below.refl _ _)
      clear hb hB hR2 CW
      go_wp2_with fail
      go_loopw [29] (fun vk wq => ∃ k : Nat, k ≤ 10 ∧ vk = .int .i64 (k : Int) ∧ Hid (Below wB.heap.size wB wq) ∧ Hid (RV = rdV T (k : Int) (10 - k))) (fun vk _ => 10 - (intOf vk).toNat)
      case atStart => exact ⟨0, by omega, rfl, BR, RS⟩
      case round =>
        obtain ⟨k, hk, rfl, hB, hR⟩ := hrel
        by_cases hlk : k ≤ 9
        · have tk : (k : Int) < 10 := by omega
          obtain ⟨c0, -, -⟩ := CB.out _ hB.out
          have d0 : wr.cell? ⟨w9.heap.size, 0, none⟩ = some (.int .i64 A) := Lib.cell_of_heap c0 0
          have d1 : wr.cell? ⟨w9.heap.size, 1, none⟩ = some (.int .i64 B) := Lib.cell_of_heap c0 1
          obtain ⟨w5, hw5⟩ : ∃ x, wr.alloc (.cells #[Value.int .i64 0, Value.int .i64 0, Value.int .i64 0] 25) = x := ⟨_, rfl⟩
          have T5 : Hid (w5.heap[wr.heap.size]? = some (.cells #[Value.int .i64 0, Value.int .i64 0, Value.int .i64 0] 25 (0, 0))) := Lib.hid (by rw [← hw5]; exact World.alloc_heap_new wr _)
          have HBW : Hid (wB.heap.size ≤ wr.heap.size) := Lib.hid hB.out.size
          have B5 : Hid (Below wB.heap.size wB w5) := Lib.hid (by rw [← hw5]; exact hB.out.alloc HBW.out _)
          obtain ⟨w6, hw6⟩ : ∃ x, w5.setRow wr.heap.size (D3 (k : Int) A B) = x := ⟨_, rfl⟩
          have R6 : Hid (w6.heap[wr.heap.size]? = some (.cells (D3 (k : Int) A B) 25 (0, 0))) := Lib.hid (by rw [← hw6]; exact setRow_heap _ _ _ _ _ _ T5.out)
          have B6 : Hid (Below wB.heap.size wB w6) := Lib.hid (by rw [← hw6]; exact below_setRow B5.out HBW.out _)
          have VD := Lib.hid (iValidDeed_any (k : Int) A B)
          have DTX := Lib.hid (fun w h g => iDeedText_any (k : Int) A B w h g)
          obtain ⟨DV, hDV⟩ : ∃ x, dtT (k : Int) A B = x := ⟨_, rfl⟩
          rw [hDV] at DTX
          have CC : Hid (∀ W, Below w6.heap.size w6 W → W.heap[wr.heap.size]? = some (.cells (D3 (k : Int) A B) 25 (0, 0)) ∧ W.heap[w.heap.size]? = some (.cells #[Value.int .i64 0, Value.int .i64 0, Value.int .i64 0] 25 (0, 0)) ∧ Below w.heap.size w W) := Lib.hid fun W hW => by
            have c := CB.out W (B6.out.trans (hW.mono B6.out.size))
            exact ⟨far_row hW R6.out, c.2.1, c.2.2⟩
          clear c0
          cases hv : vdB (k : Int) A B with
          | true =>
            rw [hv] at VD
            by_cases h1 : DV = T
            · have E3 : (DV.toList == T.toList) = true := txt_same h1
              have HH := Lib.hid (rd_hit hlk hR.out ⟨hv, hDV.trans h1⟩)
              clear hv h1
              go_wp2_with (first | (refine wpList_store_row rfl 25 _ _ rfl wr.heap.size (D3 (k : Int) A B) rfl rfl 25 _ T5.out (deed_info _ rfl) rfl (row3_oneD _ _ _) ?_; rw [hw6]) | (refine wpList_load_row rfl 25 _ rfl wr.heap.size rfl 25 _ _ _ R6.out Tryd.underlying25 rfl (deed_info _ rfl) ?_))
              refine (VD.out _).mono ?_
              rintro e w7 ⟨rfl, b7⟩
              have C7 := Lib.hid b7
              obtain ⟨z0, -, z1⟩ := CC.out w7 b7
              have R7 := Lib.hid z0
              have K7 := Lib.hid z1
              clear b7 z0 z1 hw5 hw6 T5 B5 d0 d1
              go_wp2_with (refine wpList_load_rowg rfl 25 _ rfl wr.heap.size rfl 25 _ _ _ R7.out Tryd.underlying25 rfl (deed_info _ rfl) ?_)
              refine (DTX.out _ (HT.out.below K7.out HG.out) (Nat.lt_of_lt_of_le HG.out K7.out.size)).mono ?_
              rintro e w8 ⟨rfl, b8⟩
              have C8 := Lib.hid (C7.out.trans (b8.mono C7.out.size))
              clear b8
              obtain ⟨z2, z3, z4⟩ := CC.out w8 C8.out
              have K1 := Lib.hid z2
              have K0 := Lib.hid z3
              have KB := Lib.hid z4
              clear z2 z3 z4
              go_wp2_with (first | (refine wpList_load_row rfl 25 _ rfl wr.heap.size rfl 25 _ _ _ K1.out Tryd.underlying25 rfl (deed_info _ rfl) ?_) | (refine wpList_store_row rfl 25 _ _ rfl w.heap.size (D3 (k : Int) A B) rfl rfl 25 _ K0.out (deed_info _ rfl) rfl (row3_oneD _ _ _) ?_))
              refine bodyPost_ret (v := .tuple #[.agg (D3 (k : Int) A B), .int .i64 0]) ?_ rfl ⟨by rw [HH.out], ?_⟩
              · exact results_cell_tmp_rowF Tryd.results10 _ _ w.heap.size _ _ _ _ rfl (setRow_heap _ _ _ _ _ _ K0.out) Tryd.underlying25 rfl (deed_info _ rfl)
              · exact below_setRow KB.out (by omega) _
            · have E3 : (DV.toList == T.toList) = false := txt_other h1
              have MS := Lib.hid (rd_step hlk hR.out (PM.out _ (fun hh => h1 (hDV.symm.trans hh.2))))
              clear hv h1
              go_wp2_with (first | (refine wpList_store_row rfl 25 _ _ rfl wr.heap.size (D3 (k : Int) A B) rfl rfl 25 _ T5.out (deed_info _ rfl) rfl (row3_oneD _ _ _) ?_; rw [hw6]) | (refine wpList_load_row rfl 25 _ rfl wr.heap.size rfl 25 _ _ _ R6.out Tryd.underlying25 rfl (deed_info _ rfl) ?_))
              refine (VD.out _).mono ?_
              rintro e w7 ⟨rfl, b7⟩
              have C7 := Lib.hid b7
              obtain ⟨z0, -, z1⟩ := CC.out w7 b7
              have R7 := Lib.hid z0
              have K7 := Lib.hid z1
              clear b7 z0 z1 hw5 hw6 T5 B5 d0 d1
              go_wp2_with (refine wpList_load_rowg rfl 25 _ rfl wr.heap.size rfl 25 _ _ _ R7.out Tryd.underlying25 rfl (deed_info _ rfl) ?_)
              refine (DTX.out _ (HT.out.below K7.out HG.out) (Nat.lt_of_lt_of_le HG.out K7.out.size)).mono ?_
              rintro e w8 ⟨rfl, b8⟩
              have C8 := Lib.hid (C7.out.trans (b8.mono C7.out.size))
              clear b8
              have BN : Hid (Below wB.heap.size wB w8) := Lib.hid (B6.out.trans (C8.out.mono B6.out.size))
              go_wp2
              refine ⟨⟨k + 1, by omega, by go_num, BN, MS⟩, by simp [intOf]; omega⟩
          | false =>
            rw [hv] at VD
            have MS := Lib.hid (rd_step hlk hR.out (PM.out _ (fun hh => by rw [hh.1] at hv; cases hv)))
            clear hv
            go_wp2_with (first | (refine wpList_store_row rfl 25 _ _ rfl wr.heap.size (D3 (k : Int) A B) rfl rfl 25 _ T5.out (deed_info _ rfl) rfl (row3_oneD _ _ _) ?_; rw [hw6]) | (refine wpList_load_row rfl 25 _ rfl wr.heap.size rfl 25 _ _ _ R6.out Tryd.underlying25 rfl (deed_info _ rfl) ?_))
            refine (VD.out _).mono ?_
            rintro e w7 ⟨rfl, b7⟩
            have C7 := Lib.hid b7
            obtain ⟨z0, -, z1⟩ := CC.out w7 b7
            have R7 := Lib.hid z0
            have K7 := Lib.hid z1
            clear b7 z0 z1 hw5 hw6 T5 B5 d0 d1
            have BN : Hid (Below wB.heap.size wB w7) := Lib.hid (B6.out.trans (C7.out.mono B6.out.size))
            go_wp2
            refine ⟨⟨k + 1, by omega, by go_num, BN, MS⟩, by simp [intOf]; omega⟩
        · obtain rfl : k = 10 := by omega
          have tk : ¬ (((10 : Nat) : Int) < 10) := by omega
          obtain ⟨-, cr, cb⟩ := CB.out _ hB.out
          have K0 := Lib.hid cr
          have KB := Lib.hid cb
          clear cr cb
          go_wp2_with (refine wpList_store_row rfl 25 _ _ rfl w.heap.size #[Value.int .i64 0, Value.int .i64 0, Value.int .i64 0] rfl rfl 25 _ K0.out (deed_info _ rfl) rfl (row3_oneD _ _ _) ?_)
          refine bodyPost_ret (v := .tuple #[.agg #[Value.int .i64 0, Value.int .i64 0, Value.int .i64 0], .int .i64 5]) ?_ rfl ⟨by rw [hR.out]; rfl, ?_⟩
          · exact results_cell_tmp_rowF Tryd.results10 _ _ w.heap.size _ _ _ _ rfl (setRow_heap _ _ _ _ _ _ K0.out) Tryd.underlying25 rfl (deed_info _ rfl)
          · exact below_setRow KB.out (by omega) _
end Go.Proofs.YtkijgadkgfapgaaDoor
