/-
  CONTRACTS: the head of a file: its code and its payload (the program's).
-/
import Derived.Test.YtkijgadkgfapgaaGk
import Derived.Test.YtkijgadkgfapgaaGb
import Derived.Lib.SlBytesConst
namespace Go.Proofs.Ytkijgadkgfapgaa
open Go.ChangeShapes Go.WideShapes Go.ChangeAt Go.RowKit
def hdOk (k c : Int) : Bool := (decide (k = 1) || decide (k = 2) || decide (k = 3)) && decide (0 ≤ c) && decide (c ≤ 256)
def hdC (k c : Int) (n : Nat) : Int := if hdOk k c then (if 8192 < n then 3 else 0) else 2
set_option maxRecDepth 20000 in
set_option maxHeartbeats 4000000 in
theorem hcode_any (k c : Int) (n : Nat) (hn : n ≤ 4000000) (w : World) :
    Calls Try.prog 104 #[.agg #[.int .i64 k, .int .i64 c, .int .i64 (n : Int)]] w fun e w' => e = .returned (.int .i64 (hdC k c n)) ∧ Below w.heap.size w w' := by
  obtain ⟨R, hR⟩ : ∃ R, hdC k c n = R := ⟨_, rfl⟩
  have HR : Hid ((k = 1 ∨ k = 2 ∨ k = 3) → 0 ≤ c → c ≤ 256 → n ≤ 8192 → R = 0) := Lib.hid fun h1 h2 h3 h4 => by
    rw [← hR]; unfold hdC
    have : hdOk k c = true := by unfold hdOk; rcases h1 with rfl | rfl | rfl <;> simp [h2, h3]
    rw [if_pos this, if_neg (by omega)]
  have HR3 : Hid ((k = 1 ∨ k = 2 ∨ k = 3) → 0 ≤ c → c ≤ 256 → 8192 < n → R = 3) := Lib.hid fun h1 h2 h3 h4 => by
    rw [← hR]; unfold hdC
    have : hdOk k c = true := by unfold hdOk; rcases h1 with rfl | rfl | rfl <;> simp [h2, h3]
    rw [if_pos this, if_pos h4]
  have HR2 : Hid ((¬ (k = 1 ∨ k = 2 ∨ k = 3) ∨ c < 0 ∨ 256 < c) → R = 2) := Lib.hid fun h => by
    rw [← hR]; unfold hdC
    have : hdOk k c = false := by
      unfold hdOk
      cases hx : (decide (k = 1) || decide (k = 2) || decide (k = 3)) && decide (0 ≤ c) && decide (c ≤ 256) with
      | false => rfl
      | true => simp at hx; omega
    rw [this]; exact if_neg (by decide)
  rw [hR]
  have B0 : Hid (Below w.heap.size w (w.alloc (.cells #[.int .i64 k, .int .i64 c, .int .i64 (n : Int)] 100))) := Lib.hid ((Below.refl _ w).alloc (Nat.le_refl _) _)
  clear hR
  by_cases hk : k = 1 ∨ k = 2 ∨ k = 3
  · by_cases h0 : c < 0
    · have := HR2.out (.inr (.inl h0))
      subst this
      have b1 : decide (c < 0) = true := by simpa using h0
      clear HR HR2 HR3
      rcases hk with rfl | rfl | rfl
      all_goals
        go_enter Try.func104, Try.ntmps104
        go_wp2
        go_ret
        exact ⟨rfl, B0.out⟩
    · have b1 : decide (c < 0) = false := by simpa using h0
      by_cases h1 : 256 < c
      · have := HR2.out (.inr (.inr h1))
        subst this
        have b2 : decide (256 < c) = true := by simpa using h1
        clear HR HR2 HR3 h0
        rcases hk with rfl | rfl | rfl
        all_goals
          go_enter Try.func104, Try.ntmps104
          go_wp2
          go_ret
          exact ⟨rfl, B0.out⟩
      · have b2 : decide (256 < c) = false := by simpa using h1
        by_cases h2 : 8192 < n
        · have := HR3.out hk (by omega) (by omega) h2
          subst this
          have b3 : decide ((8192 : Int) < (n : Int)) = true := by simp; omega
          have b4 : (8192 : Int) < (n : Int) := by omega
          clear HR HR2 HR3 h0 h1
          rcases hk with rfl | rfl | rfl
          all_goals
            go_enter Try.func104, Try.ntmps104
            go_wp2
            go_ret
            exact ⟨rfl, B0.out⟩
        · have := HR.out hk (by omega) (by omega) (by omega)
          subst this
          have b3 : decide ((8192 : Int) < (n : Int)) = false := by simp; omega
          have b4 : (n : Int) ≤ 8192 := by omega
          clear HR HR2 HR3 h0 h1 h2
          rcases hk with rfl | rfl | rfl
          all_goals
            go_enter Try.func104, Try.ntmps104
            go_wp2
            go_ret
            exact ⟨rfl, B0.out⟩
  · have := HR2.out (.inl hk)
    subst this
    have k1 : (k == 1) = false := by simp; omega
    have k2 : (k == 2) = false := by simp; omega
    have k3 : (k == 3) = false := by simp; omega
    clear HR HR2 HR3 hk
    go_enter Try.func104, Try.ntmps104
    go_wp2
    go_ret
    exact ⟨rfl, B0.out⟩
def sgn4 (k : Nat) : Nat → Int
  | 0 => 77
  | 1 => 80
  | 2 => 78
  | _ => (k : Int) % 256
/-- the payload of a head -/
def hdF (k c n : Nat) : Nat → Int := catU (catU (sgn4 k) 4 (byW c)) 8 (byW n)
theorem sgn4_by (k m : Nat) : ByF m (sgn4 k) := fun j _ => by
  unfold sgn4
  split <;> omega
theorem hdF_by (k c n m : Nat) : ByF m (hdF k c n) := fun j _ => by
  unfold hdF catU
  split
  · split
    · exact sgn4_by k (j + 1) j (by omega)
    · exact byW_By _ (j - 4 + 1) _ (by omega)
  · exact byW_By _ (j - 8 + 1) _ (by omega)
set_option maxRecDepth 20000 in
set_option maxHeartbeats 4000000 in
theorem hpayG_any (k c n : Nat) (hk : k ≤ 255) (hc : c ≤ 4294967295) (hn : n ≤ 4294967295) (w : World) :
    Calls Try.prog 105 #[.agg #[.int .i64 (k : Int), .int .i64 (c : Int), .int .i64 (n : Int)]] w fun e w' => e = .returned (.agg (Q12 (hdF k c n))) ∧ Below w.heap.size w w' := by
  have hk' : (k : Int) ≤ 255 := by omega
  have hc' : (c : Int) ≤ 4294967295 := by omega
  have hn' : (n : Int) ≤ 4294967295 := by omega
  obtain ⟨w1, hw1⟩ : ∃ w1, (w.alloc (.cells #[.int .i64 (k : Int), .int .i64 (c : Int), .int .i64 (n : Int)] 100)).alloc (.cells #[Value.int .u8 0, Value.int .u8 0, Value.int .u8 0, Value.int .u8 0, Value.int .u8 0, Value.int .u8 0, Value.int .u8 0, Value.int .u8 0, Value.int .u8 0, Value.int .u8 0, Value.int .u8 0, Value.int .u8 0] 141) = w1 := ⟨_, rfl⟩
  have B0 : Hid (Below w.heap.size w w1) := Lib.hid (by rw [← hw1]; exact ((Below.refl _ w).alloc (Nat.le_refl _) _).alloc (by simp) _)
  have H0 : Hid (w1.heap[w.heap.size]? = some (.cells #[.int .i64 (k : Int), .int .i64 (c : Int), .int .i64 (n : Int)] 100 (0, 0))) := Lib.hid (by rw [← hw1]; exact (Below.heap_alloc _ _ _ (by simp)).trans (World.alloc_heap_new w _))
  have H1 : Hid (w1.heap[w.heap.size + 1]? = some (.cells #[Value.int .u8 0, Value.int .u8 0, Value.int .u8 0, Value.int .u8 0, Value.int .u8 0, Value.int .u8 0, Value.int .u8 0, Value.int .u8 0, Value.int .u8 0, Value.int .u8 0, Value.int .u8 0, Value.int .u8 0] 141 (0, 0))) := Lib.hid (by
    rw [← hw1]
    have := World.alloc_heap_new (w.alloc (.cells #[.int .i64 (k : Int), .int .i64 (c : Int), .int .i64 (n : Int)] 100)) (.cells #[Value.int .u8 0, Value.int .u8 0, Value.int .u8 0, Value.int .u8 0, Value.int .u8 0, Value.int .u8 0, Value.int .u8 0, Value.int .u8 0, Value.int .u8 0, Value.int .u8 0, Value.int .u8 0, Value.int .u8 0] 141)
    rw [World.size_alloc] at this
    exact this)
  have Z1 : Hid (w1.heap.size = w.heap.size + 1 + 1) := Lib.hid (by rw [← hw1]; simp)
  obtain ⟨wa, hwa⟩ : ∃ wa, w1.alloc (.cells #[.int .u8 77, .int .u8 80, .int .u8 78] 5 (3, 4)) = wa := ⟨_, rfl⟩
  obtain ⟨wb, hwb⟩ : ∃ wb, wa.alloc (.cells #[.int .u8 (k : Int)] 5) = wb := ⟨_, rfl⟩
  have hza : wa.heap.size = w1.heap.size + 1 := by rw [← hwa]; simp
  have CA : Hid (∀ j, j < 3 → wb.cell? ⟨w1.heap.size, 0 + j, none⟩ = some (.int .u8 (sgn4 k j))) := Lib.hid (fun j hj => by
    rw [← hwb, ((Below.refl _ wa).alloc (Nat.le_refl _) _).cell (p := ⟨w1.heap.size, 0 + j, none⟩) (by show w1.heap.size < _; omega), ← hwa, Nat.zero_add]
    refine (Lib.cell_of_heap (World.alloc_heap_new w1 _) j).trans ?_
    match j, hj with
    | 0, _ => rfl
    | 1, _ => rfl
    | 2, _ => rfl)
  have CB : Hid (∀ j, j < 1 → wb.cell? ⟨wa.heap.size, 0 + j, none⟩ = some (.int .u8 (k : Int))) := Lib.hid (fun j hj => by
    obtain rfl : j = 0 := by omega
    rw [← hwb]
    exact (World.cell?_alloc_new _ _ _ _).trans rfl)
  have BA : Hid (Below w1.heap.size w1 wb) := Lib.hid (by rw [← hwb, ← hwa]; exact ((Below.refl _ w1).alloc (Nat.le_refl _) _).alloc (by simp) _)
  have ZB : Hid (w1.heap.size ≤ wb.heap.size) := Lib.hid BA.out.size
  have HW : Hid (∀ W, Below w1.heap.size w1 W → W.cell? ⟨w.heap.size, 1, none⟩ = some (.int .i64 (c : Int)) ∧ W.cell? ⟨w.heap.size, 2, none⟩ = some (.int .i64 (n : Int)) ∧ W.heap[w.heap.size + 1]? = some (.cells #[Value.int .u8 0, Value.int .u8 0, Value.int .u8 0, Value.int .u8 0, Value.int .u8 0, Value.int .u8 0, Value.int .u8 0, Value.int .u8 0, Value.int .u8 0, Value.int .u8 0, Value.int .u8 0, Value.int .u8 0] 141 (0, 0))) := Lib.hid (fun W hW => by
    have z := Z1.out
    have e := (hW.block w.heap.size (by omega)).trans H0.out
    exact ⟨Lib.cell_of_heap e 1, Lib.cell_of_heap e 2, (hW.block _ (by omega)).trans H1.out⟩)
  have fa0 : wa.cell? ⟨w.heap.size, 0, none⟩ = some (.int .i64 (k : Int)) := by
    have e : wa.heap[w.heap.size]? = w1.heap[w.heap.size]? := by rw [← hwa]; exact Below.heap_alloc _ _ _ (by have := Z1.out; omega)
    exact Lib.cell_of_heap (e.trans H0.out) 0
  have hcv : (convert 45 45 (.slice (some ⟨w1.heap.size, 0, none⟩) 3 3)).run Try.prog (w1.alloc (.cells #[.int .u8 77, .int .u8 80, .int .u8 78] 5)) = .ok (.slice (some ⟨w1.heap.size, 0, none⟩) 3 3) wa := by rw [← hwa]; exact Lib.run_convert_bytes_const w1 45 5 _ 3 3 Try.underlying45 Try.underlying5
  have Zs := Z1.out
  rw [Zs] at hcv CA
  have ZA : wa.heap.size = w.heap.size + 1 + 1 + 1 := by omega
  rw [ZA] at CB
  clear hza hk hc hn
  go_enter Try.func105, Try.ntmps105
  have HDE : Hid (hdF k c n = catU (catU (sgn4 k) 4 (byW c)) 8 (byW n)) := Lib.hid rfl
  have S4 : Hid (∀ j, j < 4 → catU (sgn4 k) 3 (fun _ => (k : Int)) j = sgn4 k j) := Lib.hid (fun j hj => by
    unfold catU
    split
    · rfl
    · obtain rfl : j = 3 := by omega
      show (k : Int) = (k : Int) % 256
      omega)
  go_wp2_with (at_builtin; refine wpList_append_full rfl _ _ rfl (w.heap.size + 1 + 1) 0 3 (sgn4 k) rfl CA.out (w.heap.size + 1 + 1 + 1) 0 1 1 (fun _ => (k : Int)) rfl CB.out (by omega) (by omega) w1.heap.size ZB.out w1 BA.out ?_; intro v' w' h1 h2; have G1 := Lib.hid h1; have G2 := Lib.hid h2; have G3 := Lib.hid (HW.out _ h2); have g1 := G3.out.1; clear h1 h2)
  have O1 : Hid (OwnU w1.heap.size v' 4 (sgn4 k) w') := Lib.hid ((show OwnU _ _ 4 _ _ from G1.out).congr S4.out)
  have WZ : Hid (w1.heap.size ≤ w'.heap.size) := Lib.hid G2.out.size
  clear g1 fa0 hcv hwa hwb Zs ZA hw1
  refine Calls.mono (appendWord_own v' 4 (sgn4 k) w1.heap.size c w' (by omega) WZ.out O1.out) ?_
  rintro e w3 ⟨v3, rfl, h3, b3⟩
  have O3 := Lib.hid h3
  have B3 := Lib.hid (G2.out.trans b3)
  have WZ3 : Hid (w1.heap.size ≤ w3.heap.size) := Lib.hid B3.out.size
  have g2 := (HW.out _ B3.out).2.1
  clear h3 b3 G1 G2 G3 O1 WZ
  go_wp2_with fail
  refine Calls.mono (appendWord_own v3 8 _ w1.heap.size n w3 (by omega) WZ3.out O3.out) ?_
  rintro e w4 ⟨v4, rfl, h4, b4⟩
  have B4 := Lib.hid (B3.out.trans b4)
  rw [← HDE.out] at h4
  obtain ⟨g, cap, rfl, hcap, hg, -, hc4⟩ := (show OwnU _ _ 12 _ _ from h4).form (by omega)
  have C4 := Lib.hid hc4
  have hat := fun W => run_arrayAtF (P := Try.prog) 141 _ 12 (some ⟨g, 0, none⟩) (8 + 4) cap Try.underlying141 (by omega) W
  have I1 := Lib.hid (HW.out _ B4.out).2.2
  have IB : Hid (Below w.heap.size w w4) := Lib.hid (B0.out.trans (B4.out.mono (by have := Z1.out; omega)))
  clear g2 h4 b4 hc4 hg hcap O3 B3 WZ3 HDE
  obtain ⟨m, hm⟩ : ∃ m, hdF k c n = m := ⟨_, rfl⟩
  rw [hm] at C4
  have HM := Lib.hid hm
  clear hm
  go_wp2_with (first | (refine wpList_load_part rfl 141 _ rfl g 0 rfl (Q12 m) _ (fun j v e => by
      have hj : j < 12 := by
        rcases Nat.lt_or_ge j 12 with h | h
        · exact h
        · rw [arr_none _ _ _ _ h] at e; cases e
      rw [Nat.zero_add, C4.out j hj, ← e, arr_get _ _ _ _ hj]) Try.underlying141 rfl (p12_info _ (arr_size _ _ _)) ?_) | (refine wpList_store_row rfl 141 _ _ rfl (w.heap.size + 1) (Q12 m) rfl rfl 141 _ I1.out (p12_info _ rfl) rfl (arr_cells _ _ _) ?_))
  refine bodyPost_ret (v := .agg (Q12 m)) ?_ rfl ⟨by rw [HM.out], ?_⟩
  · exact results_cell_row Try.results105 _ _ (w.heap.size + 1) _ _ _ _ rfl (setRow_heap _ _ _ _ _ _ I1.out) Try.underlying141 rfl (p12_info _ (arr_size _ _ _))
  · exact below_setRow IB.out (by omega) _
theorem hpay_any (k c n : Nat) (hk : k ≤ 3) (hc : c ≤ 256) (hn : n ≤ 8192) (w : World) :
    Calls Try.prog 105 #[.agg #[.int .i64 (k : Int), .int .i64 (c : Int), .int .i64 (n : Int)]] w fun e w' => e = .returned (.agg (Q12 (hdF k c n))) ∧ Below w.heap.size w w' :=
  hpayG_any k c n (by omega) (by omega) (by omega) w
end Go.Proofs.Ytkijgadkgfapgaa
