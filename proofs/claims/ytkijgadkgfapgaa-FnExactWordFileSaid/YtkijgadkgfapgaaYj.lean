/-
  CONTRACTS: headOf.
-/
import Derived.Test.YtkijgadkgfapgaaHl
import Derived.Test.YtkijgadkgfapgaaGo
import Derived.Test.YtkijgadkgfapgaaRiM
namespace Go.Proofs.Ytkijgadkgfapgaa
open Go.ChangeShapes Go.WideShapes Go.ChangeAt Go.RowKit
theorem hd_info (A : Array Value) (h : A.size = 3) : (Try.prog.info? 100).map (·.size) = some A.size := by rw [h]; kernel_rfl
theorem a4_info (A : Array Value) (h : A.size = 4) : (Try.prog.info? 206).map (·.size) = some A.size := by rw [h]; kernel_rfl
theorem row3_one (a b c : Int) : (#[Value.int .i64 a, Value.int .i64 b, Value.int .i64 c] : Array Value).all (·.oneCell') = true := by simp [Value.oneCell']
theorem unl_keepJ {listed : Array Bool} {i j : Nat} (h : (listed.setIfInBounds i true).getD j false = false) : listed.getD j false = false := by
  cases hl : listed.getD j false with
  | false => rfl
  | true => rw [listed_keep hl] at h; cases h
theorem far_rowJ {w w' : World} {g : Nat} {o : Obj} (hb : Below w.heap.size w w') (h : w.heap[g]? = some o) : w'.heap[g]? = some o := (hb.block g (Array.getElem?_eq_some_iff.1 h).1).trans h
/-- but for one row of three cells and new blocks W is as w2 was -/
structure OnR (b : Nat) (w0 : World) (r : Nat) (t : TypeId) (w2 W : World) : Prop where
  below : Below b w0 W
  size : w2.heap.size ≤ W.heap.size
  far : ∀ k, k < w2.heap.size → k ≠ r → W.heap[k]? = w2.heap[k]?
  old : ∃ old, W.heap[r]? = some (.cells old t (0, 0)) ∧ old.size = 3
  low : b ≤ r
theorem OnR.call {b r : Nat} {w0 w2 W W' : World} {t : TypeId} (h : OnR b w0 r t w2 W) (hb : Below W.heap.size W W') : OnR b w0 r t w2 W' := by
  obtain ⟨old, h1, h2⟩ := h.old
  have hr := (Array.getElem?_eq_some_iff.1 h1).1
  exact ⟨h.below.trans (hb.mono (by have := h.low; omega)), Nat.le_trans h.size hb.size, fun k hk hn => (hb.block k (Nat.lt_of_lt_of_le hk h.size)).trans (h.far k hk hn), ⟨old, (hb.block r hr).trans h1, h2⟩, h.low⟩
theorem OnR.store {b r : Nat} {w0 w2 W : World} {t : TypeId} {old : Array Value} (h : OnR b w0 r t w2 W) (h1 : W.heap[r]? = some (.cells old t (0, 0))) (A : Array Value) (hA : A.size = 3) : OnR b w0 r t w2 (W.setRow r A) :=
  ⟨below_setRow h.below h.low _, by simpa [World.setRow] using h.size, fun k hk hn => by
    rw [← h.far k hk hn]
    simp only [World.setRow, Array.getElem?_modify]
    rw [if_neg (fun e => hn e.symm)], ⟨A, setRow_heap _ _ _ _ _ _ h1, hA⟩, h.low⟩
theorem sgn_is (p : Nat → Int) (hp : ByF 12 p) : ((List.range 12).all fun i => hdF (p 3).toNat (hdB (fun j => p (4 + j)) 0 4) (hdB (fun j => p (8 + j)) 0 4) i == p i) = sgnOk p := by
  have w4 : ∀ j, j < 4 → byW (hdB (fun j => p (4 + j)) 0 4) j = p (4 + j) := by
    intro j hj
    have h0 := hp 4 (by omega)
    have h1 := hp 5 (by omega)
    have h2 := hp 6 (by omega)
    have h3 := hp 7 (by omega)
    match j, hj with
    | 0, _ => simp [byW, hdB]; omega
    | 1, _ => simp [byW, hdB]; omega
    | 2, _ => simp [byW, hdB]; omega
    | 3, _ => simp [byW, hdB]; omega
  have w8 : ∀ j, j < 4 → byW (hdB (fun j => p (8 + j)) 0 4) j = p (8 + j) := by
    intro j hj
    have h0 := hp 8 (by omega)
    have h1 := hp 9 (by omega)
    have h2 := hp 10 (by omega)
    have h3 := hp 11 (by omega)
    match j, hj with
    | 0, _ => simp [byW, hdB]; omega
    | 1, _ => simp [byW, hdB]; omega
    | 2, _ => simp [byW, hdB]; omega
    | 3, _ => simp [byW, hdB]; omega
  have h3 := hp 3 (by omega)
  have e : ∀ i, i < 12 → hdF (p 3).toNat (hdB (fun j => p (4 + j)) 0 4) (hdB (fun j => p (8 + j)) 0 4) i = if i = 0 then 77 else if i = 1 then 80 else if i = 2 then 78 else p i := by
    intro i hi
    unfold hdF catU
    by_cases h8 : i < 8
    · rw [if_pos h8]
      by_cases h4 : i < 4
      · rw [if_pos h4]
        match i, h4 with
        | 0, _ => rfl
        | 1, _ => rfl
        | 2, _ => rfl
        | 3, _ => show (((p 3).toNat : Nat) : Int) % 256 = p 3; omega
      · rw [if_neg h4, w4 (i - 4) (by omega), show 4 + (i - 4) = i by omega, if_neg (by omega), if_neg (by omega), if_neg (by omega)]
    · rw [if_neg h8, w8 (i - 8) (by omega), show 8 + (i - 8) = i by omega, if_neg (by omega), if_neg (by omega), if_neg (by omega)]
  generalize hdF (p 3).toNat (hdB (fun j => p (4 + j)) 0 4) (hdB (fun j => p (8 + j)) 0 4) = u at e ⊢
  have r : List.range 12 = [0, 1, 2, 3, 4, 5, 6, 7, 8, 9, 10, 11] := rfl
  rw [r]
  simp only [List.all_cons, List.all_nil, e 0 (by omega), e 1 (by omega), e 2 (by omega), e 3 (by omega), e 4 (by omega), e 5 (by omega), e 6 (by omega), e 7 (by omega), e 8 (by omega), e 9 (by omega), e 10 (by omega), e 11 (by omega)]
  unfold sgnOk
  simp only [if_pos, if_neg, beq_self_eq_true, Bool.and_true, Nat.succ_ne_zero]
  simp
  rw [Bool.eq_iff_iff]
  simp
  omega
set_option maxRecDepth 20000 in
set_option maxHeartbeats 8000000 in
theorem headOf_any (p : Nat → Int) (hp : ByF 12 p) (w : World) :
    Calls Try.prog 103 #[.agg (Q12 p)] w fun e w' => e = .returned (.tuple #[.agg #[.int .i64 (p 3), .int .i64 (hdB (fun j => p (4 + j)) 0 4 : Nat), .int .i64 (hdB (fun j => p (8 + j)) 0 4 : Nat)], .bool (sgnOk p)]) ∧ Below w.heap.size w w' := by
  obtain ⟨w1, hw1⟩ : ∃ w1, (w.alloc (.cells (Q12 p) 141)).alloc (.cells #[Value.int .i64 0, Value.int .i64 0, Value.int .i64 0] 100) = w1 := ⟨_, rfl⟩
  have B0 : Hid (Below w.heap.size w w1) := Lib.hid (by rw [← hw1]; exact ((Below.refl _ w).alloc (Nat.le_refl _) _).alloc (by simp) _)
  have H0 : Hid (w1.heap[w.heap.size]? = some (.cells (Q12 p) 141 (0, 0))) := Lib.hid (by rw [← hw1]; exact (Below.heap_alloc _ _ _ (by simp)).trans (World.alloc_heap_new w _))
  have H1 : Hid (w1.heap[w.heap.size + 1]? = some (.cells #[Value.int .i64 0, Value.int .i64 0, Value.int .i64 0] 100 (0, 0))) := Lib.hid (by
    rw [← hw1]
    have := World.alloc_heap_new (w.alloc (.cells (Q12 p) 141)) (.cells #[Value.int .i64 0, Value.int .i64 0, Value.int .i64 0] 100)
    rw [World.size_alloc] at this
    exact this)
  have L2 : Hid (w.heap.size + 1 < w1.heap.size) := Lib.hid (Array.getElem?_eq_some_iff.1 H1.out).1
  have L1 : Hid (w.heap.size < w1.heap.size) := Lib.hid (Nat.lt_trans (Nat.lt_succ_self _) L2.out)
  have CP : ∀ j, j < 12 → w1.cell? ⟨w.heap.size, j, none⟩ = some (.int .u8 (p j)) := fun j hj => (Lib.cell_of_heap H0.out j).trans (arr_get _ _ _ _ hj)
  have RA4 : Hid (∀ j v, (arr .u8 4 (fun j => p (4 + j)))[j]? = some v → w1.cell? ⟨w.heap.size, 4 + j, none⟩ = some v) := Lib.hid fun j v e => by
    have hj : j < 4 := by
      rcases Nat.lt_or_ge j 4 with h | h
      · exact h
      · rw [arr_none _ _ _ _ h] at e; cases e
    rw [CP _ (by omega), ← e, arr_get _ _ _ _ hj]
  have RA8 : Hid (∀ j v, (arr .u8 4 (fun j => p (8 + j)))[j]? = some v → w1.cell? ⟨w.heap.size, 8 + j, none⟩ = some v) := Lib.hid fun j v e => by
    have hj : j < 4 := by
      rcases Nat.lt_or_ge j 4 with h | h
      · exact h
      · rw [arr_none _ _ _ _ h] at e; cases e
    rw [CP _ (by omega), ← e, arr_get _ _ _ _ hj]
  have SA4 : Hid ((arr .u8 4 (fun j => p (4 + j))).size = 4) := Lib.hid (arr_size _ _ _)
  have SA8 : Hid ((arr .u8 4 (fun j => p (8 + j))).size = 4) := Lib.hid (arr_size _ _ _)
  have W4 := Lib.hid (wordOf_any (fun j => p (4 + j)) (fun i hi => hp _ (by omega)))
  have W8 := Lib.hid (wordOf_any (fun j => p (8 + j)) (fun i hi => hp _ (by omega)))
  have C3 := Lib.hid (CP 3 (by omega))
  have b3 := hp 3 (by omega)
  obtain ⟨q3, hq3⟩ : ∃ q, p 3 = q := ⟨_, rfl⟩
  have HA4 : Hid (∀ W, (Instr.arrayAt 206 (.slice (some ⟨w.heap.size, 4, none⟩) 8 8)).run Try.prog W = .ok (.pointer (some ⟨w.heap.size, 4, none⟩)) W) := Lib.hid fun W => run_arrayAtF (P := Try.prog) 206 _ 4 (some ⟨w.heap.size, 4, none⟩) 8 8 Try.underlying206 (by omega) W
  have HA8 : Hid (∀ W, (Instr.arrayAt 206 (.slice (some ⟨w.heap.size, 8, none⟩) 4 4)).run Try.prog W = .ok (.pointer (some ⟨w.heap.size, 8, none⟩)) W) := Lib.hid fun W => run_arrayAtF (P := Try.prog) 206 _ 4 (some ⟨w.heap.size, 8, none⟩) 4 4 Try.underlying206 (by omega) W
  have CL1 : Hid (hdB (fun j => p (4 + j)) 0 4 ≤ 4294967295) := Lib.hid (by have := hdB_lt (fun j => p (4 + j)) 0 4 (fun i hi => by simpa using hp (4 + i) (by omega)); omega)
  have CL2 : Hid (hdB (fun j => p (8 + j)) 0 4 ≤ 4294967295) := Lib.hid (by have := hdB_lt (fun j => p (8 + j)) 0 4 (fun i hi => by simpa using hp (8 + i) (by omega)); omega)
  have SG := Lib.hid (sgn_is p hp)
  obtain ⟨C, hC⟩ : ∃ C, hdB (fun j => p (4 + j)) 0 4 = C := ⟨_, rfl⟩
  obtain ⟨L, hL⟩ : ∃ C, hdB (fun j => p (8 + j)) 0 4 = C := ⟨_, rfl⟩
  rw [hC] at W4 CL1 SG
  rw [hL] at W8 CL2 SG
  rw [hq3] at C3 b3 SG
  generalize (arr .u8 4 (fun j => p (4 + j))) = A4 at RA4 SA4 W4
  generalize (arr .u8 4 (fun j => p (8 + j))) = A8 at RA8 SA8 W8
  obtain ⟨b30, b31⟩ := b3
  obtain ⟨K, hK⟩ : ∃ K : Nat, q3 = (K : Int) := ⟨q3.toNat, by omega⟩
  have KL : Hid (K ≤ 255) := Lib.hid (by omega)
  have HP := Lib.hid (hpayG_any K C L KL.out CL1.out CL2.out)
  have KN : q3.toNat = K := by omega
  rw [KN] at SG
  rw [← hK] at HP
  obtain ⟨sg, hsg⟩ : ∃ s, sgnOk p = s := ⟨_, rfl⟩
  rw [hsg] at SG
  have EQ : Hid (∀ W, (Op.equalIn 10000 141 (.agg (Q12 (hdF K C L))) (.agg (Q12 p))).run Try.prog W = .ok sg W) := Lib.hid fun W => by
    rw [eqArrI (hdF K C L) p Try.underlying141 Try.underlying5 (by kernel_rfl), SG.out]
  rw [hq3, hC, hL, hsg]
  have c1i : (C : Int) ≤ 4294967295 := by have := CL1.out; omega
  have c2i : (L : Int) ≤ 4294967295 := by have := CL2.out; omega
  clear hq3 hC hL hK KN hsg CP hp SG
  go_enter Try.func103, Try.ntmps103
  go_wp2_with fail
  clear hw1
  refine wp_region_inv (by kernel_rfl) (fun listed act W => listed.size = 16 ∧ Below w1.heap.size w1 W ∧ ∃ x0 x1 x2 x3 x4 x5 x6 x7 x8 x9 x10 x11 x12 x13 x14 x15, act = { tmps := #[.agg (Q12 p), .pointer (some ⟨w.heap.size, 0, none⟩), .pointer (some ⟨w.heap.size + 1, 0, none⟩), .bool false, x14, x0, x1, x2, x3, x4, x5, x6, x7, x8, x9, x10, x11, x12, x13, undef, undef, undef, undef, undef], defers := [] } ∧ (listed.getD 0 false = true → x0 = .pointer (some ⟨w.heap.size, 3, none⟩)) ∧ (listed.getD 1 false = true → x1 = .int .u8 q3) ∧ (listed.getD 2 false = true → x2 = .int .i64 q3) ∧ (listed.getD 3 false = true → x3 = .slice (some ⟨w.heap.size, 4, none⟩) 8 8) ∧ (listed.getD 4 false = true → x4 = .pointer (some ⟨w.heap.size, 4, none⟩)) ∧ (listed.getD 5 false = true → x5 = .agg A4) ∧ (listed.getD 6 false = true → x6 = .int .u32 (C : Int)) ∧ (listed.getD 7 false = true → x7 = .int .i64 (C : Int)) ∧ (listed.getD 8 false = true → x8 = .slice (some ⟨w.heap.size, 8, none⟩) 4 4) ∧ (listed.getD 9 false = true → x9 = .pointer (some ⟨w.heap.size, 8, none⟩)) ∧ (listed.getD 10 false = true → x10 = .agg A8) ∧ (listed.getD 11 false = true → x11 = .int .u32 (L : Int)) ∧ (listed.getD 12 false = true → x12 = .int .i64 (L : Int)) ∧ (listed.getD 13 false = true → x13 = .agg #[Value.int .i64 q3, Value.int .i64 (C : Int), Value.int .i64 (L : Int)]) ∧ (listed.getD 14 false = true → (∃ g, x14 = .pointer (some ⟨g, 0, none⟩) ∧ w1.heap.size ≤ g ∧ (listed.getD 15 false = true → W.heap[g]? = some (.cells #[Value.int .i64 q3, Value.int .i64 (C : Int), Value.int .i64 (L : Int)] 100 (0, 0))) ∧ (listed.getD 15 false = false → W.heap[g]? = some (.cells #[Value.int .i64 0, Value.int .i64 0, Value.int .i64 0] 100 (0, 0))))) ∧ (listed.getD 15 false = true → (x15 = undef ∧ listed.getD 14 false = true))) (by kernel_rfl) ?h01 (fun _ _ _ h => h.1) ?hstep1 ?hend1
  case h01 =>
    refine ⟨rfl, (Below.refl _ _).drew, _, _, _, _, _, _, _, _, _, _, _, _, _, _, _, undef, rfl, ?_, ?_, ?_, ?_, ?_, ?_, ?_, ?_, ?_, ?_, ?_, ?_, ?_, ?_, ?_, ?_⟩ <;> (intro h; exact absurd h (by decide))
  case hstep1 =>
    rintro listed act W i o ⟨hs, hB, x0, x1, x2, x3, x4, x5, x6, x7, x8, x9, x10, x11, x12, x13, x14, x15, rfl, e0, e1, e2, e3, e4, e5, e6, e7, e8, e9, e10, e11, e12, e13, e14, e15⟩ hun hio hpre
    have HB := Lib.hid hB
    have E0 := Lib.hid e0
    have E1 := Lib.hid e1
    have E2 := Lib.hid e2
    have E3 := Lib.hid e3
    have E4 := Lib.hid e4
    have E5 := Lib.hid e5
    have E6 := Lib.hid e6
    have E7 := Lib.hid e7
    have E8 := Lib.hid e8
    have E9 := Lib.hid e9
    have E10 := Lib.hid e10
    have E11 := Lib.hid e11
    have E12 := Lib.hid e12
    have E13 := Lib.hid e13
    have E14 := Lib.hid e14
    have E15 := Lib.hid e15
    have HS := Lib.hid hs
    have HU := Lib.hid hun
    have PRE := Lib.hid hpre
    clear e0 e1 e2 e3 e4 e5 e6 e7 e8 e9 e10 e11 e12 e13 e14 e15 hs hpre hB hun
    match i, hio with
    | 0, hio =>
      clear hio
      refine wpOp_by rfl fun K HK => ?_
      go_wp2_with (fail)
      exact HK.out _ _ ⟨by rw [Array.size_setIfInBounds, HS.out], HB.out, _, _, _, _, _, _, _, _, _, _, _, _, _, _, _, x15, rfl, fun _ => rfl, fun h => E1.out ((listed_set h).resolve_left (by decide)), fun h => E2.out ((listed_set h).resolve_left (by decide)), fun h => E3.out ((listed_set h).resolve_left (by decide)), fun h => E4.out ((listed_set h).resolve_left (by decide)), fun h => E5.out ((listed_set h).resolve_left (by decide)), fun h => E6.out ((listed_set h).resolve_left (by decide)), fun h => E7.out ((listed_set h).resolve_left (by decide)), fun h => E8.out ((listed_set h).resolve_left (by decide)), fun h => E9.out ((listed_set h).resolve_left (by decide)), fun h => E10.out ((listed_set h).resolve_left (by decide)), fun h => E11.out ((listed_set h).resolve_left (by decide)), fun h => E12.out ((listed_set h).resolve_left (by decide)), fun h => E13.out ((listed_set h).resolve_left (by decide)), fun h => (let ⟨g, e1, e2, e3, e4⟩ := (E14.out ((listed_set h).resolve_left (by decide))); ⟨g, e1, e2, fun h5 => e3 ((listed_set h5).resolve_left (by decide)), fun h5 => e4 (unl_keepJ h5)⟩), fun h => ⟨(E15.out ((listed_set h).resolve_left (by decide))).1, listed_keep (E15.out ((listed_set h).resolve_left (by decide))).2⟩⟩
    | 1, hio =>
      simp only [List.getElem?_toArray, List.getElem?_cons_succ, List.getElem?_cons_zero, Option.some.injEq] at hio
      subst hio
      have p0 := PRE.out ⟨0, .data⟩ (by simp) rfl
      obtain rfl := E0.out p0
      have c3 : W.cell? ⟨w.heap.size, 3, none⟩ = some (.int .u8 q3) := (HB.out.cell (p := ⟨w.heap.size, 3, none⟩) L1.out).trans C3.out
      refine wpOp_by rfl fun K HK => ?_
      go_wp2_with (fail)
      exact HK.out _ _ ⟨by rw [Array.size_setIfInBounds, HS.out], HB.out, _, _, _, _, _, _, _, _, _, _, _, _, _, _, _, x15, rfl, fun _ => rfl, fun _ => rfl, fun h => E2.out ((listed_set h).resolve_left (by decide)), fun h => E3.out ((listed_set h).resolve_left (by decide)), fun h => E4.out ((listed_set h).resolve_left (by decide)), fun h => E5.out ((listed_set h).resolve_left (by decide)), fun h => E6.out ((listed_set h).resolve_left (by decide)), fun h => E7.out ((listed_set h).resolve_left (by decide)), fun h => E8.out ((listed_set h).resolve_left (by decide)), fun h => E9.out ((listed_set h).resolve_left (by decide)), fun h => E10.out ((listed_set h).resolve_left (by decide)), fun h => E11.out ((listed_set h).resolve_left (by decide)), fun h => E12.out ((listed_set h).resolve_left (by decide)), fun h => E13.out ((listed_set h).resolve_left (by decide)), fun h => (let ⟨g, e1, e2, e3, e4⟩ := (E14.out ((listed_set h).resolve_left (by decide))); ⟨g, e1, e2, fun h5 => e3 ((listed_set h5).resolve_left (by decide)), fun h5 => e4 (unl_keepJ h5)⟩), fun h => ⟨(E15.out ((listed_set h).resolve_left (by decide))).1, listed_keep (E15.out ((listed_set h).resolve_left (by decide))).2⟩⟩
    | 2, hio =>
      simp only [List.getElem?_toArray, List.getElem?_cons_succ, List.getElem?_cons_zero, Option.some.injEq] at hio
      subst hio
      have p1 := PRE.out ⟨1, .data⟩ (by simp) rfl
      obtain rfl := E1.out p1
      refine wpOp_by rfl fun K HK => ?_
      go_wp2_with (fail)
      exact HK.out _ _ ⟨by rw [Array.size_setIfInBounds, HS.out], HB.out, _, _, _, _, _, _, _, _, _, _, _, _, _, _, _, x15, rfl, fun h => E0.out ((listed_set h).resolve_left (by decide)), fun _ => rfl, fun _ => rfl, fun h => E3.out ((listed_set h).resolve_left (by decide)), fun h => E4.out ((listed_set h).resolve_left (by decide)), fun h => E5.out ((listed_set h).resolve_left (by decide)), fun h => E6.out ((listed_set h).resolve_left (by decide)), fun h => E7.out ((listed_set h).resolve_left (by decide)), fun h => E8.out ((listed_set h).resolve_left (by decide)), fun h => E9.out ((listed_set h).resolve_left (by decide)), fun h => E10.out ((listed_set h).resolve_left (by decide)), fun h => E11.out ((listed_set h).resolve_left (by decide)), fun h => E12.out ((listed_set h).resolve_left (by decide)), fun h => E13.out ((listed_set h).resolve_left (by decide)), fun h => (let ⟨g, e1, e2, e3, e4⟩ := (E14.out ((listed_set h).resolve_left (by decide))); ⟨g, e1, e2, fun h5 => e3 ((listed_set h5).resolve_left (by decide)), fun h5 => e4 (unl_keepJ h5)⟩), fun h => ⟨(E15.out ((listed_set h).resolve_left (by decide))).1, listed_keep (E15.out ((listed_set h).resolve_left (by decide))).2⟩⟩
    | 3, hio =>
      clear hio
      refine wpOp_by rfl fun K HK => ?_
      go_wp2_with (fail)
      exact HK.out _ _ ⟨by rw [Array.size_setIfInBounds, HS.out], HB.out, _, _, _, _, _, _, _, _, _, _, _, _, _, _, _, x15, rfl, fun h => E0.out ((listed_set h).resolve_left (by decide)), fun h => E1.out ((listed_set h).resolve_left (by decide)), fun h => E2.out ((listed_set h).resolve_left (by decide)), fun _ => rfl, fun h => E4.out ((listed_set h).resolve_left (by decide)), fun h => E5.out ((listed_set h).resolve_left (by decide)), fun h => E6.out ((listed_set h).resolve_left (by decide)), fun h => E7.out ((listed_set h).resolve_left (by decide)), fun h => E8.out ((listed_set h).resolve_left (by decide)), fun h => E9.out ((listed_set h).resolve_left (by decide)), fun h => E10.out ((listed_set h).resolve_left (by decide)), fun h => E11.out ((listed_set h).resolve_left (by decide)), fun h => E12.out ((listed_set h).resolve_left (by decide)), fun h => E13.out ((listed_set h).resolve_left (by decide)), fun h => (let ⟨g, e1, e2, e3, e4⟩ := (E14.out ((listed_set h).resolve_left (by decide))); ⟨g, e1, e2, fun h5 => e3 ((listed_set h5).resolve_left (by decide)), fun h5 => e4 (unl_keepJ h5)⟩), fun h => ⟨(E15.out ((listed_set h).resolve_left (by decide))).1, listed_keep (E15.out ((listed_set h).resolve_left (by decide))).2⟩⟩
    | 4, hio =>
      simp only [List.getElem?_toArray, List.getElem?_cons_succ, List.getElem?_cons_zero, Option.some.injEq] at hio
      subst hio
      have p3 := PRE.out ⟨3, .data⟩ (by simp) rfl
      obtain rfl := E3.out p3
      have ha := HA4.out
      refine wpOp_by rfl fun K HK => ?_
      go_wp2_with (fail)
      exact HK.out _ _ ⟨by rw [Array.size_setIfInBounds, HS.out], HB.out, _, _, _, _, _, _, _, _, _, _, _, _, _, _, _, x15, rfl, fun h => E0.out ((listed_set h).resolve_left (by decide)), fun h => E1.out ((listed_set h).resolve_left (by decide)), fun h => E2.out ((listed_set h).resolve_left (by decide)), fun _ => rfl, fun _ => rfl, fun h => E5.out ((listed_set h).resolve_left (by decide)), fun h => E6.out ((listed_set h).resolve_left (by decide)), fun h => E7.out ((listed_set h).resolve_left (by decide)), fun h => E8.out ((listed_set h).resolve_left (by decide)), fun h => E9.out ((listed_set h).resolve_left (by decide)), fun h => E10.out ((listed_set h).resolve_left (by decide)), fun h => E11.out ((listed_set h).resolve_left (by decide)), fun h => E12.out ((listed_set h).resolve_left (by decide)), fun h => E13.out ((listed_set h).resolve_left (by decide)), fun h => (let ⟨g, e1, e2, e3, e4⟩ := (E14.out ((listed_set h).resolve_left (by decide))); ⟨g, e1, e2, fun h5 => e3 ((listed_set h5).resolve_left (by decide)), fun h5 => e4 (unl_keepJ h5)⟩), fun h => ⟨(E15.out ((listed_set h).resolve_left (by decide))).1, listed_keep (E15.out ((listed_set h).resolve_left (by decide))).2⟩⟩
    | 5, hio =>
      simp only [List.getElem?_toArray, List.getElem?_cons_succ, List.getElem?_cons_zero, Option.some.injEq] at hio
      subst hio
      have p4 := PRE.out ⟨4, .data⟩ (by simp) rfl
      obtain rfl := E4.out p4
      have CA : Hid (∀ j v, A4[j]? = some v → W.cell? ⟨w.heap.size, 4 + j, none⟩ = some v) := Lib.hid fun j v e => (HB.out.cell (p := ⟨w.heap.size, 4 + j, none⟩) L1.out).trans (RA4.out j v e)
      refine wpOp_by rfl fun K HK => ?_
      go_wp2_with (refine wpList_load_part rfl 206 _ rfl w.heap.size 4 rfl A4 _ CA.out Try.underlying206 rfl (a4_info _ SA4.out) ?_)
      exact HK.out _ _ ⟨by rw [Array.size_setIfInBounds, HS.out], HB.out, _, _, _, _, _, _, _, _, _, _, _, _, _, _, _, x15, rfl, fun h => E0.out ((listed_set h).resolve_left (by decide)), fun h => E1.out ((listed_set h).resolve_left (by decide)), fun h => E2.out ((listed_set h).resolve_left (by decide)), fun h => E3.out ((listed_set h).resolve_left (by decide)), fun _ => rfl, fun _ => rfl, fun h => E6.out ((listed_set h).resolve_left (by decide)), fun h => E7.out ((listed_set h).resolve_left (by decide)), fun h => E8.out ((listed_set h).resolve_left (by decide)), fun h => E9.out ((listed_set h).resolve_left (by decide)), fun h => E10.out ((listed_set h).resolve_left (by decide)), fun h => E11.out ((listed_set h).resolve_left (by decide)), fun h => E12.out ((listed_set h).resolve_left (by decide)), fun h => E13.out ((listed_set h).resolve_left (by decide)), fun h => (let ⟨g, e1, e2, e3, e4⟩ := (E14.out ((listed_set h).resolve_left (by decide))); ⟨g, e1, e2, fun h5 => e3 ((listed_set h5).resolve_left (by decide)), fun h5 => e4 (unl_keepJ h5)⟩), fun h => ⟨(E15.out ((listed_set h).resolve_left (by decide))).1, listed_keep (E15.out ((listed_set h).resolve_left (by decide))).2⟩⟩
    | 6, hio =>
      simp only [List.getElem?_toArray, List.getElem?_cons_succ, List.getElem?_cons_zero, Option.some.injEq] at hio
      subst hio
      have p5 := PRE.out ⟨5, .data⟩ (by simp) rfl
      obtain rfl := E5.out p5
      refine wpOp_by rfl fun K HK => ?_
      go_wp2_with fail
      refine Calls.mono ((W4.out _)) ?_
      rintro e W' ⟨rfl, hb⟩
      have HBB : Hid (Below W.heap.size W W') := Lib.hid (by rw [← hb]; exact (Below.refl _ _).alloc (Nat.le_refl _) _)
      clear hb
      go_wp2
      exact HK.out _ _ ⟨by rw [Array.size_setIfInBounds, HS.out], HB.out.trans (HBB.out.mono HB.out.size), _, _, _, _, _, _, _, _, _, _, _, _, _, _, _, x15, rfl, fun h => E0.out ((listed_set h).resolve_left (by decide)), fun h => E1.out ((listed_set h).resolve_left (by decide)), fun h => E2.out ((listed_set h).resolve_left (by decide)), fun h => E3.out ((listed_set h).resolve_left (by decide)), fun h => E4.out ((listed_set h).resolve_left (by decide)), fun _ => rfl, fun _ => rfl, fun h => E7.out ((listed_set h).resolve_left (by decide)), fun h => E8.out ((listed_set h).resolve_left (by decide)), fun h => E9.out ((listed_set h).resolve_left (by decide)), fun h => E10.out ((listed_set h).resolve_left (by decide)), fun h => E11.out ((listed_set h).resolve_left (by decide)), fun h => E12.out ((listed_set h).resolve_left (by decide)), fun h => E13.out ((listed_set h).resolve_left (by decide)), fun h => (let ⟨g, e1, e2, e3, e4⟩ := (E14.out ((listed_set h).resolve_left (by decide))); ⟨g, e1, e2, fun h5 => far_rowJ HBB.out (e3 ((listed_set h5).resolve_left (by decide))), fun h5 => far_rowJ HBB.out (e4 (unl_keepJ h5))⟩), fun h => ⟨(E15.out ((listed_set h).resolve_left (by decide))).1, listed_keep (E15.out ((listed_set h).resolve_left (by decide))).2⟩⟩
    | 7, hio =>
      simp only [List.getElem?_toArray, List.getElem?_cons_succ, List.getElem?_cons_zero, Option.some.injEq] at hio
      subst hio
      have p6 := PRE.out ⟨6, .data⟩ (by simp) rfl
      obtain rfl := E6.out p6
      refine wpOp_by rfl fun K HK => ?_
      go_wp2_with (fail)
      exact HK.out _ _ ⟨by rw [Array.size_setIfInBounds, HS.out], HB.out, _, _, _, _, _, _, _, _, _, _, _, _, _, _, _, x15, rfl, fun h => E0.out ((listed_set h).resolve_left (by decide)), fun h => E1.out ((listed_set h).resolve_left (by decide)), fun h => E2.out ((listed_set h).resolve_left (by decide)), fun h => E3.out ((listed_set h).resolve_left (by decide)), fun h => E4.out ((listed_set h).resolve_left (by decide)), fun h => E5.out ((listed_set h).resolve_left (by decide)), fun _ => rfl, fun _ => rfl, fun h => E8.out ((listed_set h).resolve_left (by decide)), fun h => E9.out ((listed_set h).resolve_left (by decide)), fun h => E10.out ((listed_set h).resolve_left (by decide)), fun h => E11.out ((listed_set h).resolve_left (by decide)), fun h => E12.out ((listed_set h).resolve_left (by decide)), fun h => E13.out ((listed_set h).resolve_left (by decide)), fun h => (let ⟨g, e1, e2, e3, e4⟩ := (E14.out ((listed_set h).resolve_left (by decide))); ⟨g, e1, e2, fun h5 => e3 ((listed_set h5).resolve_left (by decide)), fun h5 => e4 (unl_keepJ h5)⟩), fun h => ⟨(E15.out ((listed_set h).resolve_left (by decide))).1, listed_keep (E15.out ((listed_set h).resolve_left (by decide))).2⟩⟩
    | 8, hio =>
      clear hio
      refine wpOp_by rfl fun K HK => ?_
      go_wp2_with (fail)
      exact HK.out _ _ ⟨by rw [Array.size_setIfInBounds, HS.out], HB.out, _, _, _, _, _, _, _, _, _, _, _, _, _, _, _, x15, rfl, fun h => E0.out ((listed_set h).resolve_left (by decide)), fun h => E1.out ((listed_set h).resolve_left (by decide)), fun h => E2.out ((listed_set h).resolve_left (by decide)), fun h => E3.out ((listed_set h).resolve_left (by decide)), fun h => E4.out ((listed_set h).resolve_left (by decide)), fun h => E5.out ((listed_set h).resolve_left (by decide)), fun h => E6.out ((listed_set h).resolve_left (by decide)), fun h => E7.out ((listed_set h).resolve_left (by decide)), fun _ => rfl, fun h => E9.out ((listed_set h).resolve_left (by decide)), fun h => E10.out ((listed_set h).resolve_left (by decide)), fun h => E11.out ((listed_set h).resolve_left (by decide)), fun h => E12.out ((listed_set h).resolve_left (by decide)), fun h => E13.out ((listed_set h).resolve_left (by decide)), fun h => (let ⟨g, e1, e2, e3, e4⟩ := (E14.out ((listed_set h).resolve_left (by decide))); ⟨g, e1, e2, fun h5 => e3 ((listed_set h5).resolve_left (by decide)), fun h5 => e4 (unl_keepJ h5)⟩), fun h => ⟨(E15.out ((listed_set h).resolve_left (by decide))).1, listed_keep (E15.out ((listed_set h).resolve_left (by decide))).2⟩⟩
    | 9, hio =>
      simp only [List.getElem?_toArray, List.getElem?_cons_succ, List.getElem?_cons_zero, Option.some.injEq] at hio
      subst hio
      have p8 := PRE.out ⟨8, .data⟩ (by simp) rfl
      obtain rfl := E8.out p8
      have ha := HA8.out
      refine wpOp_by rfl fun K HK => ?_
      go_wp2_with (fail)
      exact HK.out _ _ ⟨by rw [Array.size_setIfInBounds, HS.out], HB.out, _, _, _, _, _, _, _, _, _, _, _, _, _, _, _, x15, rfl, fun h => E0.out ((listed_set h).resolve_left (by decide)), fun h => E1.out ((listed_set h).resolve_left (by decide)), fun h => E2.out ((listed_set h).resolve_left (by decide)), fun h => E3.out ((listed_set h).resolve_left (by decide)), fun h => E4.out ((listed_set h).resolve_left (by decide)), fun h => E5.out ((listed_set h).resolve_left (by decide)), fun h => E6.out ((listed_set h).resolve_left (by decide)), fun h => E7.out ((listed_set h).resolve_left (by decide)), fun _ => rfl, fun _ => rfl, fun h => E10.out ((listed_set h).resolve_left (by decide)), fun h => E11.out ((listed_set h).resolve_left (by decide)), fun h => E12.out ((listed_set h).resolve_left (by decide)), fun h => E13.out ((listed_set h).resolve_left (by decide)), fun h => (let ⟨g, e1, e2, e3, e4⟩ := (E14.out ((listed_set h).resolve_left (by decide))); ⟨g, e1, e2, fun h5 => e3 ((listed_set h5).resolve_left (by decide)), fun h5 => e4 (unl_keepJ h5)⟩), fun h => ⟨(E15.out ((listed_set h).resolve_left (by decide))).1, listed_keep (E15.out ((listed_set h).resolve_left (by decide))).2⟩⟩
    | 10, hio =>
      simp only [List.getElem?_toArray, List.getElem?_cons_succ, List.getElem?_cons_zero, Option.some.injEq] at hio
      subst hio
      have p9 := PRE.out ⟨9, .data⟩ (by simp) rfl
      obtain rfl := E9.out p9
      have CA : Hid (∀ j v, A8[j]? = some v → W.cell? ⟨w.heap.size, 8 + j, none⟩ = some v) := Lib.hid fun j v e => (HB.out.cell (p := ⟨w.heap.size, 8 + j, none⟩) L1.out).trans (RA8.out j v e)
      refine wpOp_by rfl fun K HK => ?_
      go_wp2_with (refine wpList_load_part rfl 206 _ rfl w.heap.size 8 rfl A8 _ CA.out Try.underlying206 rfl (a4_info _ SA8.out) ?_)
      exact HK.out _ _ ⟨by rw [Array.size_setIfInBounds, HS.out], HB.out, _, _, _, _, _, _, _, _, _, _, _, _, _, _, _, x15, rfl, fun h => E0.out ((listed_set h).resolve_left (by decide)), fun h => E1.out ((listed_set h).resolve_left (by decide)), fun h => E2.out ((listed_set h).resolve_left (by decide)), fun h => E3.out ((listed_set h).resolve_left (by decide)), fun h => E4.out ((listed_set h).resolve_left (by decide)), fun h => E5.out ((listed_set h).resolve_left (by decide)), fun h => E6.out ((listed_set h).resolve_left (by decide)), fun h => E7.out ((listed_set h).resolve_left (by decide)), fun h => E8.out ((listed_set h).resolve_left (by decide)), fun _ => rfl, fun _ => rfl, fun h => E11.out ((listed_set h).resolve_left (by decide)), fun h => E12.out ((listed_set h).resolve_left (by decide)), fun h => E13.out ((listed_set h).resolve_left (by decide)), fun h => (let ⟨g, e1, e2, e3, e4⟩ := (E14.out ((listed_set h).resolve_left (by decide))); ⟨g, e1, e2, fun h5 => e3 ((listed_set h5).resolve_left (by decide)), fun h5 => e4 (unl_keepJ h5)⟩), fun h => ⟨(E15.out ((listed_set h).resolve_left (by decide))).1, listed_keep (E15.out ((listed_set h).resolve_left (by decide))).2⟩⟩
    | 11, hio =>
      simp only [List.getElem?_toArray, List.getElem?_cons_succ, List.getElem?_cons_zero, Option.some.injEq] at hio
      subst hio
      have p10 := PRE.out ⟨10, .data⟩ (by simp) rfl
      obtain rfl := E10.out p10
      refine wpOp_by rfl fun K HK => ?_
      go_wp2_with fail
      refine Calls.mono ((W8.out _)) ?_
      rintro e W' ⟨rfl, hb⟩
      have HBB : Hid (Below W.heap.size W W') := Lib.hid (by rw [← hb]; exact (Below.refl _ _).alloc (Nat.le_refl _) _)
      clear hb
      go_wp2
      exact HK.out _ _ ⟨by rw [Array.size_setIfInBounds, HS.out], HB.out.trans (HBB.out.mono HB.out.size), _, _, _, _, _, _, _, _, _, _, _, _, _, _, _, x15, rfl, fun h => E0.out ((listed_set h).resolve_left (by decide)), fun h => E1.out ((listed_set h).resolve_left (by decide)), fun h => E2.out ((listed_set h).resolve_left (by decide)), fun h => E3.out ((listed_set h).resolve_left (by decide)), fun h => E4.out ((listed_set h).resolve_left (by decide)), fun h => E5.out ((listed_set h).resolve_left (by decide)), fun h => E6.out ((listed_set h).resolve_left (by decide)), fun h => E7.out ((listed_set h).resolve_left (by decide)), fun h => E8.out ((listed_set h).resolve_left (by decide)), fun h => E9.out ((listed_set h).resolve_left (by decide)), fun _ => rfl, fun _ => rfl, fun h => E12.out ((listed_set h).resolve_left (by decide)), fun h => E13.out ((listed_set h).resolve_left (by decide)), fun h => (let ⟨g, e1, e2, e3, e4⟩ := (E14.out ((listed_set h).resolve_left (by decide))); ⟨g, e1, e2, fun h5 => far_rowJ HBB.out (e3 ((listed_set h5).resolve_left (by decide))), fun h5 => far_rowJ HBB.out (e4 (unl_keepJ h5))⟩), fun h => ⟨(E15.out ((listed_set h).resolve_left (by decide))).1, listed_keep (E15.out ((listed_set h).resolve_left (by decide))).2⟩⟩
    | 12, hio =>
      simp only [List.getElem?_toArray, List.getElem?_cons_succ, List.getElem?_cons_zero, Option.some.injEq] at hio
      subst hio
      have p11 := PRE.out ⟨11, .data⟩ (by simp) rfl
      obtain rfl := E11.out p11
      refine wpOp_by rfl fun K HK => ?_
      go_wp2_with (fail)
      exact HK.out _ _ ⟨by rw [Array.size_setIfInBounds, HS.out], HB.out, _, _, _, _, _, _, _, _, _, _, _, _, _, _, _, x15, rfl, fun h => E0.out ((listed_set h).resolve_left (by decide)), fun h => E1.out ((listed_set h).resolve_left (by decide)), fun h => E2.out ((listed_set h).resolve_left (by decide)), fun h => E3.out ((listed_set h).resolve_left (by decide)), fun h => E4.out ((listed_set h).resolve_left (by decide)), fun h => E5.out ((listed_set h).resolve_left (by decide)), fun h => E6.out ((listed_set h).resolve_left (by decide)), fun h => E7.out ((listed_set h).resolve_left (by decide)), fun h => E8.out ((listed_set h).resolve_left (by decide)), fun h => E9.out ((listed_set h).resolve_left (by decide)), fun h => E10.out ((listed_set h).resolve_left (by decide)), fun _ => rfl, fun _ => rfl, fun h => E13.out ((listed_set h).resolve_left (by decide)), fun h => (let ⟨g, e1, e2, e3, e4⟩ := (E14.out ((listed_set h).resolve_left (by decide))); ⟨g, e1, e2, fun h5 => e3 ((listed_set h5).resolve_left (by decide)), fun h5 => e4 (unl_keepJ h5)⟩), fun h => ⟨(E15.out ((listed_set h).resolve_left (by decide))).1, listed_keep (E15.out ((listed_set h).resolve_left (by decide))).2⟩⟩
    | 13, hio =>
      simp only [List.getElem?_toArray, List.getElem?_cons_succ, List.getElem?_cons_zero, Option.some.injEq] at hio
      subst hio
      have p2 := PRE.out ⟨2, .data⟩ (by simp) rfl
      have p7 := PRE.out ⟨7, .data⟩ (by simp) rfl
      have p12 := PRE.out ⟨12, .data⟩ (by simp) rfl
      obtain rfl := E2.out p2
      obtain rfl := E7.out p7
      obtain rfl := E12.out p12
      refine wpOp_by rfl fun K HK => ?_
      go_wp2_with (fail)
      exact HK.out _ _ ⟨by rw [Array.size_setIfInBounds, HS.out], HB.out, _, _, _, _, _, _, _, _, _, _, _, _, _, _, _, x15, rfl, fun h => E0.out ((listed_set h).resolve_left (by decide)), fun h => E1.out ((listed_set h).resolve_left (by decide)), fun _ => rfl, fun h => E3.out ((listed_set h).resolve_left (by decide)), fun h => E4.out ((listed_set h).resolve_left (by decide)), fun h => E5.out ((listed_set h).resolve_left (by decide)), fun h => E6.out ((listed_set h).resolve_left (by decide)), fun _ => rfl, fun h => E8.out ((listed_set h).resolve_left (by decide)), fun h => E9.out ((listed_set h).resolve_left (by decide)), fun h => E10.out ((listed_set h).resolve_left (by decide)), fun h => E11.out ((listed_set h).resolve_left (by decide)), fun _ => rfl, fun _ => rfl, fun h => (let ⟨g, e1, e2, e3, e4⟩ := (E14.out ((listed_set h).resolve_left (by decide))); ⟨g, e1, e2, fun h5 => e3 ((listed_set h5).resolve_left (by decide)), fun h5 => e4 (unl_keepJ h5)⟩), fun h => ⟨(E15.out ((listed_set h).resolve_left (by decide))).1, listed_keep (E15.out ((listed_set h).resolve_left (by decide))).2⟩⟩
    | 14, hio =>
      clear hio
      refine wpOp_by rfl fun K HK => ?_
      go_wp2_with (fail)
      exact HK.out _ _ ⟨by rw [Array.size_setIfInBounds, HS.out], HB.out.alloc HB.out.size _, _, _, _, _, _, _, _, _, _, _, _, _, _, _, _, x15, rfl, fun h => E0.out ((listed_set h).resolve_left (by decide)), fun h => E1.out ((listed_set h).resolve_left (by decide)), fun h => E2.out ((listed_set h).resolve_left (by decide)), fun h => E3.out ((listed_set h).resolve_left (by decide)), fun h => E4.out ((listed_set h).resolve_left (by decide)), fun h => E5.out ((listed_set h).resolve_left (by decide)), fun h => E6.out ((listed_set h).resolve_left (by decide)), fun h => E7.out ((listed_set h).resolve_left (by decide)), fun h => E8.out ((listed_set h).resolve_left (by decide)), fun h => E9.out ((listed_set h).resolve_left (by decide)), fun h => E10.out ((listed_set h).resolve_left (by decide)), fun h => E11.out ((listed_set h).resolve_left (by decide)), fun h => E12.out ((listed_set h).resolve_left (by decide)), fun h => E13.out ((listed_set h).resolve_left (by decide)), fun h => ⟨W.heap.size, rfl, HB.out.size, fun h5 => absurd (E15.out ((listed_set h5).resolve_left (by decide))).2 (by rw [unlisted HU.out]; decide), fun _ => World.alloc_heap_new _ _⟩, fun h => ⟨(E15.out ((listed_set h).resolve_left (by decide))).1, listed_keep (E15.out ((listed_set h).resolve_left (by decide))).2⟩⟩
    | 15, hio =>
      simp only [List.getElem?_toArray, List.getElem?_cons_succ, List.getElem?_cons_zero, Option.some.injEq] at hio
      subst hio
      have p14 := PRE.out ⟨14, .data⟩ (by simp) rfl
      have p13 := PRE.out ⟨13, .data⟩ (by simp) rfl
      obtain rfl := E13.out p13
      obtain ⟨g, rfl, hg, -, hz⟩ := E14.out p14
      have HG := Lib.hid hg
      have HZ := Lib.hid (hz (unlisted HU.out))
      have P14 := Lib.hid p14
      clear p14 hg hz
      refine wpOp_by rfl fun K HK => ?_
      go_wp2_with (refine wpList_store_row rfl 100 _ _ rfl g #[Value.int .i64 q3, Value.int .i64 (C : Int), Value.int .i64 (L : Int)] rfl rfl 100 _ HZ.out (hd_info _ rfl) rfl (row3_one _ _ _) ?_)
      exact HK.out _ _ ⟨by rw [Array.size_setIfInBounds, HS.out], below_setRow HB.out HG.out _, _, _, _, _, _, _, _, _, _, _, _, _, _, _, _, undef, rfl, fun h => E0.out ((listed_set h).resolve_left (by decide)), fun h => E1.out ((listed_set h).resolve_left (by decide)), fun h => E2.out ((listed_set h).resolve_left (by decide)), fun h => E3.out ((listed_set h).resolve_left (by decide)), fun h => E4.out ((listed_set h).resolve_left (by decide)), fun h => E5.out ((listed_set h).resolve_left (by decide)), fun h => E6.out ((listed_set h).resolve_left (by decide)), fun h => E7.out ((listed_set h).resolve_left (by decide)), fun h => E8.out ((listed_set h).resolve_left (by decide)), fun h => E9.out ((listed_set h).resolve_left (by decide)), fun h => E10.out ((listed_set h).resolve_left (by decide)), fun h => E11.out ((listed_set h).resolve_left (by decide)), fun h => E12.out ((listed_set h).resolve_left (by decide)), fun _ => rfl, fun _ => ⟨g, rfl, HG.out, fun _ => setRow_heap _ _ _ _ _ _ HZ.out, fun h5 => by rw [listed_new (by rw [HS.out]; decide)] at h5; cases h5⟩, fun _ => ⟨rfl, listed_keep P14.out⟩⟩
    | k + 16, hio => simp at hio
  case hend1 =>
    rintro listed act W1 ⟨hs, hB, x0, x1, x2, x3, x4, x5, x6, x7, x8, x9, x10, x11, x12, x13, x14, x15, rfl, e0, e1, e2, e3, e4, e5, e6, e7, e8, e9, e10, e11, e12, e13, e14, e15⟩ hall
    obtain rfl := e0 (hall 0 (by decide))
    obtain rfl := e1 (hall 1 (by decide))
    obtain rfl := e2 (hall 2 (by decide))
    obtain rfl := e3 (hall 3 (by decide))
    obtain rfl := e4 (hall 4 (by decide))
    obtain rfl := e5 (hall 5 (by decide))
    obtain rfl := e6 (hall 6 (by decide))
    obtain rfl := e7 (hall 7 (by decide))
    obtain rfl := e8 (hall 8 (by decide))
    obtain rfl := e9 (hall 9 (by decide))
    obtain rfl := e10 (hall 10 (by decide))
    obtain rfl := e11 (hall 11 (by decide))
    obtain rfl := e12 (hall 12 (by decide))
    obtain rfl := e13 (hall 13 (by decide))
    have e14 := e14 (hall 14 (by decide))
    have e15 := e15 (hall 15 (by decide))
    clear hs
    obtain ⟨g, rfl, hg, hz, -⟩ := e14
    have G1 := Lib.hid (hz (hall 15 (by decide)))
    have GL : Hid (g < W1.heap.size) := Lib.hid (Array.getElem?_eq_some_iff.1 G1.out).1
    have GN : Hid (g ≠ w.heap.size + 1) := Lib.hid (by have := L2.out; omega)
    have D1 : Hid (W1.heap[w.heap.size]? = some (.cells (Q12 p) 141 (0, 0))) := Lib.hid ((hB.block _ L1.out).trans H0.out)
    have DL : Hid (w.heap.size < W1.heap.size) := Lib.hid (Nat.lt_of_lt_of_le L1.out hB.size)
    have REL0 : Hid (OnR w.heap.size w (w.heap.size + 1) 100 W1 W1.drew) := Lib.hid ⟨(B0.out.trans (hB.mono (Nat.le_of_lt L1.out))).drew, Nat.le_refl _, fun _ _ _ => rfl, ⟨#[Value.int .i64 0, Value.int .i64 0, Value.int .i64 0], (hB.block _ L2.out).trans H1.out, rfl⟩, Nat.le_succ _⟩
    clear hg hz hall hB e15
    go_wp2_with fail
    refine wp_region_invM (by kernel_rfl) (fun listed act W => listed.size = 7 ∧ OnR w.heap.size w (w.heap.size + 1) 100 W1 W ∧ ∃ x0 x1 x2 x3 x4 x5 x6, act = { tmps := #[.agg (Q12 p), .pointer (some ⟨w.heap.size, 0, none⟩), .pointer (some ⟨w.heap.size + 1, 0, none⟩), x6, .pointer (some ⟨g, 0, none⟩), .pointer (some ⟨w.heap.size, 3, none⟩), .int .u8 q3, .int .i64 q3, .slice (some ⟨w.heap.size, 4, none⟩) 8 8, .pointer (some ⟨w.heap.size, 4, none⟩), .agg A4, .int .u32 (C : Int), .int .i64 (C : Int), .slice (some ⟨w.heap.size, 8, none⟩) 4 4, .pointer (some ⟨w.heap.size, 8, none⟩), .agg A8, .int .u32 (L : Int), .int .i64 (L : Int), .agg #[Value.int .i64 q3, Value.int .i64 (C : Int), Value.int .i64 (L : Int)], x0, x1, x2, x3, x4], defers := [] } ∧ (listed.getD 0 false = true → x0 = .agg #[Value.int .i64 q3, Value.int .i64 (C : Int), Value.int .i64 (L : Int)]) ∧ (listed.getD 1 false = true → x1 = .agg #[Value.int .i64 q3, Value.int .i64 (C : Int), Value.int .i64 (L : Int)]) ∧ (listed.getD 2 false = true → x2 = .agg (Q12 (hdF K C L))) ∧ (listed.getD 3 false = true → x3 = .agg (Q12 p)) ∧ (listed.getD 4 false = true → x4 = .bool sg) ∧ (listed.getD 5 false = true → (x5 = undef ∧ W.heap[w.heap.size + 1]? = some (.cells #[Value.int .i64 q3, Value.int .i64 (C : Int), Value.int .i64 (L : Int)] 100 (0, 0)))) ∧ (listed.getD 6 false = true → x6 = .bool sg)) (by kernel_rfl) ?h02 (fun _ _ _ h => h.1) ?hstep2 ?hend2
    case h02 =>
      refine ⟨rfl, REL0.out, _, _, _, _, _, undef, _, rfl, ?_, ?_, ?_, ?_, ?_, ?_, ?_⟩ <;> (intro h; exact absurd h (by decide))
    case hstep2 =>
      rintro listed act W i o ⟨hs, hB, x0, x1, x2, x3, x4, x5, x6, rfl, e0, e1, e2, e3, e4, e5, e6⟩ hun hio hpre
      have HB := Lib.hid hB
      have E0 := Lib.hid e0
      have E1 := Lib.hid e1
      have E2 := Lib.hid e2
      have E3 := Lib.hid e3
      have E4 := Lib.hid e4
      have E5 := Lib.hid e5
      have E6 := Lib.hid e6
      have HS := Lib.hid hs
      have HU := Lib.hid hun
      have PRE := Lib.hid hpre
      clear e0 e1 e2 e3 e4 e5 e6 hs hpre hB hun
      match i, hio with
      | 0, hio =>
        clear hio
        have HG := Lib.hid ((HB.out.far g GL.out GN.out).trans G1.out)
        refine wpOp_by rfl fun K HK => ?_
        go_wp2_with (refine wpList_load_row rfl 100 _ rfl g rfl 100 _ _ _ HG.out Try.underlying100 rfl (hd_info _ rfl) ?_)
        exact HK.out _ _ ⟨by rw [Array.size_setIfInBounds, HS.out], HB.out, _, _, _, _, _, x5, _, rfl, fun _ => rfl, fun h => E1.out ((listed_set h).resolve_left (by decide)), fun h => E2.out ((listed_set h).resolve_left (by decide)), fun h => E3.out ((listed_set h).resolve_left (by decide)), fun h => E4.out ((listed_set h).resolve_left (by decide)), fun h => ⟨(E5.out ((listed_set h).resolve_left (by decide))).1, (E5.out ((listed_set h).resolve_left (by decide))).2⟩, fun h => E6.out ((listed_set h).resolve_left (by decide))⟩
      | 1, hio =>
        clear hio
        have HG := Lib.hid ((HB.out.far g GL.out GN.out).trans G1.out)
        refine wpOp_by rfl fun K HK => ?_
        go_wp2_with (refine wpList_load_row rfl 100 _ rfl g rfl 100 _ _ _ HG.out Try.underlying100 rfl (hd_info _ rfl) ?_)
        exact HK.out _ _ ⟨by rw [Array.size_setIfInBounds, HS.out], HB.out, _, _, _, _, _, x5, _, rfl, fun h => E0.out ((listed_set h).resolve_left (by decide)), fun _ => rfl, fun h => E2.out ((listed_set h).resolve_left (by decide)), fun h => E3.out ((listed_set h).resolve_left (by decide)), fun h => E4.out ((listed_set h).resolve_left (by decide)), fun h => ⟨(E5.out ((listed_set h).resolve_left (by decide))).1, (E5.out ((listed_set h).resolve_left (by decide))).2⟩, fun h => E6.out ((listed_set h).resolve_left (by decide))⟩
      | 2, hio =>
        simp only [List.getElem?_toArray, List.getElem?_cons_succ, List.getElem?_cons_zero, Option.some.injEq] at hio
        subst hio
        have p1 := PRE.out ⟨1, .data⟩ (by simp) rfl
        obtain rfl := E1.out p1
        refine wpOp_by rfl fun K HK => ?_
        go_wp2_with fail
        refine Calls.mono (HP.out _) ?_
        rintro e W' ⟨rfl, hb⟩
        have HBB := Lib.hid hb
        clear hb
        go_wp2
        exact HK.out _ _ ⟨by rw [Array.size_setIfInBounds, HS.out], HB.out.call HBB.out, _, _, _, _, _, x5, _, rfl, fun h => E0.out ((listed_set h).resolve_left (by decide)), fun _ => rfl, fun _ => rfl, fun h => E3.out ((listed_set h).resolve_left (by decide)), fun h => E4.out ((listed_set h).resolve_left (by decide)), fun h => ⟨(E5.out ((listed_set h).resolve_left (by decide))).1, far_rowJ HBB.out (E5.out ((listed_set h).resolve_left (by decide))).2⟩, fun h => E6.out ((listed_set h).resolve_left (by decide))⟩
      | 3, hio =>
        clear hio
        have HG := Lib.hid ((HB.out.far w.heap.size DL.out (by omega)).trans D1.out)
        refine wpOp_by rfl fun K HK => ?_
        go_wp2_with (refine wpList_load_row rfl 141 _ rfl w.heap.size rfl 141 _ _ _ HG.out Try.underlying141 rfl (p12_info _ (arr_size _ _ _)) ?_)
        exact HK.out _ _ ⟨by rw [Array.size_setIfInBounds, HS.out], HB.out, _, _, _, _, _, x5, _, rfl, fun h => E0.out ((listed_set h).resolve_left (by decide)), fun h => E1.out ((listed_set h).resolve_left (by decide)), fun h => E2.out ((listed_set h).resolve_left (by decide)), fun _ => rfl, fun h => E4.out ((listed_set h).resolve_left (by decide)), fun h => ⟨(E5.out ((listed_set h).resolve_left (by decide))).1, (E5.out ((listed_set h).resolve_left (by decide))).2⟩, fun h => E6.out ((listed_set h).resolve_left (by decide))⟩
      | 4, hio =>
        simp only [List.getElem?_toArray, List.getElem?_cons_succ, List.getElem?_cons_zero, Option.some.injEq] at hio
        subst hio
        have p2 := PRE.out ⟨2, .data⟩ (by simp) rfl
        have p3 := PRE.out ⟨3, .data⟩ (by simp) rfl
        obtain rfl := E2.out p2
        obtain rfl := E3.out p3
        have he := EQ.out W
        refine wpOp_by rfl fun K HK => ?_
        go_wp2_with (fail)
        exact HK.out _ _ ⟨by rw [Array.size_setIfInBounds, HS.out], HB.out, _, _, _, _, _, x5, _, rfl, fun h => E0.out ((listed_set h).resolve_left (by decide)), fun h => E1.out ((listed_set h).resolve_left (by decide)), fun _ => rfl, fun _ => rfl, fun _ => rfl, fun h => ⟨(E5.out ((listed_set h).resolve_left (by decide))).1, (E5.out ((listed_set h).resolve_left (by decide))).2⟩, fun h => E6.out ((listed_set h).resolve_left (by decide))⟩
      | 5, hio =>
        simp only [List.getElem?_toArray, List.getElem?_cons_succ, List.getElem?_cons_zero, Option.some.injEq] at hio
        subst hio
        have p0 := PRE.out ⟨0, .data⟩ (by simp) rfl
        obtain rfl := E0.out p0
        obtain ⟨old, ho, hos⟩ := HB.out.old
        have HO := Lib.hid ho
        have HOS := Lib.hid hos
        clear ho hos
        refine wpOp_by rfl fun K HK => ?_
        go_wp2_with (refine wpList_store_row rfl 100 _ _ rfl (w.heap.size + 1) #[Value.int .i64 q3, Value.int .i64 (C : Int), Value.int .i64 (L : Int)] rfl rfl 100 old HO.out (hd_info _ rfl) HOS.out (row3_one _ _ _) ?_)
        exact HK.out _ _ ⟨by rw [Array.size_setIfInBounds, HS.out], HB.out.store HO.out #[Value.int .i64 q3, Value.int .i64 (C : Int), Value.int .i64 (L : Int)] rfl, _, _, _, _, _, undef, _, rfl, fun _ => rfl, fun h => E1.out ((listed_set h).resolve_left (by decide)), fun h => E2.out ((listed_set h).resolve_left (by decide)), fun h => E3.out ((listed_set h).resolve_left (by decide)), fun h => E4.out ((listed_set h).resolve_left (by decide)), fun _ => ⟨rfl, setRow_heap _ _ _ _ _ _ HO.out⟩, fun h => E6.out ((listed_set h).resolve_left (by decide))⟩
      | 6, hio =>
        simp only [List.getElem?_toArray, List.getElem?_cons_succ, List.getElem?_cons_zero, Option.some.injEq] at hio
        subst hio
        have p4 := PRE.out ⟨4, .data⟩ (by simp) rfl
        obtain rfl := E4.out p4
        refine wpOp_by rfl fun K HK => ?_
        go_wp2_with (fail)
        exact HK.out _ _ ⟨by rw [Array.size_setIfInBounds, HS.out], HB.out, _, _, _, _, _, x5, _, rfl, fun h => E0.out ((listed_set h).resolve_left (by decide)), fun h => E1.out ((listed_set h).resolve_left (by decide)), fun h => E2.out ((listed_set h).resolve_left (by decide)), fun h => E3.out ((listed_set h).resolve_left (by decide)), fun _ => rfl, fun h => ⟨(E5.out ((listed_set h).resolve_left (by decide))).1, (E5.out ((listed_set h).resolve_left (by decide))).2⟩, fun _ => rfl⟩
      | k + 7, hio => simp at hio
    case hend2 =>
      rintro listed act W1 ⟨hs, hB, x0, x1, x2, x3, x4, x5, x6, rfl, e0, e1, e2, e3, e4, e5, e6⟩ hall
      obtain rfl := e0 (hall 0 (by decide))
      obtain rfl := e1 (hall 1 (by decide))
      obtain rfl := e2 (hall 2 (by decide))
      obtain rfl := e3 (hall 3 (by decide))
      obtain rfl := e4 (hall 4 (by decide))
      have e5 := e5 (hall 5 (by decide))
      obtain rfl := e6 (hall 6 (by decide))
      clear hs
      obtain ⟨-, e5⟩ := e5
      have R := Lib.hid e5
      have BW := Lib.hid hB.below
      clear e5 hB hall
      go_wp2
      refine bodyPost_ret (v := .tuple #[.agg #[Value.int .i64 q3, Value.int .i64 (C : Int), Value.int .i64 (L : Int)], .bool sg]) ?_ rfl ⟨rfl, BW.out⟩
      exact results_cell_tmp_rowF Try.results103 _ _ (w.heap.size + 1) _ _ _ _ rfl R.out Try.underlying100 rfl (hd_info _ rfl)
end Go.Proofs.Ytkijgadkgfapgaa
