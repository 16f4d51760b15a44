/-
  CONTRACTS: the text of a deed, by the specification.
-/
import Derived.Test.YtkijgadkgfapgaaDoorYp
import Derived.Test.YtkijgadkgfapgaaDoorYi
namespace Go.Proofs.YtkijgadkgfapgaaDoor
open Go.ChangeShapes Go.WideShapes Go.ChangeAt Go.RowKit
/-- the words of the kinds -/
def nmW (i : Nat) : ByteArray := if i = 0 then ⟨#[]⟩ else wdD (i : Int)
set_option maxRecDepth 20000 in
set_option maxHeartbeats 4000000 in
theorem names_any (w : World) :
    Calls Tryd.prog 26 #[] w fun e w' => e = .returned (.slice (some ⟨w.heap.size, 0, none⟩) 10 10) ∧ (∀ i, i < 10 → w'.cell? ⟨w.heap.size, i, none⟩ = some (.string (nmW i))) ∧ Below w.heap.size w w' := by
  go_enter Tryd.func26, Tryd.ntmps26
  go_wp2
  go_ret
  refine ⟨rfl, fun i hi => ?_, (Below.refl _ w).alloc (Nat.le_refl _) _⟩
  rw [World.cell?_alloc_new]
  match i, hi with
  | 0, _ => rfl
  | 1, _ => rfl
  | 2, _ => rfl
  | 3, _ => rfl
  | 4, _ => rfl
  | 5, _ => rfl
  | 6, _ => rfl
  | 7, _ => rfl
  | 8, _ => rfl
  | 9, _ => rfl
/-- a number of a deed, behind a blank -/
def numT (x : Int) : ByteArray := (⟨#[32]⟩ : ByteArray) ++ ⟨(Lib.decDigits x.toNat).toArray⟩
/-- the text of a deed -/
def dtT (k a b : Int) : ByteArray := if vdB k a b then (if 1 < nmD k then (wdD k ++ numT a) ++ numT b else if 0 < nmD k then wdD k ++ numT a else wdD k) else ⟨#[]⟩
theorem dec_one {n : Nat} (h : n < 10) : (Lib.decDigits n).length = 1 := by
  rw [Lib.decDigits, dif_pos h]
  rfl
theorem dec_more {n : Nat} (h : ¬ n < 10) : (Lib.decDigits n).length = (Lib.decDigits (n / 10)).length + 1 := by
  rw [Lib.decDigits, dif_neg h]
  simp
theorem dec_len (n : Nat) (hn : n ≤ 999) : (Lib.decDigits n).length ≤ 3 := by
  by_cases h1 : n < 10
  · rw [dec_one h1]; omega
  · rw [dec_more h1]
    by_cases h2 : n / 10 < 10
    · rw [dec_one h2]; omega
    · rw [dec_more h2, dec_one (n := n / 10 / 10) (by omega)]
      omega
theorem numT_size (x : Int) (h : 0 ≤ x ∧ x ≤ 999) : (numT x).size ≤ 4 := by
  have := dec_len x.toNat (by omega)
  unfold numT
  rw [ByteArray.size_append]
  show 1 + (Lib.decDigits x.toNat).toArray.size ≤ 4
  rw [List.size_toArray]
  omega
theorem wdD_size (k : Int) : (wdD k).size ≤ 7 := by
  unfold wdD
  repeat' (split; exact by decide)
  decide
set_option maxRecDepth 20000 in
set_option maxHeartbeats 8000000 in
theorem sDeedText_any (k a b : Int) (w : World) :
    Calls Tryd.prog 6 #[.agg (D3 k a b)] w fun e w' => e = .returned (.string (dtT k a b)) ∧ Below w.heap.size w w' := by
  obtain ⟨w1, hw1⟩ : ∃ w1, w.alloc (.cells (D3 k a b) 25) = w1 := ⟨_, rfl⟩
  have B1 : Hid (Below w.heap.size w w1) := Lib.hid (by rw [← hw1]; exact (Below.refl _ _).alloc (Nat.le_refl _) _)
  have H1 : Hid (w1.heap[w.heap.size]? = some (.cells (D3 k a b) 25 (0, 0))) := Lib.hid (by rw [← hw1]; exact World.alloc_heap_new w _)
  have L1 : Hid (w.heap.size < w1.heap.size) := Lib.hid (by rw [← hw1]; simp)
  have SV := Lib.hid (sValidDeed_any k a b)
  cases hv : vdB k a b with
  | false =>
    have E : Hid (dtT k a b = ⟨#[]⟩) := Lib.hid (by unfold dtT; rw [hv]; rfl)
    rw [hv] at SV
    clear hv
    go_enter Tryd.func6, Tryd.ntmps6
    go_wp2_with (refine wpList_load_row rfl 25 _ rfl w.heap.size rfl 25 _ _ _ H1.out Tryd.underlying25 rfl (deed_info _ rfl) ?_)
    refine (SV.out _).mono ?_
    rintro e w2 ⟨rfl, b⟩
    have B2 := Lib.hid (B1.out.trans (b.mono (Nat.le_of_lt L1.out)))
    clear b hw1
    go_wp2
    go_ret
    exact ⟨by rw [E.out]; rfl, B2.out⟩
  | true =>
    have hv2 := hv
    unfold vdB at hv2
    simp at hv2
    have k1 : 1 ≤ k := by omega
    have k9 : k ≤ 9 := by omega
    have a0 : 0 ≤ a := by omega
    have a9 : a ≤ 999 := by omega
    have b0 : 0 ≤ b := by omega
    have b9 : b ≤ 999 := by omega
    obtain ⟨K, rfl⟩ : ∃ K : Nat, k = (K : Int) := ⟨k.toNat, by omega⟩
    have DA := Lib.hid (decimal_any a.toNat (by omega))
    have DB := Lib.hid (decimal_any b.toNat (by omega))
    rw [Int.toNat_of_nonneg a0] at DA
    rw [Int.toNat_of_nonneg b0] at DB
    have NW : Hid (nmW K = wdD (K : Int)) := Lib.hid (by unfold nmW; rw [if_neg (by omega)])
    have ND := Lib.hid (nmD_any (K : Int))
    have E : Hid (dtT K a b = if 1 < nmD K then (wdD K ++ numT a) ++ numT b else if 0 < nmD K then wdD K ++ numT a else wdD K) := Lib.hid (by unfold dtT; rw [if_pos hv])
    have EA : Hid (numT a = (⟨#[32]⟩ : ByteArray) ++ ⟨(Lib.decDigits a.toNat).toArray⟩) := Lib.hid rfl
    have EB : Hid (numT b = (⟨#[32]⟩ : ByteArray) ++ ⟨(Lib.decDigits b.toNat).toArray⟩) := Lib.hid rfl
    have za := numT_size a ⟨a0, a9⟩
    have zb := numT_size b ⟨b0, b9⟩
    have zw := wdD_size (K : Int)
    rw [EA.out] at E za
    rw [EB.out] at E zb
    generalize (⟨(Lib.decDigits a.toNat).toArray⟩ : ByteArray) = TA at DA E za
    generalize (⟨(Lib.decDigits b.toNat).toArray⟩ : ByteArray) = TB at DB E zb
    have HN := nmD_in (K : Int)
    rw [hv] at SV
    generalize wdD (K : Int) = WD at NW E zw
    generalize nmD (K : Int) = N at ND HN E
    have NM := Lib.hid names_any
    have CC : Hid (∀ W, Below w1.heap.size w1 W → W.cell? ⟨w.heap.size, 0, none⟩ = some (.int .i64 (K : Int)) ∧ W.cell? ⟨w.heap.size, 1, none⟩ = some (.int .i64 a) ∧ W.cell? ⟨w.heap.size, 2, none⟩ = some (.int .i64 b)) := Lib.hid fun W hW => by
      have e := (hW.block _ L1.out).trans H1.out
      exact ⟨Lib.cell_of_heap e 0, Lib.cell_of_heap e 1, Lib.cell_of_heap e 2⟩
    have kI : (K : Int) < 10 := by omega
    have k0I : (0 : Int) ≤ (K : Int) := by omega
    have kN : Hid (K < 10) := Lib.hid (by omega)
    clear hv hv2 EA EB
    generalize dtT (K : Int) a b = T at E ⊢
    rcases HN with hN | hN | hN
    · subst hN
      have ET : Hid (T = WD) := Lib.hid (by rw [E.out]; rfl)
      clear E
      clear za zb zw
      go_enter Tryd.func6, Tryd.ntmps6
      go_wp2_with (refine wpList_load_row rfl 25 _ rfl w.heap.size rfl 25 _ _ _ H1.out Tryd.underlying25 rfl (deed_info _ rfl) ?_)
      refine (SV.out _).mono ?_
      rintro e w2 ⟨rfl, b⟩
      have B2 := Lib.hid (B1.out.trans (b.mono (Nat.le_of_lt L1.out)))
      have C2 := Lib.hid b
      have Z2 : Hid (w1.heap.size ≤ w2.heap.size) := Lib.hid b.size
      have c2 := (CC.out w2 b).1
      clear b hw1
      go_wp2_with fail
      refine wp_region_inv (by kernel_rfl) (fun listed act W => listed.size = 6 ∧ Below w2.heap.size w2 W ∧ ∃ x0 x1 x2 x3 x4 x5, act = { tmps := #[.agg (D3 (K : Int) a b), .pointer (some ⟨w.heap.size, 0, none⟩), .string ⟨#[]⟩, x5, .agg (D3 (K : Int) a b), .bool true, .bool false, x0, x1, x2, x3, x4, undef, undef, undef, undef, undef, undef, undef, undef, undef, undef, undef, undef, undef, undef, undef, undef, undef, undef, undef, undef, undef], defers := [] } ∧ (listed.getD 0 false = true → (∃ g, x0 = .slice (some ⟨g, 0, none⟩) 10 10 ∧ W.cell? ⟨g, K, none⟩ = some (.string WD))) ∧ (listed.getD 1 false = true → x1 = .pointer (some ⟨w.heap.size, 0, none⟩)) ∧ (listed.getD 2 false = true → x2 = .int .i64 (K : Int)) ∧ (listed.getD 3 false = true → ((∃ g, x3 = .pointer (some ⟨g, K, none⟩) ∧ W.cell? ⟨g, K, none⟩ = some (.string WD)) ∧ listed.getD 0 false = true)) ∧ (listed.getD 4 false = true → x4 = .string WD) ∧ (listed.getD 5 false = true → x5 = .string WD)) (by kernel_rfl) ?h00 (fun _ _ _ h => h.1) ?hstep0 ?hend0
      case h00 =>
        refine ⟨rfl, (Below.refl _ _).drew, _, _, _, _, _, _, rfl, ?_, ?_, ?_, ?_, ?_, ?_⟩ <;> (intro h; exact absurd h (by decide))
      case hstep0 =>
        rintro listed act W i o ⟨hs, hB, x0, x1, x2, x3, x4, x5, rfl, e0, e1, e2, e3, e4, e5⟩ hun hio hpre
        have HB := Lib.hid hB
        have E0 := Lib.hid e0
        have E1 := Lib.hid e1
        have E2 := Lib.hid e2
        have E3 := Lib.hid e3
        have E4 := Lib.hid e4
        have E5 := Lib.hid e5
        have HS := Lib.hid hs
        have HU := Lib.hid hun
        have PRE := Lib.hid hpre
        clear e0 e1 e2 e3 e4 e5 hs hpre hB hun
        match i, hio with
        | 0, hio =>
          clear hio
          refine wpOp_by rfl fun K HK => ?_
          go_wp2_with fail
          refine Calls.mono (NM.out _) ?_
          rintro e W' ⟨rfl, hc, hb⟩
          have HBB := Lib.hid hb
          have cK := hc _ kN.out
          rw [NW.out] at cK
          have CK := Lib.hid cK
          clear hb hc cK
          go_wp2
          exact HK.out _ _ ⟨by rw [Array.size_setIfInBounds, HS.out], HB.out.trans (HBB.out.mono HB.out.size), _, _, _, _, _, _, rfl, fun _ => ⟨_, rfl, CK.out⟩, fun h => E1.out ((listed_set h).resolve_left (by decide)), fun h => E2.out ((listed_set h).resolve_left (by decide)), fun h => absurd (E3.out ((listed_set h).resolve_left (by decide))).2 (by rw [unlisted HU.out]; decide), fun h => E4.out ((listed_set h).resolve_left (by decide)), fun h => E5.out ((listed_set h).resolve_left (by decide))⟩
        | 1, hio =>
          clear hio
          refine wpOp_by rfl fun K HK => ?_
          go_wp2_with (fail)
          exact HK.out _ _ ⟨by rw [Array.size_setIfInBounds, HS.out], HB.out, _, _, _, _, _, _, rfl, fun h => (E0.out ((listed_set h).resolve_left (by decide))), fun _ => rfl, fun h => E2.out ((listed_set h).resolve_left (by decide)), fun h => ⟨(E3.out ((listed_set h).resolve_left (by decide))).1, listed_keep (E3.out ((listed_set h).resolve_left (by decide))).2⟩, fun h => E4.out ((listed_set h).resolve_left (by decide)), fun h => E5.out ((listed_set h).resolve_left (by decide))⟩
        | 2, hio =>
          simp only [List.getElem?_toArray, List.getElem?_cons_succ, List.getElem?_cons_zero, Option.some.injEq] at hio
          subst hio
          have p1 := PRE.out ⟨1, .data⟩ (by simp) rfl
          obtain rfl := E1.out p1
          have c2 := (CC.out W (C2.out.trans (HB.out.mono Z2.out))).1
          refine wpOp_by rfl fun K HK => ?_
          go_wp2_with (fail)
          exact HK.out _ _ ⟨by rw [Array.size_setIfInBounds, HS.out], HB.out, _, _, _, _, _, _, rfl, fun h => (E0.out ((listed_set h).resolve_left (by decide))), fun _ => rfl, fun _ => rfl, fun h => ⟨(E3.out ((listed_set h).resolve_left (by decide))).1, listed_keep (E3.out ((listed_set h).resolve_left (by decide))).2⟩, fun h => E4.out ((listed_set h).resolve_left (by decide)), fun h => E5.out ((listed_set h).resolve_left (by decide))⟩
        | 3, hio =>
          simp only [List.getElem?_toArray, List.getElem?_cons_succ, List.getElem?_cons_zero, Option.some.injEq] at hio
          subst hio
          have p0 := PRE.out ⟨0, .data⟩ (by simp) rfl
          have p2 := PRE.out ⟨2, .data⟩ (by simp) rfl
          obtain rfl := E2.out p2
          obtain ⟨g, rfl, hg⟩ := E0.out p0
          have HG := Lib.hid hg
          have P0 := Lib.hid p0
          clear hg p0
          refine wpOp_by rfl fun K HK => ?_
          go_wp2_with (fail)
          exact HK.out _ _ ⟨by rw [Array.size_setIfInBounds, HS.out], HB.out, _, _, _, _, _, _, rfl, fun _ => ⟨g, rfl, HG.out⟩, fun h => E1.out ((listed_set h).resolve_left (by decide)), fun _ => rfl, fun _ => ⟨⟨g, rfl, HG.out⟩, listed_keep P0.out⟩, fun h => E4.out ((listed_set h).resolve_left (by decide)), fun h => E5.out ((listed_set h).resolve_left (by decide))⟩
        | 4, hio =>
          simp only [List.getElem?_toArray, List.getElem?_cons_succ, List.getElem?_cons_zero, Option.some.injEq] at hio
          subst hio
          have p3 := PRE.out ⟨3, .data⟩ (by simp) rfl
          obtain ⟨⟨g, rfl, hg⟩, h0⟩ := E3.out p3
          have HG := Lib.hid hg
          have H0 := Lib.hid h0
          have hgc := hg
          clear hg p3 h0
          refine wpOp_by rfl fun K HK => ?_
          go_wp2_with (fail)
          exact HK.out _ _ ⟨by rw [Array.size_setIfInBounds, HS.out], HB.out, _, _, _, _, _, _, rfl, fun h => (E0.out ((listed_set h).resolve_left (by decide))), fun h => E1.out ((listed_set h).resolve_left (by decide)), fun h => E2.out ((listed_set h).resolve_left (by decide)), fun _ => ⟨⟨g, rfl, HG.out⟩, listed_keep H0.out⟩, fun _ => rfl, fun h => E5.out ((listed_set h).resolve_left (by decide))⟩
        | 5, hio =>
          simp only [List.getElem?_toArray, List.getElem?_cons_succ, List.getElem?_cons_zero, Option.some.injEq] at hio
          subst hio
          have p4 := PRE.out ⟨4, .data⟩ (by simp) rfl
          obtain rfl := E4.out p4
          refine wpOp_by rfl fun K HK => ?_
          go_wp2_with (fail)
          exact HK.out _ _ ⟨by rw [Array.size_setIfInBounds, HS.out], HB.out, _, _, _, _, _, _, rfl, fun h => (E0.out ((listed_set h).resolve_left (by decide))), fun h => E1.out ((listed_set h).resolve_left (by decide)), fun h => E2.out ((listed_set h).resolve_left (by decide)), fun h => ⟨(E3.out ((listed_set h).resolve_left (by decide))).1, listed_keep (E3.out ((listed_set h).resolve_left (by decide))).2⟩, fun _ => rfl, fun _ => rfl⟩
        | k + 6, hio => simp at hio
      case hend0 =>
        rintro listed act W1 ⟨hs, hB, x0, x1, x2, x3, x4, x5, rfl, e0, e1, e2, e3, e4, e5⟩ hall
        have e0 := e0 (hall 0 (by decide))
        obtain rfl := e1 (hall 1 (by decide))
        obtain rfl := e2 (hall 2 (by decide))
        have e3 := e3 (hall 3 (by decide))
        obtain rfl := e4 (hall 4 (by decide))
        obtain rfl := e5 (hall 5 (by decide))
        clear hs
        obtain ⟨g, rfl, -⟩ := e0
        obtain ⟨⟨g2, rfl, -⟩, -⟩ := e3
        have B3 := Lib.hid (B2.out.trans (hB.mono (by have := Z2.out; have := L1.out; omega)))
        have c3 := (CC.out W1 (C2.out.trans (hB.mono Z2.out))).1
        have c4 := (CC.out W1 (C2.out.trans (hB.mono Z2.out))).2.1
        have c5 := (CC.out W1 (C2.out.trans (hB.mono Z2.out))).2.2
        have C3 := Lib.hid (C2.out.trans (hB.mono Z2.out))
        clear hB hall
        go_wp2_with fail
        refine (ND.out _).mono ?_
        rintro e x ⟨rfl, rfl⟩
        go_wp2_with fail
        refine (ND.out _).mono ?_
        rintro e x ⟨rfl, rfl⟩
        go_wp2
        go_ret
        exact ⟨by rw [ET.out]; rfl, B3.out⟩
    · subst hN
      have ET : Hid (T = WD ++ ((⟨#[32]⟩ : ByteArray) ++ TA)) := Lib.hid (by rw [E.out]; rfl)
      clear E
      have s1 : ¬ 9223372036854775807 < (⟨#[32]⟩ : ByteArray).size + TA.size := by rw [ByteArray.size_append] at za; omega
      have s2 : ¬ 9223372036854775807 < WD.size + ((⟨#[32]⟩ : ByteArray) ++ TA).size := by omega
      clear za zb zw
      go_enter Tryd.func6, Tryd.ntmps6
      go_wp2_with (refine wpList_load_row rfl 25 _ rfl w.heap.size rfl 25 _ _ _ H1.out Tryd.underlying25 rfl (deed_info _ rfl) ?_)
      refine (SV.out _).mono ?_
      rintro e w2 ⟨rfl, b⟩
      have B2 := Lib.hid (B1.out.trans (b.mono (Nat.le_of_lt L1.out)))
      have C2 := Lib.hid b
      have Z2 : Hid (w1.heap.size ≤ w2.heap.size) := Lib.hid b.size
      have c2 := (CC.out w2 b).1
      clear b hw1
      go_wp2_with fail
      refine wp_region_inv (by kernel_rfl) (fun listed act W => listed.size = 6 ∧ Below w2.heap.size w2 W ∧ ∃ x0 x1 x2 x3 x4 x5, act = { tmps := #[.agg (D3 (K : Int) a b), .pointer (some ⟨w.heap.size, 0, none⟩), .string ⟨#[]⟩, x5, .agg (D3 (K : Int) a b), .bool true, .bool false, x0, x1, x2, x3, x4, undef, undef, undef, undef, undef, undef, undef, undef, undef, undef, undef, undef, undef, undef, undef, undef, undef, undef, undef, undef, undef], defers := [] } ∧ (listed.getD 0 false = true → (∃ g, x0 = .slice (some ⟨g, 0, none⟩) 10 10 ∧ W.cell? ⟨g, K, none⟩ = some (.string WD))) ∧ (listed.getD 1 false = true → x1 = .pointer (some ⟨w.heap.size, 0, none⟩)) ∧ (listed.getD 2 false = true → x2 = .int .i64 (K : Int)) ∧ (listed.getD 3 false = true → ((∃ g, x3 = .pointer (some ⟨g, K, none⟩) ∧ W.cell? ⟨g, K, none⟩ = some (.string WD)) ∧ listed.getD 0 false = true)) ∧ (listed.getD 4 false = true → x4 = .string WD) ∧ (listed.getD 5 false = true → x5 = .string WD)) (by kernel_rfl) ?h01 (fun _ _ _ h => h.1) ?hstep1 ?hend1
      case h01 =>
        refine ⟨rfl, (Below.refl _ _).drew, _, _, _, _, _, _, rfl, ?_, ?_, ?_, ?_, ?_, ?_⟩ <;> (intro h; exact absurd h (by decide))
      case hstep1 =>
        rintro listed act W i o ⟨hs, hB, x0, x1, x2, x3, x4, x5, rfl, e0, e1, e2, e3, e4, e5⟩ hun hio hpre
        have HB := Lib.hid hB
        have E0 := Lib.hid e0
        have E1 := Lib.hid e1
        have E2 := Lib.hid e2
        have E3 := Lib.hid e3
        have E4 := Lib.hid e4
        have E5 := Lib.hid e5
        have HS := Lib.hid hs
        have HU := Lib.hid hun
        have PRE := Lib.hid hpre
        clear e0 e1 e2 e3 e4 e5 hs hpre hB hun
        match i, hio with
        | 0, hio =>
          clear hio
          refine wpOp_by rfl fun K HK => ?_
          go_wp2_with fail
          refine Calls.mono (NM.out _) ?_
          rintro e W' ⟨rfl, hc, hb⟩
          have HBB := Lib.hid hb
          have cK := hc _ kN.out
          rw [NW.out] at cK
          have CK := Lib.hid cK
          clear hb hc cK
          go_wp2
          exact HK.out _ _ ⟨by rw [Array.size_setIfInBounds, HS.out], HB.out.trans (HBB.out.mono HB.out.size), _, _, _, _, _, _, rfl, fun _ => ⟨_, rfl, CK.out⟩, fun h => E1.out ((listed_set h).resolve_left (by decide)), fun h => E2.out ((listed_set h).resolve_left (by decide)), fun h => absurd (E3.out ((listed_set h).resolve_left (by decide))).2 (by rw [unlisted HU.out]; decide), fun h => E4.out ((listed_set h).resolve_left (by decide)), fun h => E5.out ((listed_set h).resolve_left (by decide))⟩
        | 1, hio =>
          clear hio
          refine wpOp_by rfl fun K HK => ?_
          go_wp2_with (fail)
          exact HK.out _ _ ⟨by rw [Array.size_setIfInBounds, HS.out], HB.out, _, _, _, _, _, _, rfl, fun h => (E0.out ((listed_set h).resolve_left (by decide))), fun _ => rfl, fun h => E2.out ((listed_set h).resolve_left (by decide)), fun h => ⟨(E3.out ((listed_set h).resolve_left (by decide))).1, listed_keep (E3.out ((listed_set h).resolve_left (by decide))).2⟩, fun h => E4.out ((listed_set h).resolve_left (by decide)), fun h => E5.out ((listed_set h).resolve_left (by decide))⟩
        | 2, hio =>
          simp only [List.getElem?_toArray, List.getElem?_cons_succ, List.getElem?_cons_zero, Option.some.injEq] at hio
          subst hio
          have p1 := PRE.out ⟨1, .data⟩ (by simp) rfl
          obtain rfl := E1.out p1
          have c2 := (CC.out W (C2.out.trans (HB.out.mono Z2.out))).1
          refine wpOp_by rfl fun K HK => ?_
          go_wp2_with (fail)
          exact HK.out _ _ ⟨by rw [Array.size_setIfInBounds, HS.out], HB.out, _, _, _, _, _, _, rfl, fun h => (E0.out ((listed_set h).resolve_left (by decide))), fun _ => rfl, fun _ => rfl, fun h => ⟨(E3.out ((listed_set h).resolve_left (by decide))).1, listed_keep (E3.out ((listed_set h).resolve_left (by decide))).2⟩, fun h => E4.out ((listed_set h).resolve_left (by decide)), fun h => E5.out ((listed_set h).resolve_left (by decide))⟩
        | 3, hio =>
          simp only [List.getElem?_toArray, List.getElem?_cons_succ, List.getElem?_cons_zero, Option.some.injEq] at hio
          subst hio
          have p0 := PRE.out ⟨0, .data⟩ (by simp) rfl
          have p2 := PRE.out ⟨2, .data⟩ (by simp) rfl
          obtain rfl := E2.out p2
          obtain ⟨g, rfl, hg⟩ := E0.out p0
          have HG := Lib.hid hg
          have P0 := Lib.hid p0
          clear hg p0
          refine wpOp_by rfl fun K HK => ?_
          go_wp2_with (fail)
          exact HK.out _ _ ⟨by rw [Array.size_setIfInBounds, HS.out], HB.out, _, _, _, _, _, _, rfl, fun _ => ⟨g, rfl, HG.out⟩, fun h => E1.out ((listed_set h).resolve_left (by decide)), fun _ => rfl, fun _ => ⟨⟨g, rfl, HG.out⟩, listed_keep P0.out⟩, fun h => E4.out ((listed_set h).resolve_left (by decide)), fun h => E5.out ((listed_set h).resolve_left (by decide))⟩
        | 4, hio =>
          simp only [List.getElem?_toArray, List.getElem?_cons_succ, List.getElem?_cons_zero, Option.some.injEq] at hio
          subst hio
          have p3 := PRE.out ⟨3, .data⟩ (by simp) rfl
          obtain ⟨⟨g, rfl, hg⟩, h0⟩ := E3.out p3
          have HG := Lib.hid hg
          have H0 := Lib.hid h0
          have hgc := hg
          clear hg p3 h0
          refine wpOp_by rfl fun K HK => ?_
          go_wp2_with (fail)
          exact HK.out _ _ ⟨by rw [Array.size_setIfInBounds, HS.out], HB.out, _, _, _, _, _, _, rfl, fun h => (E0.out ((listed_set h).resolve_left (by decide))), fun h => E1.out ((listed_set h).resolve_left (by decide)), fun h => E2.out ((listed_set h).resolve_left (by decide)), fun _ => ⟨⟨g, rfl, HG.out⟩, listed_keep H0.out⟩, fun _ => rfl, fun h => E5.out ((listed_set h).resolve_left (by decide))⟩
        | 5, hio =>
          simp only [List.getElem?_toArray, List.getElem?_cons_succ, List.getElem?_cons_zero, Option.some.injEq] at hio
          subst hio
          have p4 := PRE.out ⟨4, .data⟩ (by simp) rfl
          obtain rfl := E4.out p4
          refine wpOp_by rfl fun K HK => ?_
          go_wp2_with (fail)
          exact HK.out _ _ ⟨by rw [Array.size_setIfInBounds, HS.out], HB.out, _, _, _, _, _, _, rfl, fun h => (E0.out ((listed_set h).resolve_left (by decide))), fun h => E1.out ((listed_set h).resolve_left (by decide)), fun h => E2.out ((listed_set h).resolve_left (by decide)), fun h => ⟨(E3.out ((listed_set h).resolve_left (by decide))).1, listed_keep (E3.out ((listed_set h).resolve_left (by decide))).2⟩, fun _ => rfl, fun _ => rfl⟩
        | k + 6, hio => simp at hio
      case hend1 =>
        rintro listed act W1 ⟨hs, hB, x0, x1, x2, x3, x4, x5, rfl, e0, e1, e2, e3, e4, e5⟩ hall
        have e0 := e0 (hall 0 (by decide))
        obtain rfl := e1 (hall 1 (by decide))
        obtain rfl := e2 (hall 2 (by decide))
        have e3 := e3 (hall 3 (by decide))
        obtain rfl := e4 (hall 4 (by decide))
        obtain rfl := e5 (hall 5 (by decide))
        clear hs
        obtain ⟨g, rfl, -⟩ := e0
        obtain ⟨⟨g2, rfl, -⟩, -⟩ := e3
        have B3 := Lib.hid (B2.out.trans (hB.mono (by have := Z2.out; have := L1.out; omega)))
        have c3 := (CC.out W1 (C2.out.trans (hB.mono Z2.out))).1
        have c4 := (CC.out W1 (C2.out.trans (hB.mono Z2.out))).2.1
        have c5 := (CC.out W1 (C2.out.trans (hB.mono Z2.out))).2.2
        have C3 := Lib.hid (C2.out.trans (hB.mono Z2.out))
        clear hB hall
        go_wp2_with fail
        refine (ND.out _).mono ?_
        rintro e x ⟨rfl, rfl⟩
        go_wp2_with fail
        refine (DA.out _).mono ?_
        rintro e W2 ⟨rfl, b⟩
        have B4 := Lib.hid (B3.out.trans (b.mono B3.out.size))
        have C4 := Lib.hid (C3.out.trans (b.mono C3.out.size))
        have d3 := (CC.out W2 C4.out).1
        have d5 := (CC.out W2 C4.out).2.2
        clear b c3 c4 c5
        go_wp2_with fail
        refine (ND.out _).mono ?_
        rintro e x ⟨rfl, rfl⟩
        go_wp2
        go_ret
        exact ⟨by rw [ET.out]; rfl, B4.out⟩
    · subst hN
      have ET : Hid (T = (WD ++ ((⟨#[32]⟩ : ByteArray) ++ TA)) ++ ((⟨#[32]⟩ : ByteArray) ++ TB)) := Lib.hid (by rw [E.out]; rfl)
      clear E
      have s1 : ¬ 9223372036854775807 < (⟨#[32]⟩ : ByteArray).size + TA.size := by rw [ByteArray.size_append] at za; omega
      have s2 : ¬ 9223372036854775807 < WD.size + ((⟨#[32]⟩ : ByteArray) ++ TA).size := by omega
      have s3 : ¬ 9223372036854775807 < (⟨#[32]⟩ : ByteArray).size + TB.size := by rw [ByteArray.size_append] at zb; omega
      have s4 : ¬ 9223372036854775807 < (WD ++ ((⟨#[32]⟩ : ByteArray) ++ TA)).size + ((⟨#[32]⟩ : ByteArray) ++ TB).size := by rw [ByteArray.size_append (a := WD)]; omega
      clear za zb zw
      go_enter Tryd.func6, Tryd.ntmps6
      go_wp2_with (refine wpList_load_row rfl 25 _ rfl w.heap.size rfl 25 _ _ _ H1.out Tryd.underlying25 rfl (deed_info _ rfl) ?_)
      refine (SV.out _).mono ?_
      rintro e w2 ⟨rfl, b⟩
      have B2 := Lib.hid (B1.out.trans (b.mono (Nat.le_of_lt L1.out)))
      have C2 := Lib.hid b
      have Z2 : Hid (w1.heap.size ≤ w2.heap.size) := Lib.hid b.size
      have c2 := (CC.out w2 b).1
      clear b hw1
      go_wp2_with fail
      refine wp_region_inv (by kernel_rfl) (fun listed act W => listed.size = 6 ∧ Below w2.heap.size w2 W ∧ ∃ x0 x1 x2 x3 x4 x5, act = { tmps := #[.agg (D3 (K : Int) a b), .pointer (some ⟨w.heap.size, 0, none⟩), .string ⟨#[]⟩, x5, .agg (D3 (K : Int) a b), .bool true, .bool false, x0, x1, x2, x3, x4, undef, undef, undef, undef, undef, undef, undef, undef, undef, undef, undef, undef, undef, undef, undef, undef, undef, undef, undef, undef, undef], defers := [] } ∧ (listed.getD 0 false = true → (∃ g, x0 = .slice (some ⟨g, 0, none⟩) 10 10 ∧ W.cell? ⟨g, K, none⟩ = some (.string WD))) ∧ (listed.getD 1 false = true → x1 = .pointer (some ⟨w.heap.size, 0, none⟩)) ∧ (listed.getD 2 false = true → x2 = .int .i64 (K : Int)) ∧ (listed.getD 3 false = true → ((∃ g, x3 = .pointer (some ⟨g, K, none⟩) ∧ W.cell? ⟨g, K, none⟩ = some (.string WD)) ∧ listed.getD 0 false = true)) ∧ (listed.getD 4 false = true → x4 = .string WD) ∧ (listed.getD 5 false = true → x5 = .string WD)) (by kernel_rfl) ?h02 (fun _ _ _ h => h.1) ?hstep2 ?hend2
      case h02 =>
        refine ⟨rfl, (Below.refl _ _).drew, _, _, _, _, _, _, rfl, ?_, ?_, ?_, ?_, ?_, ?_⟩ <;> (intro h; exact absurd h (by decide))
      case hstep2 =>
        rintro listed act W i o ⟨hs, hB, x0, x1, x2, x3, x4, x5, rfl, e0, e1, e2, e3, e4, e5⟩ hun hio hpre
        have HB := Lib.hid hB
        have E0 := Lib.hid e0
        have E1 := Lib.hid e1
        have E2 := Lib.hid e2
        have E3 := Lib.hid e3
        have E4 := Lib.hid e4
        have E5 := Lib.hid e5
        have HS := Lib.hid hs
        have HU := Lib.hid hun
        have PRE := Lib.hid hpre
        clear e0 e1 e2 e3 e4 e5 hs hpre hB hun
        match i, hio with
        | 0, hio =>
          clear hio
          refine wpOp_by rfl fun K HK => ?_
          go_wp2_with fail
          refine Calls.mono (NM.out _) ?_
          rintro e W' ⟨rfl, hc, hb⟩
          have HBB := Lib.hid hb
          have cK := hc _ kN.out
          rw [NW.out] at cK
          have CK := Lib.hid cK
          clear hb hc cK
          go_wp2
          exact HK.out _ _ ⟨by rw [Array.size_setIfInBounds, HS.out], HB.out.trans (HBB.out.mono HB.out.size), _, _, _, _, _, _, rfl, fun _ => ⟨_, rfl, CK.out⟩, fun h => E1.out ((listed_set h).resolve_left (by decide)), fun h => E2.out ((listed_set h).resolve_left (by decide)), fun h => absurd (E3.out ((listed_set h).resolve_left (by decide))).2 (by rw [unlisted HU.out]; decide), fun h => E4.out ((listed_set h).resolve_left (by decide)), fun h => E5.out ((listed_set h).resolve_left (by decide))⟩
        | 1, hio =>
          clear hio
          refine wpOp_by rfl fun K HK => ?_
          go_wp2_with (fail)
          exact HK.out _ _ ⟨by rw [Array.size_setIfInBounds, HS.out], HB.out, _, _, _, _, _, _, rfl, fun h => (E0.out ((listed_set h).resolve_left (by decide))), fun _ => rfl, fun h => E2.out ((listed_set h).resolve_left (by decide)), fun h => ⟨(E3.out ((listed_set h).resolve_left (by decide))).1, listed_keep (E3.out ((listed_set h).resolve_left (by decide))).2⟩, fun h => E4.out ((listed_set h).resolve_left (by decide)), fun h => E5.out ((listed_set h).resolve_left (by decide))⟩
        | 2, hio =>
          simp only [List.getElem?_toArray, List.getElem?_cons_succ, List.getElem?_cons_zero, Option.some.injEq] at hio
          subst hio
          have p1 := PRE.out ⟨1, .data⟩ (by simp) rfl
          obtain rfl := E1.out p1
          have c2 := (CC.out W (C2.out.trans (HB.out.mono Z2.out))).1
          refine wpOp_by rfl fun K HK => ?_
          go_wp2_with (fail)
          exact HK.out _ _ ⟨by rw [Array.size_setIfInBounds, HS.out], HB.out, _, _, _, _, _, _, rfl, fun h => (E0.out ((listed_set h).resolve_left (by decide))), fun _ => rfl, fun _ => rfl, fun h => ⟨(E3.out ((listed_set h).resolve_left (by decide))).1, listed_keep (E3.out ((listed_set h).resolve_left (by decide))).2⟩, fun h => E4.out ((listed_set h).resolve_left (by decide)), fun h => E5.out ((listed_set h).resolve_left (by decide))⟩
        | 3, hio =>
          simp only [List.getElem?_toArray, List.getElem?_cons_succ, List.getElem?_cons_zero, Option.some.injEq] at hio
          subst hio
          have p0 := PRE.out ⟨0, .data⟩ (by simp) rfl
          have p2 := PRE.out ⟨2, .data⟩ (by simp) rfl
          obtain rfl := E2.out p2
          obtain ⟨g, rfl, hg⟩ := E0.out p0
          have HG := Lib.hid hg
          have P0 := Lib.hid p0
          clear hg p0
          refine wpOp_by rfl fun K HK => ?_
          go_wp2_with (fail)
          exact HK.out _ _ ⟨by rw [Array.size_setIfInBounds, HS.out], HB.out, _, _, _, _, _, _, rfl, fun _ => ⟨g, rfl, HG.out⟩, fun h => E1.out ((listed_set h).resolve_left (by decide)), fun _ => rfl, fun _ => ⟨⟨g, rfl, HG.out⟩, listed_keep P0.out⟩, fun h => E4.out ((listed_set h).resolve_left (by decide)), fun h => E5.out ((listed_set h).resolve_left (by decide))⟩
        | 4, hio =>
          simp only [List.getElem?_toArray, List.getElem?_cons_succ, List.getElem?_cons_zero, Option.some.injEq] at hio
          subst hio
          have p3 := PRE.out ⟨3, .data⟩ (by simp) rfl
          obtain ⟨⟨g, rfl, hg⟩, h0⟩ := E3.out p3
          have HG := Lib.hid hg
          have H0 := Lib.hid h0
          have hgc := hg
          clear hg p3 h0
          refine wpOp_by rfl fun K HK => ?_
          go_wp2_with (fail)
          exact HK.out _ _ ⟨by rw [Array.size_setIfInBounds, HS.out], HB.out, _, _, _, _, _, _, rfl, fun h => (E0.out ((listed_set h).resolve_left (by decide))), fun h => E1.out ((listed_set h).resolve_left (by decide)), fun h => E2.out ((listed_set h).resolve_left (by decide)), fun _ => ⟨⟨g, rfl, HG.out⟩, listed_keep H0.out⟩, fun _ => rfl, fun h => E5.out ((listed_set h).resolve_left (by decide))⟩
        | 5, hio =>
          simp only [List.getElem?_toArray, List.getElem?_cons_succ, List.getElem?_cons_zero, Option.some.injEq] at hio
          subst hio
          have p4 := PRE.out ⟨4, .data⟩ (by simp) rfl
          obtain rfl := E4.out p4
          refine wpOp_by rfl fun K HK => ?_
          go_wp2_with (fail)
          exact HK.out _ _ ⟨by rw [Array.size_setIfInBounds, HS.out], HB.out, _, _, _, _, _, _, rfl, fun h => (E0.out ((listed_set h).resolve_left (by decide))), fun h => E1.out ((listed_set h).resolve_left (by decide)), fun h => E2.out ((listed_set h).resolve_left (by decide)), fun h => ⟨(E3.out ((listed_set h).resolve_left (by decide))).1, listed_keep (E3.out ((listed_set h).resolve_left (by decide))).2⟩, fun _ => rfl, fun _ => rfl⟩
        | k + 6, hio => simp at hio
      case hend2 =>
        rintro listed act W1 ⟨hs, hB, x0, x1, x2, x3, x4, x5, rfl, e0, e1, e2, e3, e4, e5⟩ hall
        have e0 := e0 (hall 0 (by decide))
        obtain rfl := e1 (hall 1 (by decide))
        obtain rfl := e2 (hall 2 (by decide))
        have e3 := e3 (hall 3 (by decide))
        obtain rfl := e4 (hall 4 (by decide))
        obtain rfl := e5 (hall 5 (by decide))
        clear hs
        obtain ⟨g, rfl, -⟩ := e0
        obtain ⟨⟨g2, rfl, -⟩, -⟩ := e3
        have B3 := Lib.hid (B2.out.trans (hB.mono (by have := Z2.out; have := L1.out; omega)))
        have c3 := (CC.out W1 (C2.out.trans (hB.mono Z2.out))).1
        have c4 := (CC.out W1 (C2.out.trans (hB.mono Z2.out))).2.1
        have c5 := (CC.out W1 (C2.out.trans (hB.mono Z2.out))).2.2
        have C3 := Lib.hid (C2.out.trans (hB.mono Z2.out))
        clear hB hall
        go_wp2_with fail
        refine (ND.out _).mono ?_
        rintro e x ⟨rfl, rfl⟩
        go_wp2_with fail
        refine (DA.out _).mono ?_
        rintro e W2 ⟨rfl, b⟩
        have B4 := Lib.hid (B3.out.trans (b.mono B3.out.size))
        have C4 := Lib.hid (C3.out.trans (b.mono C3.out.size))
        have d3 := (CC.out W2 C4.out).1
        have d5 := (CC.out W2 C4.out).2.2
        clear b c3 c4 c5
        go_wp2_with fail
        refine (ND.out _).mono ?_
        rintro e x ⟨rfl, rfl⟩
        go_wp2_with fail
        refine (DB.out _).mono ?_
        rintro e W3 ⟨rfl, b⟩
        have B5 := Lib.hid (B4.out.trans (b.mono B4.out.size))
        clear b d3 d5
        go_wp2
        go_ret
        exact ⟨by rw [ET.out]; rfl, B5.out⟩
end Go.Proofs.YtkijgadkgfapgaaDoor
