/-
  CONTRACTS: the text of a deed, by the program.
-/
import Derived.Test.YtkijgadkgfapgaaDoorYq
namespace Go.Proofs.YtkijgadkgfapgaaDoor
open Go.ChangeShapes Go.WideShapes Go.ChangeAt Go.RowKit
theorem set_other {W : World} {g g' : Nat} {old c : Array Value} {t t' : TypeId} (h : W.heap[g]? = some (.cells old t (0, 0))) (ht : t ≠ t') (A : Array Value) (h' : W.heap[g']? = some (.cells c t' (0, 0))) : (W.setRow g A).heap[g']? = some (.cells c t' (0, 0)) := by
  have hne : g ≠ g' := fun e => by
    subst e
    rw [h] at h'
    simp at h'
    exact ht h'.2
  simp only [World.setRow, Array.getElem?_modify]
  rw [if_neg hne]
  exact h'
theorem a2_info (A : Array Value) (h : A.size = 2) : (Tryd.prog.info? 68).map (·.size) = some A.size := by rw [h]; kernel_rfl
theorem row2_one (a b : Int) : (#[Value.int .i64 a, Value.int .i64 b] : Array Value).all (·.oneCell') = true := by simp [Value.oneCell']
set_option maxRecDepth 20000 in
set_option maxHeartbeats 8000000 in
theorem iDeedText_any (k a b : Int) (w : World) (hT : Pow w) (hG : 1 < w.heap.size) :
    Calls Tryd.prog 8 #[.agg (D3 k a b)] w fun e w' => e = .returned (.string (dtT k a b)) ∧ Below w.heap.size w w' := by
  have HT := Lib.hid hT
  have HG := Lib.hid hG
  clear hT hG
  obtain ⟨w1, hw1⟩ : ∃ w1, w.alloc (.cells (D3 k a b) 25) = w1 := ⟨_, rfl⟩
  have B1 : Hid (Below w.heap.size w w1) := Lib.hid (by rw [← hw1]; exact (Below.refl _ _).alloc (Nat.le_refl _) _)
  have H1 : Hid (w1.heap[w.heap.size]? = some (.cells (D3 k a b) 25 (0, 0))) := Lib.hid (by rw [← hw1]; exact World.alloc_heap_new w _)
  have L1 : Hid (w.heap.size < w1.heap.size) := Lib.hid (by rw [← hw1]; simp)
  have SV := Lib.hid (iValidDeed_any k a b)
  cases hv : vdB k a b with
  | false =>
    have E : Hid (dtT k a b = ⟨#[]⟩) := Lib.hid (by unfold dtT; rw [hv]; rfl)
    rw [hv] at SV
    clear hv
    go_enter Tryd.func8, Tryd.ntmps8
    go_wp2_with (refine wpList_load_row rfl 25 _ rfl w.heap.size rfl 25 _ _ _ H1.out Tryd.underlying25 rfl (deed_info _ rfl) ?_)
    refine (SV.out _).mono ?_
    rintro e w2 ⟨rfl, b⟩
    have B2 := Lib.hid (B1.out.trans (b.mono (Nat.le_of_lt L1.out)))
    clear b hw1
    go_wp2
    go_ret
    exact ⟨by rw [E.out]; rfl, B2.out⟩
  | true =>
    have hv2 := hv
    unfold vdB at hv2
    simp at hv2
    have k1 : 1 ≤ k := by omega
    have k9 : k ≤ 9 := by omega
    have a0 : 0 ≤ a := by omega
    have a9 : a ≤ 999 := by omega
    have b0 : 0 ≤ b := by omega
    have b9 : b ≤ 999 := by omega
    obtain ⟨kk, rfl⟩ : ∃ K : Nat, k = (K : Int) := ⟨k.toNat, by omega⟩
    have FA := Lib.hid (fun w h => formatInt_any a.toNat (by omega) w h)
    have FB := Lib.hid (fun w h => formatInt_any b.toNat (by omega) w h)
    simp only [Int.toNat_of_nonneg a0] at FA
    simp only [Int.toNat_of_nonneg b0] at FB
    have E : Hid (dtT kk a b = if 1 < nmD kk then (wdD kk ++ numT a) ++ numT b else if 0 < nmD kk then wdD kk ++ numT a else wdD kk) := Lib.hid (by unfold dtT; rw [if_pos hv])
    have EA : Hid (numT a = (⟨#[32]⟩ : ByteArray) ++ ⟨(Lib.decDigits a.toNat).toArray⟩) := Lib.hid rfl
    have EB : Hid (numT b = (⟨#[32]⟩ : ByteArray) ++ ⟨(Lib.decDigits b.toNat).toArray⟩) := Lib.hid rfl
    have za := numT_size a ⟨a0, a9⟩
    have zb := numT_size b ⟨b0, b9⟩
    have zw := wdD_size (kk : Int)
    rw [EA.out] at E za
    rw [EB.out] at E zb
    generalize (⟨(Lib.decDigits a.toNat).toArray⟩ : ByteArray) = TA at FA E za
    generalize (⟨(Lib.decDigits b.toNat).toArray⟩ : ByteArray) = TB at FB E zb
    have HN := nmD_in (kk : Int)
    rw [hv] at SV
    have MA := Lib.hid manners_any
    have NA := Lib.hid (numbersD_any (kk : Int) a b)
    have MI := Lib.hid (mn_index (kk : Int) k1 k9)
    have FO := Lib.hid (fn_one (kk : Int) k1 k9)
    generalize mnA = M at MA MI
    generalize fnD (kk : Int) = fd at MI FO
    generalize wdD (kk : Int) = WD at MI E zw
    generalize nmD (kk : Int) = N at MI HN E
    have CC : Hid (∀ W, Below w1.heap.size w1 W → W.cell? ⟨w.heap.size, 0, none⟩ = some (.int .i64 (kk : Int)) ∧ W.cell? ⟨w.heap.size, 1, none⟩ = some (.int .i64 a) ∧ W.cell? ⟨w.heap.size, 2, none⟩ = some (.int .i64 b)) := Lib.hid fun W hW => by
      have e := (hW.block _ L1.out).trans H1.out
      exact ⟨Lib.cell_of_heap e 0, Lib.cell_of_heap e 1, Lib.cell_of_heap e 2⟩
    clear hv hv2 EA EB
    generalize dtT (kk : Int) a b = T at E ⊢
    rcases HN with hN | hN | hN
    · subst hN
      have ET : Hid (T = WD) := Lib.hid (by rw [E.out]; rfl)
      clear E
      clear za zb zw
      go_enter Tryd.func8, Tryd.ntmps8
      go_wp2_with (refine wpList_load_row rfl 25 _ rfl w.heap.size rfl 25 _ _ _ H1.out Tryd.underlying25 rfl (deed_info _ rfl) ?_)
      refine (SV.out _).mono ?_
      rintro e w2 ⟨rfl, b⟩
      have B2 := Lib.hid (B1.out.trans (b.mono (Nat.le_of_lt L1.out)))
      have C2 := Lib.hid b
      have Z2 : Hid (w1.heap.size ≤ w2.heap.size) := Lib.hid b.size
      clear b hw1
      go_wp2_with fail
      refine wp_region_inv (by kernel_rfl) (fun listed act W => listed.size = 10 ∧ Below w2.heap.size w2 W ∧ ∃ x0 x1 x2 x3 x4 x5 x6 x7 x8 x9, act = { tmps := #[.agg (D3 (kk : Int) a b), .pointer (some ⟨w.heap.size, 0, none⟩), .string ⟨#[]⟩, x6, x7, undef, undef, undef, .agg (D3 (kk : Int) a b), .bool true, .bool false, x0, x1, x2, x3, x4, x5, undef, undef, undef, undef, undef, undef, undef, undef, undef, undef, undef, undef, undef, undef, undef, undef, undef], defers := [] } ∧ (listed.getD 0 false = true → x0 = .agg M) ∧ (listed.getD 1 false = true → x1 = .pointer (some ⟨w.heap.size, 0, none⟩)) ∧ (listed.getD 2 false = true → x2 = .int .i64 (kk : Int)) ∧ (listed.getD 3 false = true → x3 = .agg #[Value.string WD, Value.int .i64 0, fd]) ∧ (listed.getD 4 false = true → x4 = .agg (D3 (kk : Int) a b)) ∧ (listed.getD 5 false = true → x5 = .agg #[Value.int .i64 a, Value.int .i64 b]) ∧ (listed.getD 6 false = true → (∃ g, x6 = .pointer (some ⟨g, 0, none⟩) ∧ w2.heap.size ≤ g ∧ (listed.getD 8 false = true → W.heap[g]? = some (.cells #[Value.string WD, Value.int .i64 0, fd] 65 (0, 0))) ∧ (listed.getD 8 false = false → W.heap[g]? = some (.cells #[Value.string { data := #[] }, Value.int .i64 0, Value.nilFunc] 65 (0, 0))))) ∧ (listed.getD 7 false = true → (∃ g, x7 = .pointer (some ⟨g, 0, none⟩) ∧ w2.heap.size ≤ g ∧ (listed.getD 9 false = true → W.heap[g]? = some (.cells #[Value.int .i64 a, Value.int .i64 b] 68 (0, 0))) ∧ (listed.getD 9 false = false → W.heap[g]? = some (.cells #[Value.int .i64 0, Value.int .i64 0] 68 (0, 0))))) ∧ (listed.getD 8 false = true → (x8 = undef ∧ listed.getD 6 false = true)) ∧ (listed.getD 9 false = true → (x9 = undef ∧ listed.getD 7 false = true))) (by kernel_rfl) ?h00 (fun _ _ _ h => h.1) ?hstep0 ?hend0
      case h00 =>
        refine ⟨rfl, (Below.refl _ _).drew, _, _, _, _, _, _, _, _, undef, undef, rfl, ?_, ?_, ?_, ?_, ?_, ?_, ?_, ?_, ?_, ?_⟩ <;> (intro h; exact absurd h (by decide))
      case hstep0 =>
        rintro listed act W i o ⟨hs, hB, x0, x1, x2, x3, x4, x5, x6, x7, x8, x9, rfl, e0, e1, e2, e3, e4, e5, e6, e7, e8, e9⟩ hun hio hpre
        have HB := Lib.hid hB
        have E0 := Lib.hid e0
        have E1 := Lib.hid e1
        have E2 := Lib.hid e2
        have E3 := Lib.hid e3
        have E4 := Lib.hid e4
        have E5 := Lib.hid e5
        have E6 := Lib.hid e6
        have E7 := Lib.hid e7
        have E8 := Lib.hid e8
        have E9 := Lib.hid e9
        have HS := Lib.hid hs
        have HU := Lib.hid hun
        have PRE := Lib.hid hpre
        clear e0 e1 e2 e3 e4 e5 e6 e7 e8 e9 hs hpre hB hun
        match i, hio with
        | 0, hio =>
          clear hio
          refine wpOp_by rfl fun K HK => ?_
          go_wp2_with fail
          refine Calls.mono (MA.out _) ?_
          rintro e W' ⟨rfl, hb⟩
          have HBB := Lib.hid hb
          clear hb
          go_wp2
          exact HK.out _ _ ⟨by rw [Array.size_setIfInBounds, HS.out], HB.out.trans (HBB.out.mono HB.out.size), _, _, _, _, _, _, _, _, x8, x9, rfl, fun _ => rfl, fun h => E1.out ((listed_set h).resolve_left (by decide)), fun h => E2.out ((listed_set h).resolve_left (by decide)), fun h => E3.out ((listed_set h).resolve_left (by decide)), fun h => E4.out ((listed_set h).resolve_left (by decide)), fun h => E5.out ((listed_set h).resolve_left (by decide)), fun h => (let ⟨g, e1, e2, e3, e4⟩ := (E6.out ((listed_set h).resolve_left (by decide))); ⟨g, e1, e2, fun h5 => far_row HBB.out (e3 ((listed_set h5).resolve_left (by decide))), fun h5 => far_row HBB.out (e4 (unl_keep h5))⟩), fun h => (let ⟨g, e1, e2, e3, e4⟩ := (E7.out ((listed_set h).resolve_left (by decide))); ⟨g, e1, e2, fun h5 => far_row HBB.out (e3 ((listed_set h5).resolve_left (by decide))), fun h5 => far_row HBB.out (e4 (unl_keep h5))⟩), fun h => ⟨(E8.out ((listed_set h).resolve_left (by decide))).1, listed_keep (E8.out ((listed_set h).resolve_left (by decide))).2⟩, fun h => ⟨(E9.out ((listed_set h).resolve_left (by decide))).1, listed_keep (E9.out ((listed_set h).resolve_left (by decide))).2⟩⟩
        | 1, hio =>
          clear hio
          refine wpOp_by rfl fun K HK => ?_
          go_wp2_with (fail)
          exact HK.out _ _ ⟨by rw [Array.size_setIfInBounds, HS.out], HB.out, _, _, _, _, _, _, _, _, x8, x9, rfl, fun h => E0.out ((listed_set h).resolve_left (by decide)), fun _ => rfl, fun h => E2.out ((listed_set h).resolve_left (by decide)), fun h => E3.out ((listed_set h).resolve_left (by decide)), fun h => E4.out ((listed_set h).resolve_left (by decide)), fun h => E5.out ((listed_set h).resolve_left (by decide)), fun h => (let ⟨g, e1, e2, e3, e4⟩ := (E6.out ((listed_set h).resolve_left (by decide))); ⟨g, e1, e2, fun h5 => e3 ((listed_set h5).resolve_left (by decide)), fun h5 => e4 (unl_keep h5)⟩), fun h => (let ⟨g, e1, e2, e3, e4⟩ := (E7.out ((listed_set h).resolve_left (by decide))); ⟨g, e1, e2, fun h5 => e3 ((listed_set h5).resolve_left (by decide)), fun h5 => e4 (unl_keep h5)⟩), fun h => ⟨(E8.out ((listed_set h).resolve_left (by decide))).1, listed_keep (E8.out ((listed_set h).resolve_left (by decide))).2⟩, fun h => ⟨(E9.out ((listed_set h).resolve_left (by decide))).1, listed_keep (E9.out ((listed_set h).resolve_left (by decide))).2⟩⟩
        | 2, hio =>
          simp only [List.getElem?_toArray, List.getElem?_cons_succ, List.getElem?_cons_zero, Option.some.injEq] at hio
          subst hio
          have p1 := PRE.out ⟨1, .data⟩ (by simp) rfl
          obtain rfl := E1.out p1
          have c2 := (CC.out W (C2.out.trans (HB.out.mono Z2.out))).1
          refine wpOp_by rfl fun K HK => ?_
          go_wp2_with (fail)
          exact HK.out _ _ ⟨by rw [Array.size_setIfInBounds, HS.out], HB.out, _, _, _, _, _, _, _, _, x8, x9, rfl, fun h => E0.out ((listed_set h).resolve_left (by decide)), fun _ => rfl, fun _ => rfl, fun h => E3.out ((listed_set h).resolve_left (by decide)), fun h => E4.out ((listed_set h).resolve_left (by decide)), fun h => E5.out ((listed_set h).resolve_left (by decide)), fun h => (let ⟨g, e1, e2, e3, e4⟩ := (E6.out ((listed_set h).resolve_left (by decide))); ⟨g, e1, e2, fun h5 => e3 ((listed_set h5).resolve_left (by decide)), fun h5 => e4 (unl_keep h5)⟩), fun h => (let ⟨g, e1, e2, e3, e4⟩ := (E7.out ((listed_set h).resolve_left (by decide))); ⟨g, e1, e2, fun h5 => e3 ((listed_set h5).resolve_left (by decide)), fun h5 => e4 (unl_keep h5)⟩), fun h => ⟨(E8.out ((listed_set h).resolve_left (by decide))).1, listed_keep (E8.out ((listed_set h).resolve_left (by decide))).2⟩, fun h => ⟨(E9.out ((listed_set h).resolve_left (by decide))).1, listed_keep (E9.out ((listed_set h).resolve_left (by decide))).2⟩⟩
        | 3, hio =>
          simp only [List.getElem?_toArray, List.getElem?_cons_succ, List.getElem?_cons_zero, Option.some.injEq] at hio
          subst hio
          have p0 := PRE.out ⟨0, .data⟩ (by simp) rfl
          have p2 := PRE.out ⟨2, .data⟩ (by simp) rfl
          obtain rfl := E0.out p0
          obtain rfl := E2.out p2
          have mi := MI.out
          refine wpOp_by rfl fun K HK => ?_
          go_wp2_with (fail)
          exact HK.out _ _ ⟨by rw [Array.size_setIfInBounds, HS.out], HB.out, _, _, _, _, _, _, _, _, x8, x9, rfl, fun _ => rfl, fun h => E1.out ((listed_set h).resolve_left (by decide)), fun _ => rfl, fun _ => rfl, fun h => E4.out ((listed_set h).resolve_left (by decide)), fun h => E5.out ((listed_set h).resolve_left (by decide)), fun h => (let ⟨g, e1, e2, e3, e4⟩ := (E6.out ((listed_set h).resolve_left (by decide))); ⟨g, e1, e2, fun h5 => e3 ((listed_set h5).resolve_left (by decide)), fun h5 => e4 (unl_keep h5)⟩), fun h => (let ⟨g, e1, e2, e3, e4⟩ := (E7.out ((listed_set h).resolve_left (by decide))); ⟨g, e1, e2, fun h5 => e3 ((listed_set h5).resolve_left (by decide)), fun h5 => e4 (unl_keep h5)⟩), fun h => ⟨(E8.out ((listed_set h).resolve_left (by decide))).1, listed_keep (E8.out ((listed_set h).resolve_left (by decide))).2⟩, fun h => ⟨(E9.out ((listed_set h).resolve_left (by decide))).1, listed_keep (E9.out ((listed_set h).resolve_left (by decide))).2⟩⟩
        | 4, hio =>
          clear hio
          have DR := Lib.hid ((((C2.out.trans (HB.out.mono Z2.out))).block _ L1.out).trans H1.out)
          refine wpOp_by rfl fun K HK => ?_
          go_wp2_with (refine wpList_load_row rfl 25 _ rfl w.heap.size rfl 25 _ _ _ DR.out Tryd.underlying25 rfl (deed_info _ rfl) ?_)
          exact HK.out _ _ ⟨by rw [Array.size_setIfInBounds, HS.out], HB.out, _, _, _, _, _, _, _, _, x8, x9, rfl, fun h => E0.out ((listed_set h).resolve_left (by decide)), fun h => E1.out ((listed_set h).resolve_left (by decide)), fun h => E2.out ((listed_set h).resolve_left (by decide)), fun h => E3.out ((listed_set h).resolve_left (by decide)), fun _ => rfl, fun h => E5.out ((listed_set h).resolve_left (by decide)), fun h => (let ⟨g, e1, e2, e3, e4⟩ := (E6.out ((listed_set h).resolve_left (by decide))); ⟨g, e1, e2, fun h5 => e3 ((listed_set h5).resolve_left (by decide)), fun h5 => e4 (unl_keep h5)⟩), fun h => (let ⟨g, e1, e2, e3, e4⟩ := (E7.out ((listed_set h).resolve_left (by decide))); ⟨g, e1, e2, fun h5 => e3 ((listed_set h5).resolve_left (by decide)), fun h5 => e4 (unl_keep h5)⟩), fun h => ⟨(E8.out ((listed_set h).resolve_left (by decide))).1, listed_keep (E8.out ((listed_set h).resolve_left (by decide))).2⟩, fun h => ⟨(E9.out ((listed_set h).resolve_left (by decide))).1, listed_keep (E9.out ((listed_set h).resolve_left (by decide))).2⟩⟩
        | 5, hio =>
          simp only [List.getElem?_toArray, List.getElem?_cons_succ, List.getElem?_cons_zero, Option.some.injEq] at hio
          subst hio
          have p4 := PRE.out ⟨4, .data⟩ (by simp) rfl
          obtain rfl := E4.out p4
          refine wpOp_by rfl fun K HK => ?_
          go_wp2_with fail
          refine Calls.mono (NA.out _) ?_
          rintro e W' ⟨rfl, hb⟩
          have HBB := Lib.hid hb
          clear hb
          go_wp2
          exact HK.out _ _ ⟨by rw [Array.size_setIfInBounds, HS.out], HB.out.trans (HBB.out.mono HB.out.size), _, _, _, _, _, _, _, _, x8, x9, rfl, fun h => E0.out ((listed_set h).resolve_left (by decide)), fun h => E1.out ((listed_set h).resolve_left (by decide)), fun h => E2.out ((listed_set h).resolve_left (by decide)), fun h => E3.out ((listed_set h).resolve_left (by decide)), fun _ => rfl, fun _ => rfl, fun h => (let ⟨g, e1, e2, e3, e4⟩ := (E6.out ((listed_set h).resolve_left (by decide))); ⟨g, e1, e2, fun h5 => far_row HBB.out (e3 ((listed_set h5).resolve_left (by decide))), fun h5 => far_row HBB.out (e4 (unl_keep h5))⟩), fun h => (let ⟨g, e1, e2, e3, e4⟩ := (E7.out ((listed_set h).resolve_left (by decide))); ⟨g, e1, e2, fun h5 => far_row HBB.out (e3 ((listed_set h5).resolve_left (by decide))), fun h5 => far_row HBB.out (e4 (unl_keep h5))⟩), fun h => ⟨(E8.out ((listed_set h).resolve_left (by decide))).1, listed_keep (E8.out ((listed_set h).resolve_left (by decide))).2⟩, fun h => ⟨(E9.out ((listed_set h).resolve_left (by decide))).1, listed_keep (E9.out ((listed_set h).resolve_left (by decide))).2⟩⟩
        | 6, hio =>
          clear hio
          refine wpOp_by rfl fun K HK => ?_
          go_wp2_with (fail)
          exact HK.out _ _ ⟨by rw [Array.size_setIfInBounds, HS.out], HB.out.alloc HB.out.size _, _, _, _, _, _, _, _, _, x8, x9, rfl, fun h => E0.out ((listed_set h).resolve_left (by decide)), fun h => E1.out ((listed_set h).resolve_left (by decide)), fun h => E2.out ((listed_set h).resolve_left (by decide)), fun h => E3.out ((listed_set h).resolve_left (by decide)), fun h => E4.out ((listed_set h).resolve_left (by decide)), fun h => E5.out ((listed_set h).resolve_left (by decide)), fun h => ⟨W.heap.size, rfl, HB.out.size, fun h5 => absurd (E8.out ((listed_set h5).resolve_left (by decide))).2 (by rw [unlisted HU.out]; decide), fun _ => World.alloc_heap_new _ _⟩, fun h => (let ⟨g, e1, e2, e3, e4⟩ := (E7.out ((listed_set h).resolve_left (by decide))); ⟨g, e1, e2, fun h5 => far_row ((Below.refl _ W).alloc (Nat.le_refl _) _) (e3 ((listed_set h5).resolve_left (by decide))), fun h5 => far_row ((Below.refl _ W).alloc (Nat.le_refl _) _) (e4 (unl_keep h5))⟩), fun h => ⟨(E8.out ((listed_set h).resolve_left (by decide))).1, listed_keep (E8.out ((listed_set h).resolve_left (by decide))).2⟩, fun h => ⟨(E9.out ((listed_set h).resolve_left (by decide))).1, listed_keep (E9.out ((listed_set h).resolve_left (by decide))).2⟩⟩
        | 7, hio =>
          clear hio
          refine wpOp_by rfl fun K HK => ?_
          go_wp2_with (fail)
          exact HK.out _ _ ⟨by rw [Array.size_setIfInBounds, HS.out], HB.out.alloc HB.out.size _, _, _, _, _, _, _, _, _, x8, x9, rfl, fun h => E0.out ((listed_set h).resolve_left (by decide)), fun h => E1.out ((listed_set h).resolve_left (by decide)), fun h => E2.out ((listed_set h).resolve_left (by decide)), fun h => E3.out ((listed_set h).resolve_left (by decide)), fun h => E4.out ((listed_set h).resolve_left (by decide)), fun h => E5.out ((listed_set h).resolve_left (by decide)), fun h => (let ⟨g, e1, e2, e3, e4⟩ := (E6.out ((listed_set h).resolve_left (by decide))); ⟨g, e1, e2, fun h5 => far_row ((Below.refl _ W).alloc (Nat.le_refl _) _) (e3 ((listed_set h5).resolve_left (by decide))), fun h5 => far_row ((Below.refl _ W).alloc (Nat.le_refl _) _) (e4 (unl_keep h5))⟩), fun h => ⟨W.heap.size, rfl, HB.out.size, fun h5 => absurd (E9.out ((listed_set h5).resolve_left (by decide))).2 (by rw [unlisted HU.out]; decide), fun _ => World.alloc_heap_new _ _⟩, fun h => ⟨(E8.out ((listed_set h).resolve_left (by decide))).1, listed_keep (E8.out ((listed_set h).resolve_left (by decide))).2⟩, fun h => ⟨(E9.out ((listed_set h).resolve_left (by decide))).1, listed_keep (E9.out ((listed_set h).resolve_left (by decide))).2⟩⟩
        | 8, hio =>
          simp only [List.getElem?_toArray, List.getElem?_cons_succ, List.getElem?_cons_zero, Option.some.injEq] at hio
          subst hio
          have p6 := PRE.out ⟨6, .data⟩ (by simp) rfl
          have p3 := PRE.out ⟨3, .data⟩ (by simp) rfl
          obtain rfl := E3.out p3
          obtain ⟨g, rfl, hg, -, hz⟩ := E6.out p6
          have HG := Lib.hid hg
          have HZ := Lib.hid (hz (unlisted HU.out))
          have P4 := Lib.hid p6
          clear p6 hg hz
          refine wpOp_by rfl fun K HK => ?_
          go_wp2_with (refine wpList_store_row rfl 65 _ _ rfl g #[Value.string WD, Value.int .i64 0, fd] rfl rfl 65 _ HZ.out (mn1_info _ rfl) rfl (mn_row FO.out) ?_)
          exact HK.out _ _ ⟨by rw [Array.size_setIfInBounds, HS.out], below_setRow HB.out HG.out _, _, _, _, _, _, _, _, _, undef, x9, rfl, fun h => E0.out ((listed_set h).resolve_left (by decide)), fun h => E1.out ((listed_set h).resolve_left (by decide)), fun h => E2.out ((listed_set h).resolve_left (by decide)), fun _ => rfl, fun h => E4.out ((listed_set h).resolve_left (by decide)), fun h => E5.out ((listed_set h).resolve_left (by decide)), fun _ => ⟨g, rfl, HG.out, fun _ => setRow_heap _ _ _ _ _ _ HZ.out, fun h5 => by rw [listed_new (by rw [HS.out]; decide)] at h5; cases h5⟩, fun h => (let ⟨g, e1, e2, e3, e4⟩ := (E7.out ((listed_set h).resolve_left (by decide))); ⟨g, e1, e2, fun h5 => set_other HZ.out (by decide) #[Value.string WD, Value.int .i64 0, fd] (e3 ((listed_set h5).resolve_left (by decide))), fun h5 => set_other HZ.out (by decide) #[Value.string WD, Value.int .i64 0, fd] (e4 (unl_keep h5))⟩), fun _ => ⟨rfl, listed_keep P4.out⟩, fun h => ⟨(E9.out ((listed_set h).resolve_left (by decide))).1, listed_keep (E9.out ((listed_set h).resolve_left (by decide))).2⟩⟩
        | 9, hio =>
          simp only [List.getElem?_toArray, List.getElem?_cons_succ, List.getElem?_cons_zero, Option.some.injEq] at hio
          subst hio
          have p7 := PRE.out ⟨7, .data⟩ (by simp) rfl
          have p5 := PRE.out ⟨5, .data⟩ (by simp) rfl
          obtain rfl := E5.out p5
          obtain ⟨g, rfl, hg, -, hz⟩ := E7.out p7
          have HG := Lib.hid hg
          have HZ := Lib.hid (hz (unlisted HU.out))
          have P4 := Lib.hid p7
          clear p7 hg hz
          refine wpOp_by rfl fun K HK => ?_
          go_wp2_with (refine wpList_store_row rfl 68 _ _ rfl g #[Value.int .i64 a, Value.int .i64 b] rfl rfl 68 _ HZ.out (a2_info _ rfl) rfl (row2_one _ _) ?_)
          exact HK.out _ _ ⟨by rw [Array.size_setIfInBounds, HS.out], below_setRow HB.out HG.out _, _, _, _, _, _, _, _, _, x8, undef, rfl, fun h => E0.out ((listed_set h).resolve_left (by decide)), fun h => E1.out ((listed_set h).resolve_left (by decide)), fun h => E2.out ((listed_set h).resolve_left (by decide)), fun h => E3.out ((listed_set h).resolve_left (by decide)), fun h => E4.out ((listed_set h).resolve_left (by decide)), fun _ => rfl, fun h => (let ⟨g, e1, e2, e3, e4⟩ := (E6.out ((listed_set h).resolve_left (by decide))); ⟨g, e1, e2, fun h5 => set_other HZ.out (by decide) #[Value.int .i64 a, Value.int .i64 b] (e3 ((listed_set h5).resolve_left (by decide))), fun h5 => set_other HZ.out (by decide) #[Value.int .i64 a, Value.int .i64 b] (e4 (unl_keep h5))⟩), fun _ => ⟨g, rfl, HG.out, fun _ => setRow_heap _ _ _ _ _ _ HZ.out, fun h5 => by rw [listed_new (by rw [HS.out]; decide)] at h5; cases h5⟩, fun h => ⟨(E8.out ((listed_set h).resolve_left (by decide))).1, listed_keep (E8.out ((listed_set h).resolve_left (by decide))).2⟩, fun _ => ⟨rfl, listed_keep P4.out⟩⟩
        | k + 10, hio => simp at hio
      case hend0 =>
        rintro listed act W1 ⟨hs, hB, x0, x1, x2, x3, x4, x5, x6, x7, x8, x9, rfl, e0, e1, e2, e3, e4, e5, e6, e7, e8, e9⟩ hall
        obtain rfl := e0 (hall 0 (by decide))
        obtain rfl := e1 (hall 1 (by decide))
        obtain rfl := e2 (hall 2 (by decide))
        obtain rfl := e3 (hall 3 (by decide))
        obtain rfl := e4 (hall 4 (by decide))
        obtain rfl := e5 (hall 5 (by decide))
        have e6 := e6 (hall 6 (by decide))
        have e7 := e7 (hall 7 (by decide))
        have e8 := e8 (hall 8 (by decide))
        have e9 := e9 (hall 9 (by decide))
        clear hs
        obtain ⟨g, rfl, hg, hz, -⟩ := e6
        obtain ⟨g', rfl, hg', hz', -⟩ := e7
        have R1 : Hid (W1.heap[g]? = some (.cells #[Value.string WD, Value.int .i64 0, fd] 65 (0, 0))) := Lib.hid (hz (hall 8 (by decide)))
        have R2 : Hid (W1.heap[g']? = some (.cells #[Value.int .i64 a, Value.int .i64 b] 68 (0, 0))) := Lib.hid (hz' (hall 9 (by decide)))
        have B3 := Lib.hid (B2.out.trans (hB.mono (by have := Z2.out; have := L1.out; omega)))
        have c0 : W1.cell? ⟨g, 0, none⟩ = some (.string WD) := Lib.cell_of_heap R1.out 0
        have c1 : W1.cell? ⟨g, 1, none⟩ = some (.int .i64 0) := Lib.cell_of_heap R1.out 1
        clear hg hg' hz hz' hB hall e8 e9
        go_wp2_with fail
        refine wp_loop_rounds 1 ?_
        rw [rounds_succ]
        go_wp2
        go_ret
        exact ⟨by rw [ET.out]; rfl, B3.out⟩
    · subst hN
      have ET : Hid (T = WD ++ ((⟨#[32]⟩ : ByteArray) ++ TA)) := Lib.hid (by rw [E.out]; rfl)
      clear E
      have s1 : ¬ 9223372036854775807 < (⟨#[32]⟩ : ByteArray).size + TA.size := by rw [ByteArray.size_append] at za; omega
      have s2 : ¬ 9223372036854775807 < WD.size + ((⟨#[32]⟩ : ByteArray) ++ TA).size := by omega
      clear za zb zw
      go_enter Tryd.func8, Tryd.ntmps8
      go_wp2_with (refine wpList_load_row rfl 25 _ rfl w.heap.size rfl 25 _ _ _ H1.out Tryd.underlying25 rfl (deed_info _ rfl) ?_)
      refine (SV.out _).mono ?_
      rintro e w2 ⟨rfl, b⟩
      have B2 := Lib.hid (B1.out.trans (b.mono (Nat.le_of_lt L1.out)))
      have C2 := Lib.hid b
      have Z2 : Hid (w1.heap.size ≤ w2.heap.size) := Lib.hid b.size
      clear b hw1
      go_wp2_with fail
      refine wp_region_inv (by kernel_rfl) (fun listed act W => listed.size = 10 ∧ Below w2.heap.size w2 W ∧ ∃ x0 x1 x2 x3 x4 x5 x6 x7 x8 x9, act = { tmps := #[.agg (D3 (kk : Int) a b), .pointer (some ⟨w.heap.size, 0, none⟩), .string ⟨#[]⟩, x6, x7, undef, undef, undef, .agg (D3 (kk : Int) a b), .bool true, .bool false, x0, x1, x2, x3, x4, x5, undef, undef, undef, undef, undef, undef, undef, undef, undef, undef, undef, undef, undef, undef, undef, undef, undef], defers := [] } ∧ (listed.getD 0 false = true → x0 = .agg M) ∧ (listed.getD 1 false = true → x1 = .pointer (some ⟨w.heap.size, 0, none⟩)) ∧ (listed.getD 2 false = true → x2 = .int .i64 (kk : Int)) ∧ (listed.getD 3 false = true → x3 = .agg #[Value.string WD, Value.int .i64 1, fd]) ∧ (listed.getD 4 false = true → x4 = .agg (D3 (kk : Int) a b)) ∧ (listed.getD 5 false = true → x5 = .agg #[Value.int .i64 a, Value.int .i64 b]) ∧ (listed.getD 6 false = true → (∃ g, x6 = .pointer (some ⟨g, 0, none⟩) ∧ w2.heap.size ≤ g ∧ (listed.getD 8 false = true → W.heap[g]? = some (.cells #[Value.string WD, Value.int .i64 1, fd] 65 (0, 0))) ∧ (listed.getD 8 false = false → W.heap[g]? = some (.cells #[Value.string { data := #[] }, Value.int .i64 0, Value.nilFunc] 65 (0, 0))))) ∧ (listed.getD 7 false = true → (∃ g, x7 = .pointer (some ⟨g, 0, none⟩) ∧ w2.heap.size ≤ g ∧ (listed.getD 9 false = true → W.heap[g]? = some (.cells #[Value.int .i64 a, Value.int .i64 b] 68 (0, 0))) ∧ (listed.getD 9 false = false → W.heap[g]? = some (.cells #[Value.int .i64 0, Value.int .i64 0] 68 (0, 0))))) ∧ (listed.getD 8 false = true → (x8 = undef ∧ listed.getD 6 false = true)) ∧ (listed.getD 9 false = true → (x9 = undef ∧ listed.getD 7 false = true))) (by kernel_rfl) ?h01 (fun _ _ _ h => h.1) ?hstep1 ?hend1
      case h01 =>
        refine ⟨rfl, (Below.refl _ _).drew, _, _, _, _, _, _, _, _, undef, undef, rfl, ?_, ?_, ?_, ?_, ?_, ?_, ?_, ?_, ?_, ?_⟩ <;> (intro h; exact absurd h (by decide))
      case hstep1 =>
        rintro listed act W i o ⟨hs, hB, x0, x1, x2, x3, x4, x5, x6, x7, x8, x9, rfl, e0, e1, e2, e3, e4, e5, e6, e7, e8, e9⟩ hun hio hpre
        have HB := Lib.hid hB
        have E0 := Lib.hid e0
        have E1 := Lib.hid e1
        have E2 := Lib.hid e2
        have E3 := Lib.hid e3
        have E4 := Lib.hid e4
        have E5 := Lib.hid e5
        have E6 := Lib.hid e6
        have E7 := Lib.hid e7
        have E8 := Lib.hid e8
        have E9 := Lib.hid e9
        have HS := Lib.hid hs
        have HU := Lib.hid hun
        have PRE := Lib.hid hpre
        clear e0 e1 e2 e3 e4 e5 e6 e7 e8 e9 hs hpre hB hun
        match i, hio with
        | 0, hio =>
          clear hio
          refine wpOp_by rfl fun K HK => ?_
          go_wp2_with fail
          refine Calls.mono (MA.out _) ?_
          rintro e W' ⟨rfl, hb⟩
          have HBB := Lib.hid hb
          clear hb
          go_wp2
          exact HK.out _ _ ⟨by rw [Array.size_setIfInBounds, HS.out], HB.out.trans (HBB.out.mono HB.out.size), _, _, _, _, _, _, _, _, x8, x9, rfl, fun _ => rfl, fun h => E1.out ((listed_set h).resolve_left (by decide)), fun h => E2.out ((listed_set h).resolve_left (by decide)), fun h => E3.out ((listed_set h).resolve_left (by decide)), fun h => E4.out ((listed_set h).resolve_left (by decide)), fun h => E5.out ((listed_set h).resolve_left (by decide)), fun h => (let ⟨g, e1, e2, e3, e4⟩ := (E6.out ((listed_set h).resolve_left (by decide))); ⟨g, e1, e2, fun h5 => far_row HBB.out (e3 ((listed_set h5).resolve_left (by decide))), fun h5 => far_row HBB.out (e4 (unl_keep h5))⟩), fun h => (let ⟨g, e1, e2, e3, e4⟩ := (E7.out ((listed_set h).resolve_left (by decide))); ⟨g, e1, e2, fun h5 => far_row HBB.out (e3 ((listed_set h5).resolve_left (by decide))), fun h5 => far_row HBB.out (e4 (unl_keep h5))⟩), fun h => ⟨(E8.out ((listed_set h).resolve_left (by decide))).1, listed_keep (E8.out ((listed_set h).resolve_left (by decide))).2⟩, fun h => ⟨(E9.out ((listed_set h).resolve_left (by decide))).1, listed_keep (E9.out ((listed_set h).resolve_left (by decide))).2⟩⟩
        | 1, hio =>
          clear hio
          refine wpOp_by rfl fun K HK => ?_
          go_wp2_with (fail)
          exact HK.out _ _ ⟨by rw [Array.size_setIfInBounds, HS.out], HB.out, _, _, _, _, _, _, _, _, x8, x9, rfl, fun h => E0.out ((listed_set h).resolve_left (by decide)), fun _ => rfl, fun h => E2.out ((listed_set h).resolve_left (by decide)), fun h => E3.out ((listed_set h).resolve_left (by decide)), fun h => E4.out ((listed_set h).resolve_left (by decide)), fun h => E5.out ((listed_set h).resolve_left (by decide)), fun h => (let ⟨g, e1, e2, e3, e4⟩ := (E6.out ((listed_set h).resolve_left (by decide))); ⟨g, e1, e2, fun h5 => e3 ((listed_set h5).resolve_left (by decide)), fun h5 => e4 (unl_keep h5)⟩), fun h => (let ⟨g, e1, e2, e3, e4⟩ := (E7.out ((listed_set h).resolve_left (by decide))); ⟨g, e1, e2, fun h5 => e3 ((listed_set h5).resolve_left (by decide)), fun h5 => e4 (unl_keep h5)⟩), fun h => ⟨(E8.out ((listed_set h).resolve_left (by decide))).1, listed_keep (E8.out ((listed_set h).resolve_left (by decide))).2⟩, fun h => ⟨(E9.out ((listed_set h).resolve_left (by decide))).1, listed_keep (E9.out ((listed_set h).resolve_left (by decide))).2⟩⟩
        | 2, hio =>
          simp only [List.getElem?_toArray, List.getElem?_cons_succ, List.getElem?_cons_zero, Option.some.injEq] at hio
          subst hio
          have p1 := PRE.out ⟨1, .data⟩ (by simp) rfl
          obtain rfl := E1.out p1
          have c2 := (CC.out W (C2.out.trans (HB.out.mono Z2.out))).1
          refine wpOp_by rfl fun K HK => ?_
          go_wp2_with (fail)
          exact HK.out _ _ ⟨by rw [Array.size_setIfInBounds, HS.out], HB.out, _, _, _, _, _, _, _, _, x8, x9, rfl, fun h => E0.out ((listed_set h).resolve_left (by decide)), fun _ => rfl, fun _ => rfl, fun h => E3.out ((listed_set h).resolve_left (by decide)), fun h => E4.out ((listed_set h).resolve_left (by decide)), fun h => E5.out ((listed_set h).resolve_left (by decide)), fun h => (let ⟨g, e1, e2, e3, e4⟩ := (E6.out ((listed_set h).resolve_left (by decide))); ⟨g, e1, e2, fun h5 => e3 ((listed_set h5).resolve_left (by decide)), fun h5 => e4 (unl_keep h5)⟩), fun h => (let ⟨g, e1, e2, e3, e4⟩ := (E7.out ((listed_set h).resolve_left (by decide))); ⟨g, e1, e2, fun h5 => e3 ((listed_set h5).resolve_left (by decide)), fun h5 => e4 (unl_keep h5)⟩), fun h => ⟨(E8.out ((listed_set h).resolve_left (by decide))).1, listed_keep (E8.out ((listed_set h).resolve_left (by decide))).2⟩, fun h => ⟨(E9.out ((listed_set h).resolve_left (by decide))).1, listed_keep (E9.out ((listed_set h).resolve_left (by decide))).2⟩⟩
        | 3, hio =>
          simp only [List.getElem?_toArray, List.getElem?_cons_succ, List.getElem?_cons_zero, Option.some.injEq] at hio
          subst hio
          have p0 := PRE.out ⟨0, .data⟩ (by simp) rfl
          have p2 := PRE.out ⟨2, .data⟩ (by simp) rfl
          obtain rfl := E0.out p0
          obtain rfl := E2.out p2
          have mi := MI.out
          refine wpOp_by rfl fun K HK => ?_
          go_wp2_with (fail)
          exact HK.out _ _ ⟨by rw [Array.size_setIfInBounds, HS.out], HB.out, _, _, _, _, _, _, _, _, x8, x9, rfl, fun _ => rfl, fun h => E1.out ((listed_set h).resolve_left (by decide)), fun _ => rfl, fun _ => rfl, fun h => E4.out ((listed_set h).resolve_left (by decide)), fun h => E5.out ((listed_set h).resolve_left (by decide)), fun h => (let ⟨g, e1, e2, e3, e4⟩ := (E6.out ((listed_set h).resolve_left (by decide))); ⟨g, e1, e2, fun h5 => e3 ((listed_set h5).resolve_left (by decide)), fun h5 => e4 (unl_keep h5)⟩), fun h => (let ⟨g, e1, e2, e3, e4⟩ := (E7.out ((listed_set h).resolve_left (by decide))); ⟨g, e1, e2, fun h5 => e3 ((listed_set h5).resolve_left (by decide)), fun h5 => e4 (unl_keep h5)⟩), fun h => ⟨(E8.out ((listed_set h).resolve_left (by decide))).1, listed_keep (E8.out ((listed_set h).resolve_left (by decide))).2⟩, fun h => ⟨(E9.out ((listed_set h).resolve_left (by decide))).1, listed_keep (E9.out ((listed_set h).resolve_left (by decide))).2⟩⟩
        | 4, hio =>
          clear hio
          have DR := Lib.hid ((((C2.out.trans (HB.out.mono Z2.out))).block _ L1.out).trans H1.out)
          refine wpOp_by rfl fun K HK => ?_
          go_wp2_with (refine wpList_load_row rfl 25 _ rfl w.heap.size rfl 25 _ _ _ DR.out Tryd.underlying25 rfl (deed_info _ rfl) ?_)
          exact HK.out _ _ ⟨by rw [Array.size_setIfInBounds, HS.out], HB.out, _, _, _, _, _, _, _, _, x8, x9, rfl, fun h => E0.out ((listed_set h).resolve_left (by decide)), fun h => E1.out ((listed_set h).resolve_left (by decide)), fun h => E2.out ((listed_set h).resolve_left (by decide)), fun h => E3.out ((listed_set h).resolve_left (by decide)), fun _ => rfl, fun h => E5.out ((listed_set h).resolve_left (by decide)), fun h => (let ⟨g, e1, e2, e3, e4⟩ := (E6.out ((listed_set h).resolve_left (by decide))); ⟨g, e1, e2, fun h5 => e3 ((listed_set h5).resolve_left (by decide)), fun h5 => e4 (unl_keep h5)⟩), fun h => (let ⟨g, e1, e2, e3, e4⟩ := (E7.out ((listed_set h).resolve_left (by decide))); ⟨g, e1, e2, fun h5 => e3 ((listed_set h5).resolve_left (by decide)), fun h5 => e4 (unl_keep h5)⟩), fun h => ⟨(E8.out ((listed_set h).resolve_left (by decide))).1, listed_keep (E8.out ((listed_set h).resolve_left (by decide))).2⟩, fun h => ⟨(E9.out ((listed_set h).resolve_left (by decide))).1, listed_keep (E9.out ((listed_set h).resolve_left (by decide))).2⟩⟩
        | 5, hio =>
          simp only [List.getElem?_toArray, List.getElem?_cons_succ, List.getElem?_cons_zero, Option.some.injEq] at hio
          subst hio
          have p4 := PRE.out ⟨4, .data⟩ (by simp) rfl
          obtain rfl := E4.out p4
          refine wpOp_by rfl fun K HK => ?_
          go_wp2_with fail
          refine Calls.mono (NA.out _) ?_
          rintro e W' ⟨rfl, hb⟩
          have HBB := Lib.hid hb
          clear hb
          go_wp2
          exact HK.out _ _ ⟨by rw [Array.size_setIfInBounds, HS.out], HB.out.trans (HBB.out.mono HB.out.size), _, _, _, _, _, _, _, _, x8, x9, rfl, fun h => E0.out ((listed_set h).resolve_left (by decide)), fun h => E1.out ((listed_set h).resolve_left (by decide)), fun h => E2.out ((listed_set h).resolve_left (by decide)), fun h => E3.out ((listed_set h).resolve_left (by decide)), fun _ => rfl, fun _ => rfl, fun h => (let ⟨g, e1, e2, e3, e4⟩ := (E6.out ((listed_set h).resolve_left (by decide))); ⟨g, e1, e2, fun h5 => far_row HBB.out (e3 ((listed_set h5).resolve_left (by decide))), fun h5 => far_row HBB.out (e4 (unl_keep h5))⟩), fun h => (let ⟨g, e1, e2, e3, e4⟩ := (E7.out ((listed_set h).resolve_left (by decide))); ⟨g, e1, e2, fun h5 => far_row HBB.out (e3 ((listed_set h5).resolve_left (by decide))), fun h5 => far_row HBB.out (e4 (unl_keep h5))⟩), fun h => ⟨(E8.out ((listed_set h).resolve_left (by decide))).1, listed_keep (E8.out ((listed_set h).resolve_left (by decide))).2⟩, fun h => ⟨(E9.out ((listed_set h).resolve_left (by decide))).1, listed_keep (E9.out ((listed_set h).resolve_left (by decide))).2⟩⟩
        | 6, hio =>
          clear hio
          refine wpOp_by rfl fun K HK => ?_
          go_wp2_with (fail)
          exact HK.out _ _ ⟨by rw [Array.size_setIfInBounds, HS.out], HB.out.alloc HB.out.size _, _, _, _, _, _, _, _, _, x8, x9, rfl, fun h => E0.out ((listed_set h).resolve_left (by decide)), fun h => E1.out ((listed_set h).resolve_left (by decide)), fun h => E2.out ((listed_set h).resolve_left (by decide)), fun h => E3.out ((listed_set h).resolve_left (by decide)), fun h => E4.out ((listed_set h).resolve_left (by decide)), fun h => E5.out ((listed_set h).resolve_left (by decide)), fun h => ⟨W.heap.size, rfl, HB.out.size, fun h5 => absurd (E8.out ((listed_set h5).resolve_left (by decide))).2 (by rw [unlisted HU.out]; decide), fun _ => World.alloc_heap_new _ _⟩, fun h => (let ⟨g, e1, e2, e3, e4⟩ := (E7.out ((listed_set h).resolve_left (by decide))); ⟨g, e1, e2, fun h5 => far_row ((Below.refl _ W).alloc (Nat.le_refl _) _) (e3 ((listed_set h5).resolve_left (by decide))), fun h5 => far_row ((Below.refl _ W).alloc (Nat.le_refl _) _) (e4 (unl_keep h5))⟩), fun h => ⟨(E8.out ((listed_set h).resolve_left (by decide))).1, listed_keep (E8.out ((listed_set h).resolve_left (by decide))).2⟩, fun h => ⟨(E9.out ((listed_set h).resolve_left (by decide))).1, listed_keep (E9.out ((listed_set h).resolve_left (by decide))).2⟩⟩
        | 7, hio =>
          clear hio
          refine wpOp_by rfl fun K HK => ?_
          go_wp2_with (fail)
          exact HK.out _ _ ⟨by rw [Array.size_setIfInBounds, HS.out], HB.out.alloc HB.out.size _, _, _, _, _, _, _, _, _, x8, x9, rfl, fun h => E0.out ((listed_set h).resolve_left (by decide)), fun h => E1.out ((listed_set h).resolve_left (by decide)), fun h => E2.out ((listed_set h).resolve_left (by decide)), fun h => E3.out ((listed_set h).resolve_left (by decide)), fun h => E4.out ((listed_set h).resolve_left (by decide)), fun h => E5.out ((listed_set h).resolve_left (by decide)), fun h => (let ⟨g, e1, e2, e3, e4⟩ := (E6.out ((listed_set h).resolve_left (by decide))); ⟨g, e1, e2, fun h5 => far_row ((Below.refl _ W).alloc (Nat.le_refl _) _) (e3 ((listed_set h5).resolve_left (by decide))), fun h5 => far_row ((Below.refl _ W).alloc (Nat.le_refl _) _) (e4 (unl_keep h5))⟩), fun h => ⟨W.heap.size, rfl, HB.out.size, fun h5 => absurd (E9.out ((listed_set h5).resolve_left (by decide))).2 (by rw [unlisted HU.out]; decide), fun _ => World.alloc_heap_new _ _⟩, fun h => ⟨(E8.out ((listed_set h).resolve_left (by decide))).1, listed_keep (E8.out ((listed_set h).resolve_left (by decide))).2⟩, fun h => ⟨(E9.out ((listed_set h).resolve_left (by decide))).1, listed_keep (E9.out ((listed_set h).resolve_left (by decide))).2⟩⟩
        | 8, hio =>
          simp only [List.getElem?_toArray, List.getElem?_cons_succ, List.getElem?_cons_zero, Option.some.injEq] at hio
          subst hio
          have p6 := PRE.out ⟨6, .data⟩ (by simp) rfl
          have p3 := PRE.out ⟨3, .data⟩ (by simp) rfl
          obtain rfl := E3.out p3
          obtain ⟨g, rfl, hg, -, hz⟩ := E6.out p6
          have HG := Lib.hid hg
          have HZ := Lib.hid (hz (unlisted HU.out))
          have P4 := Lib.hid p6
          clear p6 hg hz
          refine wpOp_by rfl fun K HK => ?_
          go_wp2_with (refine wpList_store_row rfl 65 _ _ rfl g #[Value.string WD, Value.int .i64 1, fd] rfl rfl 65 _ HZ.out (mn1_info _ rfl) rfl (mn_row FO.out) ?_)
          exact HK.out _ _ ⟨by rw [Array.size_setIfInBounds, HS.out], below_setRow HB.out HG.out _, _, _, _, _, _, _, _, _, undef, x9, rfl, fun h => E0.out ((listed_set h).resolve_left (by decide)), fun h => E1.out ((listed_set h).resolve_left (by decide)), fun h => E2.out ((listed_set h).resolve_left (by decide)), fun _ => rfl, fun h => E4.out ((listed_set h).resolve_left (by decide)), fun h => E5.out ((listed_set h).resolve_left (by decide)), fun _ => ⟨g, rfl, HG.out, fun _ => setRow_heap _ _ _ _ _ _ HZ.out, fun h5 => by rw [listed_new (by rw [HS.out]; decide)] at h5; cases h5⟩, fun h => (let ⟨g, e1, e2, e3, e4⟩ := (E7.out ((listed_set h).resolve_left (by decide))); ⟨g, e1, e2, fun h5 => set_other HZ.out (by decide) #[Value.string WD, Value.int .i64 1, fd] (e3 ((listed_set h5).resolve_left (by decide))), fun h5 => set_other HZ.out (by decide) #[Value.string WD, Value.int .i64 1, fd] (e4 (unl_keep h5))⟩), fun _ => ⟨rfl, listed_keep P4.out⟩, fun h => ⟨(E9.out ((listed_set h).resolve_left (by decide))).1, listed_keep (E9.out ((listed_set h).resolve_left (by decide))).2⟩⟩
        | 9, hio =>
          simp only [List.getElem?_toArray, List.getElem?_cons_succ, List.getElem?_cons_zero, Option.some.injEq] at hio
          subst hio
          have p7 := PRE.out ⟨7, .data⟩ (by simp) rfl
          have p5 := PRE.out ⟨5, .data⟩ (by simp) rfl
          obtain rfl := E5.out p5
          obtain ⟨g, rfl, hg, -, hz⟩ := E7.out p7
          have HG := Lib.hid hg
          have HZ := Lib.hid (hz (unlisted HU.out))
          have P4 := Lib.hid p7
          clear p7 hg hz
          refine wpOp_by rfl fun K HK => ?_
          go_wp2_with (refine wpList_store_row rfl 68 _ _ rfl g #[Value.int .i64 a, Value.int .i64 b] rfl rfl 68 _ HZ.out (a2_info _ rfl) rfl (row2_one _ _) ?_)
          exact HK.out _ _ ⟨by rw [Array.size_setIfInBounds, HS.out], below_setRow HB.out HG.out _, _, _, _, _, _, _, _, _, x8, undef, rfl, fun h => E0.out ((listed_set h).resolve_left (by decide)), fun h => E1.out ((listed_set h).resolve_left (by decide)), fun h => E2.out ((listed_set h).resolve_left (by decide)), fun h => E3.out ((listed_set h).resolve_left (by decide)), fun h => E4.out ((listed_set h).resolve_left (by decide)), fun _ => rfl, fun h => (let ⟨g, e1, e2, e3, e4⟩ := (E6.out ((listed_set h).resolve_left (by decide))); ⟨g, e1, e2, fun h5 => set_other HZ.out (by decide) #[Value.int .i64 a, Value.int .i64 b] (e3 ((listed_set h5).resolve_left (by decide))), fun h5 => set_other HZ.out (by decide) #[Value.int .i64 a, Value.int .i64 b] (e4 (unl_keep h5))⟩), fun _ => ⟨g, rfl, HG.out, fun _ => setRow_heap _ _ _ _ _ _ HZ.out, fun h5 => by rw [listed_new (by rw [HS.out]; decide)] at h5; cases h5⟩, fun h => ⟨(E8.out ((listed_set h).resolve_left (by decide))).1, listed_keep (E8.out ((listed_set h).resolve_left (by decide))).2⟩, fun _ => ⟨rfl, listed_keep P4.out⟩⟩
        | k + 10, hio => simp at hio
      case hend1 =>
        rintro listed act W1 ⟨hs, hB, x0, x1, x2, x3, x4, x5, x6, x7, x8, x9, rfl, e0, e1, e2, e3, e4, e5, e6, e7, e8, e9⟩ hall
        obtain rfl := e0 (hall 0 (by decide))
        obtain rfl := e1 (hall 1 (by decide))
        obtain rfl := e2 (hall 2 (by decide))
        obtain rfl := e3 (hall 3 (by decide))
        obtain rfl := e4 (hall 4 (by decide))
        obtain rfl := e5 (hall 5 (by decide))
        have e6 := e6 (hall 6 (by decide))
        have e7 := e7 (hall 7 (by decide))
        have e8 := e8 (hall 8 (by decide))
        have e9 := e9 (hall 9 (by decide))
        clear hs
        obtain ⟨g, rfl, hg, hz, -⟩ := e6
        obtain ⟨g', rfl, hg', hz', -⟩ := e7
        have R1 : Hid (W1.heap[g]? = some (.cells #[Value.string WD, Value.int .i64 1, fd] 65 (0, 0))) := Lib.hid (hz (hall 8 (by decide)))
        have R2 : Hid (W1.heap[g']? = some (.cells #[Value.int .i64 a, Value.int .i64 b] 68 (0, 0))) := Lib.hid (hz' (hall 9 (by decide)))
        have B3 := Lib.hid (B2.out.trans (hB.mono (by have := Z2.out; have := L1.out; omega)))
        have c0 : W1.cell? ⟨g, 0, none⟩ = some (.string WD) := Lib.cell_of_heap R1.out 0
        have c1 : W1.cell? ⟨g, 1, none⟩ = some (.int .i64 1) := Lib.cell_of_heap R1.out 1
        clear hg hg' hz hz' hB hall e8 e9
        go_wp2_with fail
        refine wp_loop_rounds 2 ?_
        have d0 : W1.cell? ⟨g', 0, none⟩ = some (.int .i64 a) := Lib.cell_of_heap R2.out 0
        rw [rounds_succ]
        go_wp2_with fail
        refine (FA.out W1 (HT.out.below B3.out HG.out)).mono ?_
        rintro e W2 ⟨rfl, b⟩
        have B4 := Lib.hid (B3.out.trans (b.mono B3.out.size))
        clear b d0 c0 c1
        go_wp2
        rw [rounds_succ]
        go_wp2
        go_ret
        exact ⟨by rw [ET.out]; rfl, B4.out⟩
    · subst hN
      have ET : Hid (T = (WD ++ ((⟨#[32]⟩ : ByteArray) ++ TA)) ++ ((⟨#[32]⟩ : ByteArray) ++ TB)) := Lib.hid (by rw [E.out]; rfl)
      clear E
      have s1 : ¬ 9223372036854775807 < (⟨#[32]⟩ : ByteArray).size + TA.size := by rw [ByteArray.size_append] at za; omega
      have s2 : ¬ 9223372036854775807 < WD.size + ((⟨#[32]⟩ : ByteArray) ++ TA).size := by omega
      have s3 : ¬ 9223372036854775807 < (⟨#[32]⟩ : ByteArray).size + TB.size := by rw [ByteArray.size_append] at zb; omega
      have s4 : ¬ 9223372036854775807 < (WD ++ ((⟨#[32]⟩ : ByteArray) ++ TA)).size + ((⟨#[32]⟩ : ByteArray) ++ TB).size := by rw [ByteArray.size_append (a := WD)]; omega
      clear za zb zw
      go_enter Tryd.func8, Tryd.ntmps8
      go_wp2_with (refine wpList_load_row rfl 25 _ rfl w.heap.size rfl 25 _ _ _ H1.out Tryd.underlying25 rfl (deed_info _ rfl) ?_)
      refine (SV.out _).mono ?_
      rintro e w2 ⟨rfl, b⟩
      have B2 := Lib.hid (B1.out.trans (b.mono (Nat.le_of_lt L1.out)))
      have C2 := Lib.hid b
      have Z2 : Hid (w1.heap.size ≤ w2.heap.size) := Lib.hid b.size
      clear b hw1
      go_wp2_with fail
      refine wp_region_inv (by kernel_rfl) (fun listed act W => listed.size = 10 ∧ Below w2.heap.size w2 W ∧ ∃ x0 x1 x2 x3 x4 x5 x6 x7 x8 x9, act = { tmps := #[.agg (D3 (kk : Int) a b), .pointer (some ⟨w.heap.size, 0, none⟩), .string ⟨#[]⟩, x6, x7, undef, undef, undef, .agg (D3 (kk : Int) a b), .bool true, .bool false, x0, x1, x2, x3, x4, x5, undef, undef, undef, undef, undef, undef, undef, undef, undef, undef, undef, undef, undef, undef, undef, undef, undef], defers := [] } ∧ (listed.getD 0 false = true → x0 = .agg M) ∧ (listed.getD 1 false = true → x1 = .pointer (some ⟨w.heap.size, 0, none⟩)) ∧ (listed.getD 2 false = true → x2 = .int .i64 (kk : Int)) ∧ (listed.getD 3 false = true → x3 = .agg #[Value.string WD, Value.int .i64 2, fd]) ∧ (listed.getD 4 false = true → x4 = .agg (D3 (kk : Int) a b)) ∧ (listed.getD 5 false = true → x5 = .agg #[Value.int .i64 a, Value.int .i64 b]) ∧ (listed.getD 6 false = true → (∃ g, x6 = .pointer (some ⟨g, 0, none⟩) ∧ w2.heap.size ≤ g ∧ (listed.getD 8 false = true → W.heap[g]? = some (.cells #[Value.string WD, Value.int .i64 2, fd] 65 (0, 0))) ∧ (listed.getD 8 false = false → W.heap[g]? = some (.cells #[Value.string { data := #[] }, Value.int .i64 0, Value.nilFunc] 65 (0, 0))))) ∧ (listed.getD 7 false = true → (∃ g, x7 = .pointer (some ⟨g, 0, none⟩) ∧ w2.heap.size ≤ g ∧ (listed.getD 9 false = true → W.heap[g]? = some (.cells #[Value.int .i64 a, Value.int .i64 b] 68 (0, 0))) ∧ (listed.getD 9 false = false → W.heap[g]? = some (.cells #[Value.int .i64 0, Value.int .i64 0] 68 (0, 0))))) ∧ (listed.getD 8 false = true → (x8 = undef ∧ listed.getD 6 false = true)) ∧ (listed.getD 9 false = true → (x9 = undef ∧ listed.getD 7 false = true))) (by kernel_rfl) ?h02 (fun _ _ _ h => h.1) ?hstep2 ?hend2
      case h02 =>
        refine ⟨rfl, (Below.refl _ _).drew, _, _, _, _, _, _, _, _, undef, undef, rfl, ?_, ?_, ?_, ?_, ?_, ?_, ?_, ?_, ?_, ?_⟩ <;> (intro h; exact absurd h (by decide))
      case hstep2 =>
        rintro listed act W i o ⟨hs, hB, x0, x1, x2, x3, x4, x5, x6, x7, x8, x9, rfl, e0, e1, e2, e3, e4, e5, e6, e7, e8, e9⟩ hun hio hpre
        have HB := Lib.hid hB
        have E0 := Lib.hid e0
        have E1 := Lib.hid e1
        have E2 := Lib.hid e2
        have E3 := Lib.hid e3
        have E4 := Lib.hid e4
        have E5 := Lib.hid e5
        have E6 := Lib.hid e6
        have E7 := Lib.hid e7
        have E8 := Lib.hid e8
        have E9 := Lib.hid e9
        have HS := Lib.hid hs
        have HU := Lib.hid hun
        have PRE := Lib.hid hpre
        clear e0 e1 e2 e3 e4 e5 e6 e7 e8 e9 hs hpre hB hun
        match i, hio with
        | 0, hio =>
          clear hio
          refine wpOp_by rfl fun K HK => ?_
          go_wp2_with fail
          refine Calls.mono (MA.out _) ?_
          rintro e W' ⟨rfl, hb⟩
          have HBB := Lib.hid hb
          clear hb
          go_wp2
          exact HK.out _ _ ⟨by rw [Array.size_setIfInBounds, HS.out], HB.out.trans (HBB.out.mono HB.out.size), _, _, _, _, _, _, _, _, x8, x9, rfl, fun _ => rfl, fun h => E1.out ((listed_set h).resolve_left (by decide)), fun h => E2.out ((listed_set h).resolve_left (by decide)), fun h => E3.out ((listed_set h).resolve_left (by decide)), fun h => E4.out ((listed_set h).resolve_left (by decide)), fun h => E5.out ((listed_set h).resolve_left (by decide)), fun h => (let ⟨g, e1, e2, e3, e4⟩ := (E6.out ((listed_set h).resolve_left (by decide))); ⟨g, e1, e2, fun h5 => far_row HBB.out (e3 ((listed_set h5).resolve_left (by decide))), fun h5 => far_row HBB.out (e4 (unl_keep h5))⟩), fun h => (let ⟨g, e1, e2, e3, e4⟩ := (E7.out ((listed_set h).resolve_left (by decide))); ⟨g, e1, e2, fun h5 => far_row HBB.out (e3 ((listed_set h5).resolve_left (by decide))), fun h5 => far_row HBB.out (e4 (unl_keep h5))⟩), fun h => ⟨(E8.out ((listed_set h).resolve_left (by decide))).1, listed_keep (E8.out ((listed_set h).resolve_left (by decide))).2⟩, fun h => ⟨(E9.out ((listed_set h).resolve_left (by decide))).1, listed_keep (E9.out ((listed_set h).resolve_left (by decide))).2⟩⟩
        | 1, hio =>
          clear hio
          refine wpOp_by rfl fun K HK => ?_
          go_wp2_with (fail)
          exact HK.out _ _ ⟨by rw [Array.size_setIfInBounds, HS.out], HB.out, _, _, _, _, _, _, _, _, x8, x9, rfl, fun h => E0.out ((listed_set h).resolve_left (by decide)), fun _ => rfl, fun h => E2.out ((listed_set h).resolve_left (by decide)), fun h => E3.out ((listed_set h).resolve_left (by decide)), fun h => E4.out ((listed_set h).resolve_left (by decide)), fun h => E5.out ((listed_set h).resolve_left (by decide)), fun h => (let ⟨g, e1, e2, e3, e4⟩ := (E6.out ((listed_set h).resolve_left (by decide))); ⟨g, e1, e2, fun h5 => e3 ((listed_set h5).resolve_left (by decide)), fun h5 => e4 (unl_keep h5)⟩), fun h => (let ⟨g, e1, e2, e3, e4⟩ := (E7.out ((listed_set h).resolve_left (by decide))); ⟨g, e1, e2, fun h5 => e3 ((listed_set h5).resolve_left (by decide)), fun h5 => e4 (unl_keep h5)⟩), fun h => ⟨(E8.out ((listed_set h).resolve_left (by decide))).1, listed_keep (E8.out ((listed_set h).resolve_left (by decide))).2⟩, fun h => ⟨(E9.out ((listed_set h).resolve_left (by decide))).1, listed_keep (E9.out ((listed_set h).resolve_left (by decide))).2⟩⟩
        | 2, hio =>
          simp only [List.getElem?_toArray, List.getElem?_cons_succ, List.getElem?_cons_zero, Option.some.injEq] at hio
          subst hio
          have p1 := PRE.out ⟨1, .data⟩ (by simp) rfl
          obtain rfl := E1.out p1
          have c2 := (CC.out W (C2.out.trans (HB.out.mono Z2.out))).1
          refine wpOp_by rfl fun K HK => ?_
          go_wp2_with (fail)
          exact HK.out _ _ ⟨by rw [Array.size_setIfInBounds, HS.out], HB.out, _, _, _, _, _, _, _, _, x8, x9, rfl, fun h => E0.out ((listed_set h).resolve_left (by decide)), fun _ => rfl, fun _ => rfl, fun h => E3.out ((listed_set h).resolve_left (by decide)), fun h => E4.out ((listed_set h).resolve_left (by decide)), fun h => E5.out ((listed_set h).resolve_left (by decide)), fun h => (let ⟨g, e1, e2, e3, e4⟩ := (E6.out ((listed_set h).resolve_left (by decide))); ⟨g, e1, e2, fun h5 => e3 ((listed_set h5).resolve_left (by decide)), fun h5 => e4 (unl_keep h5)⟩), fun h => (let ⟨g, e1, e2, e3, e4⟩ := (E7.out ((listed_set h).resolve_left (by decide))); ⟨g, e1, e2, fun h5 => e3 ((listed_set h5).resolve_left (by decide)), fun h5 => e4 (unl_keep h5)⟩), fun h => ⟨(E8.out ((listed_set h).resolve_left (by decide))).1, listed_keep (E8.out ((listed_set h).resolve_left (by decide))).2⟩, fun h => ⟨(E9.out ((listed_set h).resolve_left (by decide))).1, listed_keep (E9.out ((listed_set h).resolve_left (by decide))).2⟩⟩
        | 3, hio =>
          simp only [List.getElem?_toArray, List.getElem?_cons_succ, List.getElem?_cons_zero, Option.some.injEq] at hio
          subst hio
          have p0 := PRE.out ⟨0, .data⟩ (by simp) rfl
          have p2 := PRE.out ⟨2, .data⟩ (by simp) rfl
          obtain rfl := E0.out p0
          obtain rfl := E2.out p2
          have mi := MI.out
          refine wpOp_by rfl fun K HK => ?_
          go_wp2_with (fail)
          exact HK.out _ _ ⟨by rw [Array.size_setIfInBounds, HS.out], HB.out, _, _, _, _, _, _, _, _, x8, x9, rfl, fun _ => rfl, fun h => E1.out ((listed_set h).resolve_left (by decide)), fun _ => rfl, fun _ => rfl, fun h => E4.out ((listed_set h).resolve_left (by decide)), fun h => E5.out ((listed_set h).resolve_left (by decide)), fun h => (let ⟨g, e1, e2, e3, e4⟩ := (E6.out ((listed_set h).resolve_left (by decide))); ⟨g, e1, e2, fun h5 => e3 ((listed_set h5).resolve_left (by decide)), fun h5 => e4 (unl_keep h5)⟩), fun h => (let ⟨g, e1, e2, e3, e4⟩ := (E7.out ((listed_set h).resolve_left (by decide))); ⟨g, e1, e2, fun h5 => e3 ((listed_set h5).resolve_left (by decide)), fun h5 => e4 (unl_keep h5)⟩), fun h => ⟨(E8.out ((listed_set h).resolve_left (by decide))).1, listed_keep (E8.out ((listed_set h).resolve_left (by decide))).2⟩, fun h => ⟨(E9.out ((listed_set h).resolve_left (by decide))).1, listed_keep (E9.out ((listed_set h).resolve_left (by decide))).2⟩⟩
        | 4, hio =>
          clear hio
          have DR := Lib.hid ((((C2.out.trans (HB.out.mono Z2.out))).block _ L1.out).trans H1.out)
          refine wpOp_by rfl fun K HK => ?_
          go_wp2_with (refine wpList_load_row rfl 25 _ rfl w.heap.size rfl 25 _ _ _ DR.out Tryd.underlying25 rfl (deed_info _ rfl) ?_)
          exact HK.out _ _ ⟨by rw [Array.size_setIfInBounds, HS.out], HB.out, _, _, _, _, _, _, _, _, x8, x9, rfl, fun h => E0.out ((listed_set h).resolve_left (by decide)), fun h => E1.out ((listed_set h).resolve_left (by decide)), fun h => E2.out ((listed_set h).resolve_left (by decide)), fun h => E3.out ((listed_set h).resolve_left (by decide)), fun _ => rfl, fun h => E5.out ((listed_set h).resolve_left (by decide)), fun h => (let ⟨g, e1, e2, e3, e4⟩ := (E6.out ((listed_set h).resolve_left (by decide))); ⟨g, e1, e2, fun h5 => e3 ((listed_set h5).resolve_left (by decide)), fun h5 => e4 (unl_keep h5)⟩), fun h => (let ⟨g, e1, e2, e3, e4⟩ := (E7.out ((listed_set h).resolve_left (by decide))); ⟨g, e1, e2, fun h5 => e3 ((listed_set h5).resolve_left (by decide)), fun h5 => e4 (unl_keep h5)⟩), fun h => ⟨(E8.out ((listed_set h).resolve_left (by decide))).1, listed_keep (E8.out ((listed_set h).resolve_left (by decide))).2⟩, fun h => ⟨(E9.out ((listed_set h).resolve_left (by decide))).1, listed_keep (E9.out ((listed_set h).resolve_left (by decide))).2⟩⟩
        | 5, hio =>
          simp only [List.getElem?_toArray, List.getElem?_cons_succ, List.getElem?_cons_zero, Option.some.injEq] at hio
          subst hio
          have p4 := PRE.out ⟨4, .data⟩ (by simp) rfl
          obtain rfl := E4.out p4
          refine wpOp_by rfl fun K HK => ?_
          go_wp2_with fail
          refine Calls.mono (NA.out _) ?_
          rintro e W' ⟨rfl, hb⟩
          have HBB := Lib.hid hb
          clear hb
          go_wp2
          exact HK.out _ _ ⟨by rw [Array.size_setIfInBounds, HS.out], HB.out.trans (HBB.out.mono HB.out.size), _, _, _, _, _, _, _, _, x8, x9, rfl, fun h => E0.out ((listed_set h).resolve_left (by decide)), fun h => E1.out ((listed_set h).resolve_left (by decide)), fun h => E2.out ((listed_set h).resolve_left (by decide)), fun h => E3.out ((listed_set h).resolve_left (by decide)), fun _ => rfl, fun _ => rfl, fun h => (let ⟨g, e1, e2, e3, e4⟩ := (E6.out ((listed_set h).resolve_left (by decide))); ⟨g, e1, e2, fun h5 => far_row HBB.out (e3 ((listed_set h5).resolve_left (by decide))), fun h5 => far_row HBB.out (e4 (unl_keep h5))⟩), fun h => (let ⟨g, e1, e2, e3, e4⟩ := (E7.out ((listed_set h).resolve_left (by decide))); ⟨g, e1, e2, fun h5 => far_row HBB.out (e3 ((listed_set h5).resolve_left (by decide))), fun h5 => far_row HBB.out (e4 (unl_keep h5))⟩), fun h => ⟨(E8.out ((listed_set h).resolve_left (by decide))).1, listed_keep (E8.out ((listed_set h).resolve_left (by decide))).2⟩, fun h => ⟨(E9.out ((listed_set h).resolve_left (by decide))).1, listed_keep (E9.out ((listed_set h).resolve_left (by decide))).2⟩⟩
        | 6, hio =>
          clear hio
          refine wpOp_by rfl fun K HK => ?_
          go_wp2_with (fail)
          exact HK.out _ _ ⟨by rw [Array.size_setIfInBounds, HS.out], HB.out.alloc HB.out.size _, _, _, _, _, _, _, _, _, x8, x9, rfl, fun h => E0.out ((listed_set h).resolve_left (by decide)), fun h => E1.out ((listed_set h).resolve_left (by decide)), fun h => E2.out ((listed_set h).resolve_left (by decide)), fun h => E3.out ((listed_set h).resolve_left (by decide)), fun h => E4.out ((listed_set h).resolve_left (by decide)), fun h => E5.out ((listed_set h).resolve_left (by decide)), fun h => ⟨W.heap.size, rfl, HB.out.size, fun h5 => absurd (E8.out ((listed_set h5).resolve_left (by decide))).2 (by rw [unlisted HU.out]; decide), fun _ => World.alloc_heap_new _ _⟩, fun h => (let ⟨g, e1, e2, e3, e4⟩ := (E7.out ((listed_set h).resolve_left (by decide))); ⟨g, e1, e2, fun h5 => far_row ((Below.refl _ W).alloc (Nat.le_refl _) _) (e3 ((listed_set h5).resolve_left (by decide))), fun h5 => far_row ((Below.refl _ W).alloc (Nat.le_refl _) _) (e4 (unl_keep h5))⟩), fun h => ⟨(E8.out ((listed_set h).resolve_left (by decide))).1, listed_keep (E8.out ((listed_set h).resolve_left (by decide))).2⟩, fun h => ⟨(E9.out ((listed_set h).resolve_left (by decide))).1, listed_keep (E9.out ((listed_set h).resolve_left (by decide))).2⟩⟩
        | 7, hio =>
          clear hio
          refine wpOp_by rfl fun K HK => ?_
          go_wp2_with (fail)
          exact HK.out _ _ ⟨by rw [Array.size_setIfInBounds, HS.out], HB.out.alloc HB.out.size _, _, _, _, _, _, _, _, _, x8, x9, rfl, fun h => E0.out ((listed_set h).resolve_left (by decide)), fun h => E1.out ((listed_set h).resolve_left (by decide)), fun h => E2.out ((listed_set h).resolve_left (by decide)), fun h => E3.out ((listed_set h).resolve_left (by decide)), fun h => E4.out ((listed_set h).resolve_left (by decide)), fun h => E5.out ((listed_set h).resolve_left (by decide)), fun h => (let ⟨g, e1, e2, e3, e4⟩ := (E6.out ((listed_set h).resolve_left (by decide))); ⟨g, e1, e2, fun h5 => far_row ((Below.refl _ W).alloc (Nat.le_refl _) _) (e3 ((listed_set h5).resolve_left (by decide))), fun h5 => far_row ((Below.refl _ W).alloc (Nat.le_refl _) _) (e4 (unl_keep h5))⟩), fun h => ⟨W.heap.size, rfl, HB.out.size, fun h5 => absurd (E9.out ((listed_set h5).resolve_left (by decide))).2 (by rw [unlisted HU.out]; decide), fun _ => World.alloc_heap_new _ _⟩, fun h => ⟨(E8.out ((listed_set h).resolve_left (by decide))).1, listed_keep (E8.out ((listed_set h).resolve_left (by decide))).2⟩, fun h => ⟨(E9.out ((listed_set h).resolve_left (by decide))).1, listed_keep (E9.out ((listed_set h).resolve_left (by decide))).2⟩⟩
        | 8, hio =>
          simp only [List.getElem?_toArray, List.getElem?_cons_succ, List.getElem?_cons_zero, Option.some.injEq] at hio
          subst hio
          have p6 := PRE.out ⟨6, .data⟩ (by simp) rfl
          have p3 := PRE.out ⟨3, .data⟩ (by simp) rfl
          obtain rfl := E3.out p3
          obtain ⟨g, rfl, hg, -, hz⟩ := E6.out p6
          have HG := Lib.hid hg
          have HZ := Lib.hid (hz (unlisted HU.out))
          have P4 := Lib.hid p6
          clear p6 hg hz
          refine wpOp_by rfl fun K HK => ?_
          go_wp2_with (refine wpList_store_row rfl 65 _ _ rfl g #[Value.string WD, Value.int .i64 2, fd] rfl rfl 65 _ HZ.out (mn1_info _ rfl) rfl (mn_row FO.out) ?_)
          exact HK.out _ _ ⟨by rw [Array.size_setIfInBounds, HS.out], below_setRow HB.out HG.out _, _, _, _, _, _, _, _, _, undef, x9, rfl, fun h => E0.out ((listed_set h).resolve_left (by decide)), fun h => E1.out ((listed_set h).resolve_left (by decide)), fun h => E2.out ((listed_set h).resolve_left (by decide)), fun _ => rfl, fun h => E4.out ((listed_set h).resolve_left (by decide)), fun h => E5.out ((listed_set h).resolve_left (by decide)), fun _ => ⟨g, rfl, HG.out, fun _ => setRow_heap _ _ _ _ _ _ HZ.out, fun h5 => by rw [listed_new (by rw [HS.out]; decide)] at h5; cases h5⟩, fun h => (let ⟨g, e1, e2, e3, e4⟩ := (E7.out ((listed_set h).resolve_left (by decide))); ⟨g, e1, e2, fun h5 => set_other HZ.out (by decide) #[Value.string WD, Value.int .i64 2, fd] (e3 ((listed_set h5).resolve_left (by decide))), fun h5 => set_other HZ.out (by decide) #[Value.string WD, Value.int .i64 2, fd] (e4 (unl_keep h5))⟩), fun _ => ⟨rfl, listed_keep P4.out⟩, fun h => ⟨(E9.out ((listed_set h).resolve_left (by decide))).1, listed_keep (E9.out ((listed_set h).resolve_left (by decide))).2⟩⟩
        | 9, hio =>
          simp only [List.getElem?_toArray, List.getElem?_cons_succ, List.getElem?_cons_zero, Option.some.injEq] at hio
          subst hio
          have p7 := PRE.out ⟨7, .data⟩ (by simp) rfl
          have p5 := PRE.out ⟨5, .data⟩ (by simp) rfl
          obtain rfl := E5.out p5
          obtain ⟨g, rfl, hg, -, hz⟩ := E7.out p7
          have HG := Lib.hid hg
          have HZ := Lib.hid (hz (unlisted HU.out))
          have P4 := Lib.hid p7
          clear p7 hg hz
          refine wpOp_by rfl fun K HK => ?_
          go_wp2_with (refine wpList_store_row rfl 68 _ _ rfl g #[Value.int .i64 a, Value.int .i64 b] rfl rfl 68 _ HZ.out (a2_info _ rfl) rfl (row2_one _ _) ?_)
          exact HK.out _ _ ⟨by rw [Array.size_setIfInBounds, HS.out], below_setRow HB.out HG.out _, _, _, _, _, _, _, _, _, x8, undef, rfl, fun h => E0.out ((listed_set h).resolve_left (by decide)), fun h => E1.out ((listed_set h).resolve_left (by decide)), fun h => E2.out ((listed_set h).resolve_left (by decide)), fun h => E3.out ((listed_set h).resolve_left (by decide)), fun h => E4.out ((listed_set h).resolve_left (by decide)), fun _ => rfl, fun h => (let ⟨g, e1, e2, e3, e4⟩ := (E6.out ((listed_set h).resolve_left (by decide))); ⟨g, e1, e2, fun h5 => set_other HZ.out (by decide) #[Value.int .i64 a, Value.int .i64 b] (e3 ((listed_set h5).resolve_left (by decide))), fun h5 => set_other HZ.out (by decide) #[Value.int .i64 a, Value.int .i64 b] (e4 (unl_keep h5))⟩), fun _ => ⟨g, rfl, HG.out, fun _ => setRow_heap _ _ _ _ _ _ HZ.out, fun h5 => by rw [listed_new (by rw [HS.out]; decide)] at h5; cases h5⟩, fun h => ⟨(E8.out ((listed_set h).resolve_left (by decide))).1, listed_keep (E8.out ((listed_set h).resolve_left (by decide))).2⟩, fun _ => ⟨rfl, listed_keep P4.out⟩⟩
        | k + 10, hio => simp at hio
      case hend2 =>
        rintro listed act W1 ⟨hs, hB, x0, x1, x2, x3, x4, x5, x6, x7, x8, x9, rfl, e0, e1, e2, e3, e4, e5, e6, e7, e8, e9⟩ hall
        obtain rfl := e0 (hall 0 (by decide))
        obtain rfl := e1 (hall 1 (by decide))
        obtain rfl := e2 (hall 2 (by decide))
        obtain rfl := e3 (hall 3 (by decide))
        obtain rfl := e4 (hall 4 (by decide))
        obtain rfl := e5 (hall 5 (by decide))
        have e6 := e6 (hall 6 (by decide))
        have e7 := e7 (hall 7 (by decide))
        have e8 := e8 (hall 8 (by decide))
        have e9 := e9 (hall 9 (by decide))
        clear hs
        obtain ⟨g, rfl, hg, hz, -⟩ := e6
        obtain ⟨g', rfl, hg', hz', -⟩ := e7
        have R1 : Hid (W1.heap[g]? = some (.cells #[Value.string WD, Value.int .i64 2, fd] 65 (0, 0))) := Lib.hid (hz (hall 8 (by decide)))
        have R2 : Hid (W1.heap[g']? = some (.cells #[Value.int .i64 a, Value.int .i64 b] 68 (0, 0))) := Lib.hid (hz' (hall 9 (by decide)))
        have B3 := Lib.hid (B2.out.trans (hB.mono (by have := Z2.out; have := L1.out; omega)))
        have c0 : W1.cell? ⟨g, 0, none⟩ = some (.string WD) := Lib.cell_of_heap R1.out 0
        have c1 : W1.cell? ⟨g, 1, none⟩ = some (.int .i64 2) := Lib.cell_of_heap R1.out 1
        clear hg hg' hz hz' hB hall e8 e9
        go_wp2_with fail
        refine wp_loop_rounds 3 ?_
        have d0 : W1.cell? ⟨g', 0, none⟩ = some (.int .i64 a) := Lib.cell_of_heap R2.out 0
        rw [rounds_succ]
        go_wp2_with fail
        refine (FA.out W1 (HT.out.below B3.out HG.out)).mono ?_
        rintro e W2 ⟨rfl, b⟩
        have B4 := Lib.hid (B3.out.trans (b.mono B3.out.size))
        have R3 := Lib.hid (far_row b R2.out)
        clear b d0 c0 c1
        go_wp2
        have d1 : W2.cell? ⟨g', 1, none⟩ = some (.int .i64 b) := Lib.cell_of_heap R3.out 1
        rw [rounds_succ]
        go_wp2_with fail
        refine (FB.out W2 (HT.out.below B4.out HG.out)).mono ?_
        rintro e W3 ⟨rfl, b⟩
        have B5 := Lib.hid (B4.out.trans (b.mono B4.out.size))
        clear b d1
        go_wp2
        rw [rounds_succ]
        go_wp2
        go_ret
        exact ⟨by rw [ET.out]; rfl, B5.out⟩
end Go.Proofs.YtkijgadkgfapgaaDoor
