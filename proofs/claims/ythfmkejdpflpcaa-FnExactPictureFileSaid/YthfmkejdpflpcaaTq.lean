/-
  THE LAW's COMPARISON of two slices of blocks.
-/
import Derived.Test.YthfmkejdpflpcaaTe
import Derived.Test.YthfmkejdpflpcaaGpa
namespace Go.Proofs.Ythfmkejdpflpcaa
open Go.ChangeShapes Go.WideShapes Go.ChangeAt Go.RowKit
set_option maxRecDepth 20000 in
set_option maxHeartbeats 8000000 in
theorem eqBS_any (a1 a2 : Option Addr) (n c1 c2 : Nat) (f : Nat → Int) (B : Nat) (w : World) (hB : B ≤ w.heap.size) (hn : n ≤ 1048576) (h1 : BlR B w a1 n f) (h2 : BlR B w a2 n f) :
    Calls Try.prog 18 #[.slice a1 n c1, .slice a2 n c2] w fun e w' => e = .returned (.bool true) ∧ Below w.heap.size w w' := by
  have hl' : (n : Int) ≤ 1048576 := by omega
  have HP1 := Lib.hid h1
  have HP2 := Lib.hid h2
  clear h1 h2
  go_enter Try.func18, Try.ntmps18
  go_wp2
  go_loopw [5] (fun i wr => ∃ k : Nat, k ≤ n ∧ i = .int .i64 k ∧ Below w.heap.size w wr) (fun i _ => n - (intOf i).toNat)
  case atStart => exact ⟨0, Nat.zero_le _, rfl, Below.refl _ _⟩
  case round =>
    obtain ⟨k, hk, rfl, hb⟩ := hrel
    have HB := Lib.hid hb
    clear hb
    by_cases hlt : k < n
    · obtain ⟨g1, o1, rfl, hg1, hc1⟩ : ∃ g off, a1 = some ⟨g, off, none⟩ ∧ g < B ∧ ∀ j, j < 18 * n → w.cell? ⟨g, off + j, none⟩ = some (bcell f j) := by
        rcases HP1.out with h | h
        · omega
        · exact h
      obtain ⟨g2, o2, rfl, hg2, hc2⟩ : ∃ g off, a2 = some ⟨g, off, none⟩ ∧ g < B ∧ ∀ j, j < 18 * n → w.cell? ⟨g, off + j, none⟩ = some (bcell f j) := by
        rcases HP2.out with h | h
        · omega
        · exact h
      have tk : (k : Int) < (n : Int) := by omega
      have GC1 : Hid (∀ W, Below wr.heap.size wr W → ∀ j v, (blk f k)[j]? = some v → W.cell? ⟨g1, o1 + k * 18 + j, none⟩ = some v) := Lib.hid fun W hW j v e => by
        have hj : j < 18 := by
          rcases Nat.lt_or_ge j 18 with h | h
          · exact h
          · rw [Array.getElem?_eq_none (by rw [blk_size]; exact h)] at e; cases e
        have hs := HB.out.size
        rw [hW.cell (p := ⟨g1, o1 + k * 18 + j, none⟩) (by show g1 < _; omega), HB.out.cell (p := ⟨g1, o1 + k * 18 + j, none⟩) (by show g1 < _; omega), Nat.add_assoc, hc1 (k * 18 + j) (by omega), ← blk_get f k j hj]
        exact e
      have GC2 : Hid (∀ W, Below wr.heap.size wr W → ∀ j v, (blk f k)[j]? = some v → W.cell? ⟨g2, o2 + k * 18 + j, none⟩ = some v) := Lib.hid fun W hW j v e => by
        have hj : j < 18 := by
          rcases Nat.lt_or_ge j 18 with h | h
          · exact h
          · rw [Array.getElem?_eq_none (by rw [blk_size]; exact h)] at e; cases e
        have hs := HB.out.size
        rw [hW.cell (p := ⟨g2, o2 + k * 18 + j, none⟩) (by show g2 < _; omega), HB.out.cell (p := ⟨g2, o2 + k * 18 + j, none⟩) (by show g2 < _; omega), Nat.add_assoc, hc2 (k * 18 + j) (by omega), ← blk_get f k j hj]
        exact e
      have HK := Lib.hid hlt
      have TB : Hid (∀ w, Calls Try.prog 59 #[.agg (blk f k), .agg (blk f k)] w fun e w' => e = .returned (.bool true) ∧ Below w.heap.size w w') := Lib.hid (eqBl_same _ _ _)
      have B18 := Lib.hid (blk_size f k)
      clear hc1 hc2 hlt hk hg1 hg2 HP1 HP2
      generalize blk f k = A at GC1 GC2 TB B18
      go_wp2
      refine wp_region_inv (by kernel_rfl) (fun listed act W => listed.size = 10 ∧ Below wr.heap.size wr W ∧ ∃ x0 x1 x2 x3 x4 x5 x6 x7 x8 x9, act = { tmps := #[.slice (some ⟨g1, o1, none⟩) n c1, .slice (some ⟨g2, o2, none⟩) n c2, undef, undef, u4, .int .i64 (k : Int), .slice (some ⟨g1, o1, none⟩) n c1, .int .i64 (n : Int), .slice (some ⟨g2, o2, none⟩) n c2, .int .i64 (n : Int), .bool false, .int .i64 (k : Int), .slice (some ⟨g1, o1, none⟩) n c1, .int .i64 (n : Int), .bool true, u15, u16, x0, x1, x2, x3, x4, x5, x6, x7, x8, x9], defers := [] } ∧ (listed.getD 0 false = true → x0 = .slice (some ⟨g1, o1, none⟩) n c1) ∧ (listed.getD 1 false = true → x1 = .int .i64 (k : Int)) ∧ (listed.getD 2 false = true → x2 = .pointer (some ⟨g1, o1 + k * 18, none⟩)) ∧ (listed.getD 3 false = true → x3 = .agg A) ∧ (listed.getD 4 false = true → x4 = .slice (some ⟨g2, o2, none⟩) n c2) ∧ (listed.getD 5 false = true → x5 = .int .i64 (k : Int)) ∧ (listed.getD 6 false = true → x6 = .pointer (some ⟨g2, o2 + k * 18, none⟩)) ∧ (listed.getD 7 false = true → x7 = .agg A) ∧ (listed.getD 8 false = true → x8 = .bool true) ∧ (listed.getD 9 false = true → x9 = .bool false)) (by kernel_rfl) ?h01 (fun _ _ _ h => h.1) ?hstep1 ?hend1
      case h01 =>
        refine ⟨rfl, (Below.refl _ _).drew, _, _, _, _, _, _, _, _, _, _, rfl, ?_, ?_, ?_, ?_, ?_, ?_, ?_, ?_, ?_, ?_⟩ <;> (intro h; exact absurd h (by decide))
      case hstep1 =>
        rintro listed act W i o ⟨hs, hB, x0, x1, x2, x3, x4, x5, x6, x7, x8, x9, rfl, e0, e1, e2, e3, e4, e5, e6, e7, e8, e9⟩ hun hio hpre
        have HB := Lib.hid hB
        have E0 := Lib.hid e0
        have E1 := Lib.hid e1
        have E2 := Lib.hid e2
        have E3 := Lib.hid e3
        have E4 := Lib.hid e4
        have E5 := Lib.hid e5
        have E6 := Lib.hid e6
        have E7 := Lib.hid e7
        have E8 := Lib.hid e8
        have E9 := Lib.hid e9
        have HS := Lib.hid hs
        have HU := Lib.hid hun
        have PRE := Lib.hid hpre
        clear e0 e1 e2 e3 e4 e5 e6 e7 e8 e9 hs hpre hB hun
        match i, hio with
        | 0, hio =>
          clear hio
          refine wpOp_by rfl fun K HK => ?_
          go_wp2_with (fail)
          exact HK.out _ _ ⟨by rw [Array.size_setIfInBounds, HS.out], HB.out, _, _, _, _, _, _, _, _, _, _, rfl, fun _ => rfl, fun h => E1.out ((listed_set h).resolve_left (by decide)), fun h => E2.out ((listed_set h).resolve_left (by decide)), fun h => E3.out ((listed_set h).resolve_left (by decide)), fun h => E4.out ((listed_set h).resolve_left (by decide)), fun h => E5.out ((listed_set h).resolve_left (by decide)), fun h => E6.out ((listed_set h).resolve_left (by decide)), fun h => E7.out ((listed_set h).resolve_left (by decide)), fun h => E8.out ((listed_set h).resolve_left (by decide)), fun h => E9.out ((listed_set h).resolve_left (by decide))⟩
        | 1, hio =>
          clear hio
          refine wpOp_by rfl fun K HK => ?_
          go_wp2_with (fail)
          exact HK.out _ _ ⟨by rw [Array.size_setIfInBounds, HS.out], HB.out, _, _, _, _, _, _, _, _, _, _, rfl, fun h => E0.out ((listed_set h).resolve_left (by decide)), fun _ => rfl, fun h => E2.out ((listed_set h).resolve_left (by decide)), fun h => E3.out ((listed_set h).resolve_left (by decide)), fun h => E4.out ((listed_set h).resolve_left (by decide)), fun h => E5.out ((listed_set h).resolve_left (by decide)), fun h => E6.out ((listed_set h).resolve_left (by decide)), fun h => E7.out ((listed_set h).resolve_left (by decide)), fun h => E8.out ((listed_set h).resolve_left (by decide)), fun h => E9.out ((listed_set h).resolve_left (by decide))⟩
        | 2, hio =>
          simp only [List.getElem?_toArray, List.getElem?_cons_succ, List.getElem?_cons_zero, Option.some.injEq] at hio
          subst hio
          have p0 := PRE.out ⟨0, .data⟩ (by simp) rfl
          have p1 := PRE.out ⟨1, .data⟩ (by simp) rfl
          obtain rfl := E0.out p0
          obtain rfl := E1.out p1
          refine wpOp_by rfl fun K HK => ?_
          go_wp2_with (fail)
          exact HK.out _ _ ⟨by rw [Array.size_setIfInBounds, HS.out], HB.out, _, _, _, _, _, _, _, _, _, _, rfl, fun _ => rfl, fun _ => rfl, fun _ => rfl, fun h => E3.out ((listed_set h).resolve_left (by decide)), fun h => E4.out ((listed_set h).resolve_left (by decide)), fun h => E5.out ((listed_set h).resolve_left (by decide)), fun h => E6.out ((listed_set h).resolve_left (by decide)), fun h => E7.out ((listed_set h).resolve_left (by decide)), fun h => E8.out ((listed_set h).resolve_left (by decide)), fun h => E9.out ((listed_set h).resolve_left (by decide))⟩
        | 3, hio =>
          simp only [List.getElem?_toArray, List.getElem?_cons_succ, List.getElem?_cons_zero, Option.some.injEq] at hio
          subst hio
          have p2 := PRE.out ⟨2, .data⟩ (by simp) rfl
          obtain rfl := E2.out p2
          refine wpOp_by rfl fun K HK => ?_
          go_wp2_with (refine wpList_load_part rfl 73 _ rfl g1 (o1 + k * 18) rfl A _ (fun j v e => GC1.out W HB.out j v e) Try.underlying73 rfl (ib_info _ B18.out) ?_)
          exact HK.out _ _ ⟨by rw [Array.size_setIfInBounds, HS.out], HB.out, _, _, _, _, _, _, _, _, _, _, rfl, fun h => E0.out ((listed_set h).resolve_left (by decide)), fun h => E1.out ((listed_set h).resolve_left (by decide)), fun _ => rfl, fun _ => rfl, fun h => E4.out ((listed_set h).resolve_left (by decide)), fun h => E5.out ((listed_set h).resolve_left (by decide)), fun h => E6.out ((listed_set h).resolve_left (by decide)), fun h => E7.out ((listed_set h).resolve_left (by decide)), fun h => E8.out ((listed_set h).resolve_left (by decide)), fun h => E9.out ((listed_set h).resolve_left (by decide))⟩
        | 4, hio =>
          clear hio
          refine wpOp_by rfl fun K HK => ?_
          go_wp2_with (fail)
          exact HK.out _ _ ⟨by rw [Array.size_setIfInBounds, HS.out], HB.out, _, _, _, _, _, _, _, _, _, _, rfl, fun h => E0.out ((listed_set h).resolve_left (by decide)), fun h => E1.out ((listed_set h).resolve_left (by decide)), fun h => E2.out ((listed_set h).resolve_left (by decide)), fun h => E3.out ((listed_set h).resolve_left (by decide)), fun _ => rfl, fun h => E5.out ((listed_set h).resolve_left (by decide)), fun h => E6.out ((listed_set h).resolve_left (by decide)), fun h => E7.out ((listed_set h).resolve_left (by decide)), fun h => E8.out ((listed_set h).resolve_left (by decide)), fun h => E9.out ((listed_set h).resolve_left (by decide))⟩
        | 5, hio =>
          clear hio
          refine wpOp_by rfl fun K HK => ?_
          go_wp2_with (fail)
          exact HK.out _ _ ⟨by rw [Array.size_setIfInBounds, HS.out], HB.out, _, _, _, _, _, _, _, _, _, _, rfl, fun h => E0.out ((listed_set h).resolve_left (by decide)), fun h => E1.out ((listed_set h).resolve_left (by decide)), fun h => E2.out ((listed_set h).resolve_left (by decide)), fun h => E3.out ((listed_set h).resolve_left (by decide)), fun h => E4.out ((listed_set h).resolve_left (by decide)), fun _ => rfl, fun h => E6.out ((listed_set h).resolve_left (by decide)), fun h => E7.out ((listed_set h).resolve_left (by decide)), fun h => E8.out ((listed_set h).resolve_left (by decide)), fun h => E9.out ((listed_set h).resolve_left (by decide))⟩
        | 6, hio =>
          simp only [List.getElem?_toArray, List.getElem?_cons_succ, List.getElem?_cons_zero, Option.some.injEq] at hio
          subst hio
          have p4 := PRE.out ⟨4, .data⟩ (by simp) rfl
          have p5 := PRE.out ⟨5, .data⟩ (by simp) rfl
          obtain rfl := E4.out p4
          obtain rfl := E5.out p5
          refine wpOp_by rfl fun K HK => ?_
          go_wp2_with (fail)
          exact HK.out _ _ ⟨by rw [Array.size_setIfInBounds, HS.out], HB.out, _, _, _, _, _, _, _, _, _, _, rfl, fun h => E0.out ((listed_set h).resolve_left (by decide)), fun h => E1.out ((listed_set h).resolve_left (by decide)), fun h => E2.out ((listed_set h).resolve_left (by decide)), fun h => E3.out ((listed_set h).resolve_left (by decide)), fun _ => rfl, fun _ => rfl, fun _ => rfl, fun h => E7.out ((listed_set h).resolve_left (by decide)), fun h => E8.out ((listed_set h).resolve_left (by decide)), fun h => E9.out ((listed_set h).resolve_left (by decide))⟩
        | 7, hio =>
          simp only [List.getElem?_toArray, List.getElem?_cons_succ, List.getElem?_cons_zero, Option.some.injEq] at hio
          subst hio
          have p6 := PRE.out ⟨6, .data⟩ (by simp) rfl
          obtain rfl := E6.out p6
          refine wpOp_by rfl fun K HK => ?_
          go_wp2_with (refine wpList_load_part rfl 73 _ rfl g2 (o2 + k * 18) rfl A _ (fun j v e => GC2.out W HB.out j v e) Try.underlying73 rfl (ib_info _ B18.out) ?_)
          exact HK.out _ _ ⟨by rw [Array.size_setIfInBounds, HS.out], HB.out, _, _, _, _, _, _, _, _, _, _, rfl, fun h => E0.out ((listed_set h).resolve_left (by decide)), fun h => E1.out ((listed_set h).resolve_left (by decide)), fun h => E2.out ((listed_set h).resolve_left (by decide)), fun h => E3.out ((listed_set h).resolve_left (by decide)), fun h => E4.out ((listed_set h).resolve_left (by decide)), fun h => E5.out ((listed_set h).resolve_left (by decide)), fun _ => rfl, fun _ => rfl, fun h => E8.out ((listed_set h).resolve_left (by decide)), fun h => E9.out ((listed_set h).resolve_left (by decide))⟩
        | 8, hio =>
          simp only [List.getElem?_toArray, List.getElem?_cons_succ, List.getElem?_cons_zero, Option.some.injEq] at hio
          subst hio
          have p3 := PRE.out ⟨3, .data⟩ (by simp) rfl
          have p7 := PRE.out ⟨7, .data⟩ (by simp) rfl
          obtain rfl := E3.out p3
          obtain rfl := E7.out p7
          refine wpOp_by rfl fun K HK => ?_
          go_wp2_with fail
          refine (TB.out _).mono ?_
          rintro e W' ⟨rfl, hb⟩
          go_wp2
          exact HK.out _ _ ⟨by rw [Array.size_setIfInBounds, HS.out], HB.out.trans (hb.mono HB.out.size), _, _, _, _, _, _, _, _, _, _, rfl, fun h => E0.out ((listed_set h).resolve_left (by decide)), fun h => E1.out ((listed_set h).resolve_left (by decide)), fun h => E2.out ((listed_set h).resolve_left (by decide)), fun _ => rfl, fun h => E4.out ((listed_set h).resolve_left (by decide)), fun h => E5.out ((listed_set h).resolve_left (by decide)), fun h => E6.out ((listed_set h).resolve_left (by decide)), fun _ => rfl, fun _ => rfl, fun h => E9.out ((listed_set h).resolve_left (by decide))⟩
        | 9, hio =>
          simp only [List.getElem?_toArray, List.getElem?_cons_succ, List.getElem?_cons_zero, Option.some.injEq] at hio
          subst hio
          have p8 := PRE.out ⟨8, .data⟩ (by simp) rfl
          obtain rfl := E8.out p8
          refine wpOp_by rfl fun K HK => ?_
          go_wp2_with (fail)
          exact HK.out _ _ ⟨by rw [Array.size_setIfInBounds, HS.out], HB.out, _, _, _, _, _, _, _, _, _, _, rfl, fun h => E0.out ((listed_set h).resolve_left (by decide)), fun h => E1.out ((listed_set h).resolve_left (by decide)), fun h => E2.out ((listed_set h).resolve_left (by decide)), fun h => E3.out ((listed_set h).resolve_left (by decide)), fun h => E4.out ((listed_set h).resolve_left (by decide)), fun h => E5.out ((listed_set h).resolve_left (by decide)), fun h => E6.out ((listed_set h).resolve_left (by decide)), fun h => E7.out ((listed_set h).resolve_left (by decide)), fun _ => rfl, fun _ => rfl⟩
        | k + 10, hio => simp at hio
      case hend1 =>
        rintro listed act W1 ⟨hs, hB, x0, x1, x2, x3, x4, x5, x6, x7, x8, x9, rfl, e0, e1, e2, e3, e4, e5, e6, e7, e8, e9⟩ hall
        obtain rfl := e0 (hall 0 (by decide))
        obtain rfl := e1 (hall 1 (by decide))
        obtain rfl := e2 (hall 2 (by decide))
        obtain rfl := e3 (hall 3 (by decide))
        obtain rfl := e4 (hall 4 (by decide))
        obtain rfl := e5 (hall 5 (by decide))
        obtain rfl := e6 (hall 6 (by decide))
        obtain rfl := e7 (hall 7 (by decide))
        obtain rfl := e8 (hall 8 (by decide))
        obtain rfl := e9 (hall 9 (by decide))
        clear hs hall 
        have HB1 := Lib.hid (HB.out.trans (hB.mono HB.out.size))
        clear hB
        go_wp2
        go_roundw
        case rel => exact ⟨k + 1, HK.out, by go_num, HB1.out⟩
        case measure => have := HK.out; simp [intOf]; omega
    · obtain rfl : k = n := by omega
      go_wp2
      go_ret
      exact ⟨rfl, HB.out⟩
end Go.Proofs.Ythfmkejdpflpcaa
