/-
  FRAMES COMPARED: the specification's l09Same, and slices.Equal at frames.
-/
import Derived.Test.YtkijgadkgfapgaaGc
import Derived.Test.YtkijgadkgfapgaaGb
import Derived.Test.YtkijgadkgfapgaaRi
namespace Go.Proofs.Ytkijgadkgfapgaa
open Go.ChangeShapes Go.WideShapes Go.ChangeAt Go.RowKit
def sameBlk (f g : Nat → Int) (k : Nat) : Bool := (List.range 16).all fun i => frK f k i == frK g k i
def samePic (f g : Nat → Int) (n m : Nat) : Bool := n == m && (List.range n).all fun j => sameBlk f g j
theorem run_neq_fr (f g : Nat → Int) (k : Nat) (w : World) : (binOp .neq 93 (.agg (fbl f k)) (.agg (fbl g k))).run Try.prog w = .ok (.bool (!sameBlk f g k)) w := by
  rw [run_neq_struct]
  show ((Op.equalIn 10000 _ (.agg (Q16 (frK f k))) (.agg (Q16 (frK g k)))).run Try.prog w).andThen _ = _
  rw [eqFr]
  rfl
set_option maxRecDepth 20000 in
set_option maxHeartbeats 8000000 in
theorem sSameFr_any (a1 a2 : Option Addr) (n m c1 c2 : Nat) (f g : Nat → Int) (B : Nat) (w : World) (hB : B ≤ w.heap.size) (hn : n ≤ 1048576) (hm : m ≤ 1048576) (h1 : FrR B w a1 n f) (h2 : FrR B w a2 m g) :
    Calls Try.prog 100 #[.slice a1 n c1, .slice a2 m c2] w fun e w' => e = .returned (.bool (samePic f g n m)) ∧ Below w.heap.size w w' := by
  have hl' : (n : Int) ≤ 1048576 := by omega
  by_cases hnm : n = m
  · subst hnm
    have hsp : samePic f g n n = (List.range n).all fun j => sameBlk f g j := by simp [samePic]
    rw [hsp]
    clear hsp hm
    have HP1 := Lib.hid h1
    have HP2 := Lib.hid h2
    clear h1 h2
    go_enter Try.func100, Try.ntmps100
    go_wp2
    go_loopw [5] (fun i wr => ∃ k : Nat, k ≤ n ∧ i = .int .i64 k ∧ Below w.heap.size w wr ∧ ((List.range k).all fun j => sameBlk f g j) = true) (fun i _ => n - (intOf i).toNat)
    case atStart => exact ⟨0, Nat.zero_le _, rfl, Below.refl _ _, rfl⟩
    case round =>
      obtain ⟨k, hk, rfl, hb, hall⟩ := hrel
      have HB := Lib.hid hb
      have HA := Lib.hid hall
      clear hb hall
      by_cases hlt : k < n
      · obtain ⟨g1, o1, rfl, hg1, hc1⟩ : ∃ b off, a1 = some ⟨b, off, none⟩ ∧ b < B ∧ ∀ j, j < 16 * n → w.cell? ⟨b, off + j, none⟩ = some (.int .u8 (f j)) := by
          rcases HP1.out with h | h
          · omega
          · exact h
        obtain ⟨g2, o2, rfl, hg2, hc2⟩ : ∃ b off, a2 = some ⟨b, off, none⟩ ∧ b < B ∧ ∀ j, j < 16 * n → w.cell? ⟨b, off + j, none⟩ = some (.int .u8 (g j)) := by
          rcases HP2.out with h | h
          · omega
          · exact h
        have tk : (k : Int) < (n : Int) := by omega
        have GC1 : Hid (∀ W, Below wr.heap.size wr W → ∀ j v, (fbl f k)[j]? = some v → W.cell? ⟨g1, o1 + k * 16 + j, none⟩ = some v) := Lib.hid fun W hW j v e => by
          have hj : j < 16 := by
            rcases Nat.lt_or_ge j 16 with h | h
            · exact h
            · rw [Array.getElem?_eq_none (by rw [fbl_size]; exact h)] at e; cases e
          have hs := HB.out.size
          rw [hW.cell (p := ⟨g1, o1 + k * 16 + j, none⟩) (by show g1 < _; omega), HB.out.cell (p := ⟨g1, o1 + k * 16 + j, none⟩) (by show g1 < _; omega), Nat.add_assoc, hc1 (k * 16 + j) (by omega), ← fbl_get f k j hj]
          exact e
        have GC2 : Hid (∀ W, Below wr.heap.size wr W → ∀ j v, (fbl g k)[j]? = some v → W.cell? ⟨g2, o2 + k * 16 + j, none⟩ = some v) := Lib.hid fun W hW j v e => by
          have hj : j < 16 := by
            rcases Nat.lt_or_ge j 16 with h | h
            · exact h
            · rw [Array.getElem?_eq_none (by rw [fbl_size]; exact h)] at e; cases e
          have hs := HB.out.size
          rw [hW.cell (p := ⟨g2, o2 + k * 16 + j, none⟩) (by show g2 < _; omega), HB.out.cell (p := ⟨g2, o2 + k * 16 + j, none⟩) (by show g2 < _; omega), Nat.add_assoc, hc2 (k * 16 + j) (by omega), ← fbl_get g k j hj]
          exact e
        have HK := Lib.hid hlt
        have B18 := Lib.hid (fbl_size f k)
        have B18b := Lib.hid (fbl_size g k)
        obtain ⟨r, hr⟩ : ∃ r, sameBlk f g k = r := ⟨_, rfl⟩
        have hop : ∀ w, (binOp .neq 93 (.agg (fbl f k)) (.agg (fbl g k))).run Try.prog w = .ok (.bool (!r)) w := fun w => by rw [← hr]; exact run_neq_fr _ _ _ w
        have HR := Lib.hid hr
        clear hc1 hc2 hlt hk hg1 hg2 HP1 HP2 hr
        generalize fbl f k = A at GC1 hop B18
        generalize fbl g k = A2 at GC2 hop B18b
        go_wp2
        refine wp_region_inv (by kernel_rfl) (fun listed act W => listed.size = 9 ∧ Below wr.heap.size wr W ∧ ∃ x0 x1 x2 x3 x4 x5 x6 x7 x8, act = { tmps := #[.slice (some ⟨g1, o1, none⟩) n c1, .slice (some ⟨g2, o2, none⟩) n c2, undef, undef, u4, .int .i64 (k : Int), .slice (some ⟨g1, o1, none⟩) n c1, .int .i64 (n : Int), .slice (some ⟨g2, o2, none⟩) n c2, .int .i64 (n : Int), .bool false, .int .i64 (k : Int), .slice (some ⟨g1, o1, none⟩) n c1, .int .i64 (n : Int), .bool true, u15, u16, x0, x1, x2, x3, x4, x5, x6, x7, x8], defers := [] } ∧ (listed.getD 0 false = true → x0 = .slice (some ⟨g1, o1, none⟩) n c1) ∧ (listed.getD 1 false = true → x1 = .int .i64 (k : Int)) ∧ (listed.getD 2 false = true → x2 = .pointer (some ⟨g1, o1 + k * 16, none⟩)) ∧ (listed.getD 3 false = true → x3 = .agg A) ∧ (listed.getD 4 false = true → x4 = .slice (some ⟨g2, o2, none⟩) n c2) ∧ (listed.getD 5 false = true → x5 = .int .i64 (k : Int)) ∧ (listed.getD 6 false = true → x6 = .pointer (some ⟨g2, o2 + k * 16, none⟩)) ∧ (listed.getD 7 false = true → x7 = .agg A2) ∧ (listed.getD 8 false = true → x8 = .bool (!r))) (by kernel_rfl) ?h01 (fun _ _ _ h => h.1) ?hstep1 ?hend1
        case h01 =>
          refine ⟨rfl, (Below.refl _ _).drew, _, _, _, _, _, _, _, _, _, rfl, ?_, ?_, ?_, ?_, ?_, ?_, ?_, ?_, ?_⟩ <;> (intro h; exact absurd h (by decide))
        case hstep1 =>
          rintro listed act W i o ⟨hs, hB, x0, x1, x2, x3, x4, x5, x6, x7, x8, rfl, e0, e1, e2, e3, e4, e5, e6, e7, e8⟩ hun hio hpre
          have HB := Lib.hid hB
          have E0 := Lib.hid e0
          have E1 := Lib.hid e1
          have E2 := Lib.hid e2
          have E3 := Lib.hid e3
          have E4 := Lib.hid e4
          have E5 := Lib.hid e5
          have E6 := Lib.hid e6
          have E7 := Lib.hid e7
          have E8 := Lib.hid e8
          have HS := Lib.hid hs
          have HU := Lib.hid hun
          have PRE := Lib.hid hpre
          clear e0 e1 e2 e3 e4 e5 e6 e7 e8 hs hpre hB hun
          match i, hio with
          | 0, hio =>
            clear hio
            refine wpOp_by rfl fun K HK => ?_
            go_wp2_with (fail)
            exact HK.out _ _ ⟨by rw [Array.size_setIfInBounds, HS.out], HB.out, _, _, _, _, _, _, _, _, _, rfl, fun _ => rfl, fun h => E1.out ((listed_set h).resolve_left (by decide)), fun h => E2.out ((listed_set h).resolve_left (by decide)), fun h => E3.out ((listed_set h).resolve_left (by decide)), fun h => E4.out ((listed_set h).resolve_left (by decide)), fun h => E5.out ((listed_set h).resolve_left (by decide)), fun h => E6.out ((listed_set h).resolve_left (by decide)), fun h => E7.out ((listed_set h).resolve_left (by decide)), fun h => E8.out ((listed_set h).resolve_left (by decide))⟩
          | 1, hio =>
            clear hio
            refine wpOp_by rfl fun K HK => ?_
            go_wp2_with (fail)
            exact HK.out _ _ ⟨by rw [Array.size_setIfInBounds, HS.out], HB.out, _, _, _, _, _, _, _, _, _, rfl, fun h => E0.out ((listed_set h).resolve_left (by decide)), fun _ => rfl, fun h => E2.out ((listed_set h).resolve_left (by decide)), fun h => E3.out ((listed_set h).resolve_left (by decide)), fun h => E4.out ((listed_set h).resolve_left (by decide)), fun h => E5.out ((listed_set h).resolve_left (by decide)), fun h => E6.out ((listed_set h).resolve_left (by decide)), fun h => E7.out ((listed_set h).resolve_left (by decide)), fun h => E8.out ((listed_set h).resolve_left (by decide))⟩
          | 2, hio =>
            simp only [List.getElem?_toArray, List.getElem?_cons_succ, List.getElem?_cons_zero, Option.some.injEq] at hio
            subst hio
            have p0 := PRE.out ⟨0, .data⟩ (by simp) rfl
            have p1 := PRE.out ⟨1, .data⟩ (by simp) rfl
            obtain rfl := E0.out p0
            obtain rfl := E1.out p1
            refine wpOp_by rfl fun K HK => ?_
            go_wp2_with (fail)
            exact HK.out _ _ ⟨by rw [Array.size_setIfInBounds, HS.out], HB.out, _, _, _, _, _, _, _, _, _, rfl, fun _ => rfl, fun _ => rfl, fun _ => rfl, fun h => E3.out ((listed_set h).resolve_left (by decide)), fun h => E4.out ((listed_set h).resolve_left (by decide)), fun h => E5.out ((listed_set h).resolve_left (by decide)), fun h => E6.out ((listed_set h).resolve_left (by decide)), fun h => E7.out ((listed_set h).resolve_left (by decide)), fun h => E8.out ((listed_set h).resolve_left (by decide))⟩
          | 3, hio =>
            simp only [List.getElem?_toArray, List.getElem?_cons_succ, List.getElem?_cons_zero, Option.some.injEq] at hio
            subst hio
            have p2 := PRE.out ⟨2, .data⟩ (by simp) rfl
            obtain rfl := E2.out p2
            refine wpOp_by rfl fun K HK => ?_
            go_wp2_with (refine wpList_load_part rfl 93 _ rfl g1 (o1 + k * 16) rfl A _ (fun j v e => GC1.out W HB.out j v e) Try.underlying93 rfl (fr_info _ B18.out) ?_)
            exact HK.out _ _ ⟨by rw [Array.size_setIfInBounds, HS.out], HB.out, _, _, _, _, _, _, _, _, _, rfl, fun h => E0.out ((listed_set h).resolve_left (by decide)), fun h => E1.out ((listed_set h).resolve_left (by decide)), fun _ => rfl, fun _ => rfl, fun h => E4.out ((listed_set h).resolve_left (by decide)), fun h => E5.out ((listed_set h).resolve_left (by decide)), fun h => E6.out ((listed_set h).resolve_left (by decide)), fun h => E7.out ((listed_set h).resolve_left (by decide)), fun h => E8.out ((listed_set h).resolve_left (by decide))⟩
          | 4, hio =>
            clear hio
            refine wpOp_by rfl fun K HK => ?_
            go_wp2_with (fail)
            exact HK.out _ _ ⟨by rw [Array.size_setIfInBounds, HS.out], HB.out, _, _, _, _, _, _, _, _, _, rfl, fun h => E0.out ((listed_set h).resolve_left (by decide)), fun h => E1.out ((listed_set h).resolve_left (by decide)), fun h => E2.out ((listed_set h).resolve_left (by decide)), fun h => E3.out ((listed_set h).resolve_left (by decide)), fun _ => rfl, fun h => E5.out ((listed_set h).resolve_left (by decide)), fun h => E6.out ((listed_set h).resolve_left (by decide)), fun h => E7.out ((listed_set h).resolve_left (by decide)), fun h => E8.out ((listed_set h).resolve_left (by decide))⟩
          | 5, hio =>
            clear hio
            refine wpOp_by rfl fun K HK => ?_
            go_wp2_with (fail)
            exact HK.out _ _ ⟨by rw [Array.size_setIfInBounds, HS.out], HB.out, _, _, _, _, _, _, _, _, _, rfl, fun h => E0.out ((listed_set h).resolve_left (by decide)), fun h => E1.out ((listed_set h).resolve_left (by decide)), fun h => E2.out ((listed_set h).resolve_left (by decide)), fun h => E3.out ((listed_set h).resolve_left (by decide)), fun h => E4.out ((listed_set h).resolve_left (by decide)), fun _ => rfl, fun h => E6.out ((listed_set h).resolve_left (by decide)), fun h => E7.out ((listed_set h).resolve_left (by decide)), fun h => E8.out ((listed_set h).resolve_left (by decide))⟩
          | 6, hio =>
            simp only [List.getElem?_toArray, List.getElem?_cons_succ, List.getElem?_cons_zero, Option.some.injEq] at hio
            subst hio
            have p4 := PRE.out ⟨4, .data⟩ (by simp) rfl
            have p5 := PRE.out ⟨5, .data⟩ (by simp) rfl
            obtain rfl := E4.out p4
            obtain rfl := E5.out p5
            refine wpOp_by rfl fun K HK => ?_
            go_wp2_with (fail)
            exact HK.out _ _ ⟨by rw [Array.size_setIfInBounds, HS.out], HB.out, _, _, _, _, _, _, _, _, _, rfl, fun h => E0.out ((listed_set h).resolve_left (by decide)), fun h => E1.out ((listed_set h).resolve_left (by decide)), fun h => E2.out ((listed_set h).resolve_left (by decide)), fun h => E3.out ((listed_set h).resolve_left (by decide)), fun _ => rfl, fun _ => rfl, fun _ => rfl, fun h => E7.out ((listed_set h).resolve_left (by decide)), fun h => E8.out ((listed_set h).resolve_left (by decide))⟩
          | 7, hio =>
            simp only [List.getElem?_toArray, List.getElem?_cons_succ, List.getElem?_cons_zero, Option.some.injEq] at hio
            subst hio
            have p6 := PRE.out ⟨6, .data⟩ (by simp) rfl
            obtain rfl := E6.out p6
            refine wpOp_by rfl fun K HK => ?_
            go_wp2_with (refine wpList_load_part rfl 93 _ rfl g2 (o2 + k * 16) rfl A2 _ (fun j v e => GC2.out W HB.out j v e) Try.underlying93 rfl (fr_info _ B18b.out) ?_)
            exact HK.out _ _ ⟨by rw [Array.size_setIfInBounds, HS.out], HB.out, _, _, _, _, _, _, _, _, _, rfl, fun h => E0.out ((listed_set h).resolve_left (by decide)), fun h => E1.out ((listed_set h).resolve_left (by decide)), fun h => E2.out ((listed_set h).resolve_left (by decide)), fun h => E3.out ((listed_set h).resolve_left (by decide)), fun h => E4.out ((listed_set h).resolve_left (by decide)), fun h => E5.out ((listed_set h).resolve_left (by decide)), fun _ => rfl, fun _ => rfl, fun h => E8.out ((listed_set h).resolve_left (by decide))⟩
          | 8, hio =>
            simp only [List.getElem?_toArray, List.getElem?_cons_succ, List.getElem?_cons_zero, Option.some.injEq] at hio
            subst hio
            have p3 := PRE.out ⟨3, .data⟩ (by simp) rfl
            have p7 := PRE.out ⟨7, .data⟩ (by simp) rfl
            obtain rfl := E3.out p3
            obtain rfl := E7.out p7
            refine wpOp_by rfl fun K HK => ?_
            go_wp2_with (fail)
            exact HK.out _ _ ⟨by rw [Array.size_setIfInBounds, HS.out], HB.out, _, _, _, _, _, _, _, _, _, rfl, fun h => E0.out ((listed_set h).resolve_left (by decide)), fun h => E1.out ((listed_set h).resolve_left (by decide)), fun h => E2.out ((listed_set h).resolve_left (by decide)), fun _ => rfl, fun h => E4.out ((listed_set h).resolve_left (by decide)), fun h => E5.out ((listed_set h).resolve_left (by decide)), fun h => E6.out ((listed_set h).resolve_left (by decide)), fun _ => rfl, fun _ => rfl⟩
          | k + 9, hio => simp at hio
        case hend1 =>
          rintro listed act W1 ⟨hs, hB, x0, x1, x2, x3, x4, x5, x6, x7, x8, rfl, e0, e1, e2, e3, e4, e5, e6, e7, e8⟩ hall
          obtain rfl := e0 (hall 0 (by decide))
          obtain rfl := e1 (hall 1 (by decide))
          obtain rfl := e2 (hall 2 (by decide))
          obtain rfl := e3 (hall 3 (by decide))
          obtain rfl := e4 (hall 4 (by decide))
          obtain rfl := e5 (hall 5 (by decide))
          obtain rfl := e6 (hall 6 (by decide))
          obtain rfl := e7 (hall 7 (by decide))
          obtain rfl := e8 (hall 8 (by decide))
          clear hs hall 
          have HB1 := Lib.hid (HB.out.trans (hB.mono HB.out.size))
          clear hB hop
          cases r with
          | true =>
            go_wp2
            go_roundw
            case rel => exact ⟨k + 1, HK.out, by go_num, HB1.out, by rw [List.range_succ, List.all_append, HA.out]; simp [HR.out]⟩
            case measure => have := HK.out; simp [intOf]; omega
          | false =>
            go_wp2
            go_ret
            have hf : ((List.range n).all fun j => sameBlk f g j) = false := by
              cases hx : (List.range n).all fun j => sameBlk f g j with
              | false => rfl
              | true => have := List.all_eq_true.1 hx k (by simp; exact HK.out); rw [HR.out] at this; cases this
            rw [hf]
            exact ⟨rfl, HB1.out⟩
      · obtain rfl : k = n := by omega
        go_wp2
        go_ret
        rw [HA.out]
        exact ⟨rfl, HB.out⟩
  · have hne : ((n : Int) != (m : Int)) = true := by simp; omega
    have hsp : samePic f g n m = false := by simp [samePic, hnm]
    rw [hsp]
    go_enter Try.func100, Try.ntmps100
    go_wp2
    go_ret
    exact ⟨rfl, Below.refl _ _⟩
set_option maxRecDepth 20000 in
set_option maxHeartbeats 8000000 in
theorem equalFr_any (a1 a2 : Option Addr) (n m c1 c2 : Nat) (f g : Nat → Int) (B : Nat) (w : World) (hB : B ≤ w.heap.size) (hn : n ≤ 1048576) (hm : m ≤ 1048576) (h1 : FrR B w a1 n f) (h2 : FrR B w a2 m g) :
    Calls Try.prog 67 #[.slice a1 n c1, .slice a2 m c2] w fun e w' => e = .returned (.bool (samePic f g n m)) ∧ Below w.heap.size w w' := by
  have hl' : (n : Int) ≤ 1048576 := by omega
  by_cases hnm : n = m
  · subst hnm
    have hsp : samePic f g n n = (List.range n).all fun j => sameBlk f g j := by simp [samePic]
    rw [hsp]
    clear hsp hm
    have HP1 := Lib.hid h1
    have HP2 := Lib.hid h2
    clear h1 h2
    go_enter Try.func67, Try.ntmps67
    go_wp2
    go_loopw [13] (fun i wr => ∃ k : Nat, k ≤ n ∧ i = .int .i64 k ∧ Below w.heap.size w wr ∧ ((List.range k).all fun j => sameBlk f g j) = true) (fun i _ => n - (intOf i).toNat)
    case atStart => exact ⟨0, Nat.zero_le _, rfl, Below.refl _ _, rfl⟩
    case round =>
      obtain ⟨k, hk, rfl, hb, hall⟩ := hrel
      have HB := Lib.hid hb
      have HA := Lib.hid hall
      clear hb hall
      by_cases hlt : k < n
      · obtain ⟨g1, o1, rfl, hg1, hc1⟩ : ∃ b off, a1 = some ⟨b, off, none⟩ ∧ b < B ∧ ∀ j, j < 16 * n → w.cell? ⟨b, off + j, none⟩ = some (.int .u8 (f j)) := by
          rcases HP1.out with h | h
          · omega
          · exact h
        obtain ⟨g2, o2, rfl, hg2, hc2⟩ : ∃ b off, a2 = some ⟨b, off, none⟩ ∧ b < B ∧ ∀ j, j < 16 * n → w.cell? ⟨b, off + j, none⟩ = some (.int .u8 (g j)) := by
          rcases HP2.out with h | h
          · omega
          · exact h
        have tk : (k : Int) < (n : Int) := by omega
        have GC1 : Hid (∀ W, Below wr.heap.size wr W → ∀ j v, (fbl f k)[j]? = some v → W.cell? ⟨g1, o1 + k * 16 + j, none⟩ = some v) := Lib.hid fun W hW j v e => by
          have hj : j < 16 := by
            rcases Nat.lt_or_ge j 16 with h | h
            · exact h
            · rw [Array.getElem?_eq_none (by rw [fbl_size]; exact h)] at e; cases e
          have hs := HB.out.size
          rw [hW.cell (p := ⟨g1, o1 + k * 16 + j, none⟩) (by show g1 < _; omega), HB.out.cell (p := ⟨g1, o1 + k * 16 + j, none⟩) (by show g1 < _; omega), Nat.add_assoc, hc1 (k * 16 + j) (by omega), ← fbl_get f k j hj]
          exact e
        have GC2 : Hid (∀ W, Below wr.heap.size wr W → ∀ j v, (fbl g k)[j]? = some v → W.cell? ⟨g2, o2 + k * 16 + j, none⟩ = some v) := Lib.hid fun W hW j v e => by
          have hj : j < 16 := by
            rcases Nat.lt_or_ge j 16 with h | h
            · exact h
            · rw [Array.getElem?_eq_none (by rw [fbl_size]; exact h)] at e; cases e
          have hs := HB.out.size
          rw [hW.cell (p := ⟨g2, o2 + k * 16 + j, none⟩) (by show g2 < _; omega), HB.out.cell (p := ⟨g2, o2 + k * 16 + j, none⟩) (by show g2 < _; omega), Nat.add_assoc, hc2 (k * 16 + j) (by omega), ← fbl_get g k j hj]
          exact e
        have HK := Lib.hid hlt
        have B18 := Lib.hid (fbl_size f k)
        have B18b := Lib.hid (fbl_size g k)
        obtain ⟨r, hr⟩ : ∃ r, sameBlk f g k = r := ⟨_, rfl⟩
        have hop : ∀ w, (binOp .neq 93 (.agg (fbl f k)) (.agg (fbl g k))).run Try.prog w = .ok (.bool (!r)) w := fun w => by rw [← hr]; exact run_neq_fr _ _ _ w
        have HR := Lib.hid hr
        clear hc1 hc2 hlt hk hg1 hg2 HP1 HP2 hr
        generalize fbl f k = A at GC1 hop B18
        generalize fbl g k = A2 at GC2 hop B18b
        go_wp2
        refine wp_region_inv (by kernel_rfl) (fun listed act W => listed.size = 9 ∧ Below wr.heap.size wr W ∧ ∃ x0 x1 x2 x3 x4 x5 x6 x7 x8, act = { tmps := #[.slice (some ⟨g1, o1, none⟩) n c1, .slice (some ⟨g2, o2, none⟩) n c2, undef, undef, u4, .int .i64 (k : Int), .slice (some ⟨g1, o1, none⟩) n c1, .int .i64 (n : Int), .slice (some ⟨g2, o2, none⟩) n c2, .int .i64 (n : Int), .bool false, .slice (some ⟨g1, o1, none⟩) n c1, .int .i64 (n : Int), .int .i64 (k : Int), .bool true, .int .i64 (k : Int), x0, x1, x2, x3, x4, x5, x6, x7, x8, u25], defers := [] } ∧ (listed.getD 0 false = true → x0 = .slice (some ⟨g1, o1, none⟩) n c1) ∧ (listed.getD 1 false = true → x1 = .int .i64 (k : Int)) ∧ (listed.getD 2 false = true → x2 = .pointer (some ⟨g1, o1 + k * 16, none⟩)) ∧ (listed.getD 3 false = true → x3 = .agg A) ∧ (listed.getD 4 false = true → x4 = .slice (some ⟨g2, o2, none⟩) n c2) ∧ (listed.getD 5 false = true → x5 = .int .i64 (k : Int)) ∧ (listed.getD 6 false = true → x6 = .pointer (some ⟨g2, o2 + k * 16, none⟩)) ∧ (listed.getD 7 false = true → x7 = .agg A2) ∧ (listed.getD 8 false = true → x8 = .bool (!r))) (by kernel_rfl) ?h01 (fun _ _ _ h => h.1) ?hstep1 ?hend1
        case h01 =>
          refine ⟨rfl, (Below.refl _ _).drew, _, _, _, _, _, _, _, _, _, rfl, ?_, ?_, ?_, ?_, ?_, ?_, ?_, ?_, ?_⟩ <;> (intro h; exact absurd h (by decide))
        case hstep1 =>
          rintro listed act W i o ⟨hs, hB, x0, x1, x2, x3, x4, x5, x6, x7, x8, rfl, e0, e1, e2, e3, e4, e5, e6, e7, e8⟩ hun hio hpre
          have HB := Lib.hid hB
          have E0 := Lib.hid e0
          have E1 := Lib.hid e1
          have E2 := Lib.hid e2
          have E3 := Lib.hid e3
          have E4 := Lib.hid e4
          have E5 := Lib.hid e5
          have E6 := Lib.hid e6
          have E7 := Lib.hid e7
          have E8 := Lib.hid e8
          have HS := Lib.hid hs
          have HU := Lib.hid hun
          have PRE := Lib.hid hpre
          clear e0 e1 e2 e3 e4 e5 e6 e7 e8 hs hpre hB hun
          match i, hio with
          | 0, hio =>
            clear hio
            refine wpOp_by rfl fun K HK => ?_
            go_wp2_with (fail)
            exact HK.out _ _ ⟨by rw [Array.size_setIfInBounds, HS.out], HB.out, _, _, _, _, _, _, _, _, _, rfl, fun _ => rfl, fun h => E1.out ((listed_set h).resolve_left (by decide)), fun h => E2.out ((listed_set h).resolve_left (by decide)), fun h => E3.out ((listed_set h).resolve_left (by decide)), fun h => E4.out ((listed_set h).resolve_left (by decide)), fun h => E5.out ((listed_set h).resolve_left (by decide)), fun h => E6.out ((listed_set h).resolve_left (by decide)), fun h => E7.out ((listed_set h).resolve_left (by decide)), fun h => E8.out ((listed_set h).resolve_left (by decide))⟩
          | 1, hio =>
            clear hio
            refine wpOp_by rfl fun K HK => ?_
            go_wp2_with (fail)
            exact HK.out _ _ ⟨by rw [Array.size_setIfInBounds, HS.out], HB.out, _, _, _, _, _, _, _, _, _, rfl, fun h => E0.out ((listed_set h).resolve_left (by decide)), fun _ => rfl, fun h => E2.out ((listed_set h).resolve_left (by decide)), fun h => E3.out ((listed_set h).resolve_left (by decide)), fun h => E4.out ((listed_set h).resolve_left (by decide)), fun h => E5.out ((listed_set h).resolve_left (by decide)), fun h => E6.out ((listed_set h).resolve_left (by decide)), fun h => E7.out ((listed_set h).resolve_left (by decide)), fun h => E8.out ((listed_set h).resolve_left (by decide))⟩
          | 2, hio =>
            simp only [List.getElem?_toArray, List.getElem?_cons_succ, List.getElem?_cons_zero, Option.some.injEq] at hio
            subst hio
            have p0 := PRE.out ⟨0, .data⟩ (by simp) rfl
            have p1 := PRE.out ⟨1, .data⟩ (by simp) rfl
            obtain rfl := E0.out p0
            obtain rfl := E1.out p1
            refine wpOp_by rfl fun K HK => ?_
            go_wp2_with (fail)
            exact HK.out _ _ ⟨by rw [Array.size_setIfInBounds, HS.out], HB.out, _, _, _, _, _, _, _, _, _, rfl, fun _ => rfl, fun _ => rfl, fun _ => rfl, fun h => E3.out ((listed_set h).resolve_left (by decide)), fun h => E4.out ((listed_set h).resolve_left (by decide)), fun h => E5.out ((listed_set h).resolve_left (by decide)), fun h => E6.out ((listed_set h).resolve_left (by decide)), fun h => E7.out ((listed_set h).resolve_left (by decide)), fun h => E8.out ((listed_set h).resolve_left (by decide))⟩
          | 3, hio =>
            simp only [List.getElem?_toArray, List.getElem?_cons_succ, List.getElem?_cons_zero, Option.some.injEq] at hio
            subst hio
            have p2 := PRE.out ⟨2, .data⟩ (by simp) rfl
            obtain rfl := E2.out p2
            refine wpOp_by rfl fun K HK => ?_
            go_wp2_with (refine wpList_load_part rfl 93 _ rfl g1 (o1 + k * 16) rfl A _ (fun j v e => GC1.out W HB.out j v e) Try.underlying93 rfl (fr_info _ B18.out) ?_)
            exact HK.out _ _ ⟨by rw [Array.size_setIfInBounds, HS.out], HB.out, _, _, _, _, _, _, _, _, _, rfl, fun h => E0.out ((listed_set h).resolve_left (by decide)), fun h => E1.out ((listed_set h).resolve_left (by decide)), fun _ => rfl, fun _ => rfl, fun h => E4.out ((listed_set h).resolve_left (by decide)), fun h => E5.out ((listed_set h).resolve_left (by decide)), fun h => E6.out ((listed_set h).resolve_left (by decide)), fun h => E7.out ((listed_set h).resolve_left (by decide)), fun h => E8.out ((listed_set h).resolve_left (by decide))⟩
          | 4, hio =>
            clear hio
            refine wpOp_by rfl fun K HK => ?_
            go_wp2_with (fail)
            exact HK.out _ _ ⟨by rw [Array.size_setIfInBounds, HS.out], HB.out, _, _, _, _, _, _, _, _, _, rfl, fun h => E0.out ((listed_set h).resolve_left (by decide)), fun h => E1.out ((listed_set h).resolve_left (by decide)), fun h => E2.out ((listed_set h).resolve_left (by decide)), fun h => E3.out ((listed_set h).resolve_left (by decide)), fun _ => rfl, fun h => E5.out ((listed_set h).resolve_left (by decide)), fun h => E6.out ((listed_set h).resolve_left (by decide)), fun h => E7.out ((listed_set h).resolve_left (by decide)), fun h => E8.out ((listed_set h).resolve_left (by decide))⟩
          | 5, hio =>
            clear hio
            refine wpOp_by rfl fun K HK => ?_
            go_wp2_with (fail)
            exact HK.out _ _ ⟨by rw [Array.size_setIfInBounds, HS.out], HB.out, _, _, _, _, _, _, _, _, _, rfl, fun h => E0.out ((listed_set h).resolve_left (by decide)), fun h => E1.out ((listed_set h).resolve_left (by decide)), fun h => E2.out ((listed_set h).resolve_left (by decide)), fun h => E3.out ((listed_set h).resolve_left (by decide)), fun h => E4.out ((listed_set h).resolve_left (by decide)), fun _ => rfl, fun h => E6.out ((listed_set h).resolve_left (by decide)), fun h => E7.out ((listed_set h).resolve_left (by decide)), fun h => E8.out ((listed_set h).resolve_left (by decide))⟩
          | 6, hio =>
            simp only [List.getElem?_toArray, List.getElem?_cons_succ, List.getElem?_cons_zero, Option.some.injEq] at hio
            subst hio
            have p4 := PRE.out ⟨4, .data⟩ (by simp) rfl
            have p5 := PRE.out ⟨5, .data⟩ (by simp) rfl
            obtain rfl := E4.out p4
            obtain rfl := E5.out p5
            refine wpOp_by rfl fun K HK => ?_
            go_wp2_with (fail)
            exact HK.out _ _ ⟨by rw [Array.size_setIfInBounds, HS.out], HB.out, _, _, _, _, _, _, _, _, _, rfl, fun h => E0.out ((listed_set h).resolve_left (by decide)), fun h => E1.out ((listed_set h).resolve_left (by decide)), fun h => E2.out ((listed_set h).resolve_left (by decide)), fun h => E3.out ((listed_set h).resolve_left (by decide)), fun _ => rfl, fun _ => rfl, fun _ => rfl, fun h => E7.out ((listed_set h).resolve_left (by decide)), fun h => E8.out ((listed_set h).resolve_left (by decide))⟩
          | 7, hio =>
            simp only [List.getElem?_toArray, List.getElem?_cons_succ, List.getElem?_cons_zero, Option.some.injEq] at hio
            subst hio
            have p6 := PRE.out ⟨6, .data⟩ (by simp) rfl
            obtain rfl := E6.out p6
            refine wpOp_by rfl fun K HK => ?_
            go_wp2_with (refine wpList_load_part rfl 93 _ rfl g2 (o2 + k * 16) rfl A2 _ (fun j v e => GC2.out W HB.out j v e) Try.underlying93 rfl (fr_info _ B18b.out) ?_)
            exact HK.out _ _ ⟨by rw [Array.size_setIfInBounds, HS.out], HB.out, _, _, _, _, _, _, _, _, _, rfl, fun h => E0.out ((listed_set h).resolve_left (by decide)), fun h => E1.out ((listed_set h).resolve_left (by decide)), fun h => E2.out ((listed_set h).resolve_left (by decide)), fun h => E3.out ((listed_set h).resolve_left (by decide)), fun h => E4.out ((listed_set h).resolve_left (by decide)), fun h => E5.out ((listed_set h).resolve_left (by decide)), fun _ => rfl, fun _ => rfl, fun h => E8.out ((listed_set h).resolve_left (by decide))⟩
          | 8, hio =>
            simp only [List.getElem?_toArray, List.getElem?_cons_succ, List.getElem?_cons_zero, Option.some.injEq] at hio
            subst hio
            have p3 := PRE.out ⟨3, .data⟩ (by simp) rfl
            have p7 := PRE.out ⟨7, .data⟩ (by simp) rfl
            obtain rfl := E3.out p3
            obtain rfl := E7.out p7
            refine wpOp_by rfl fun K HK => ?_
            go_wp2_with (fail)
            exact HK.out _ _ ⟨by rw [Array.size_setIfInBounds, HS.out], HB.out, _, _, _, _, _, _, _, _, _, rfl, fun h => E0.out ((listed_set h).resolve_left (by decide)), fun h => E1.out ((listed_set h).resolve_left (by decide)), fun h => E2.out ((listed_set h).resolve_left (by decide)), fun _ => rfl, fun h => E4.out ((listed_set h).resolve_left (by decide)), fun h => E5.out ((listed_set h).resolve_left (by decide)), fun h => E6.out ((listed_set h).resolve_left (by decide)), fun _ => rfl, fun _ => rfl⟩
          | k + 9, hio => simp at hio
        case hend1 =>
          rintro listed act W1 ⟨hs, hB, x0, x1, x2, x3, x4, x5, x6, x7, x8, rfl, e0, e1, e2, e3, e4, e5, e6, e7, e8⟩ hall
          obtain rfl := e0 (hall 0 (by decide))
          obtain rfl := e1 (hall 1 (by decide))
          obtain rfl := e2 (hall 2 (by decide))
          obtain rfl := e3 (hall 3 (by decide))
          obtain rfl := e4 (hall 4 (by decide))
          obtain rfl := e5 (hall 5 (by decide))
          obtain rfl := e6 (hall 6 (by decide))
          obtain rfl := e7 (hall 7 (by decide))
          obtain rfl := e8 (hall 8 (by decide))
          clear hs hall 
          have HB1 := Lib.hid (HB.out.trans (hB.mono HB.out.size))
          clear hB hop
          cases r with
          | true =>
            go_wp2
            go_roundw
            case rel => exact ⟨k + 1, HK.out, by go_num, HB1.out, by rw [List.range_succ, List.all_append, HA.out]; simp [HR.out]⟩
            case measure => have := HK.out; simp [intOf]; omega
          | false =>
            go_wp2
            go_ret
            have hf : ((List.range n).all fun j => sameBlk f g j) = false := by
              cases hx : (List.range n).all fun j => sameBlk f g j with
              | false => rfl
              | true => have := List.all_eq_true.1 hx k (by simp; exact HK.out); rw [HR.out] at this; cases this
            rw [hf]
            exact ⟨rfl, HB1.out⟩
      · obtain rfl : k = n := by omega
        go_wp2
        go_ret
        rw [HA.out]
        exact ⟨rfl, HB.out⟩
  · have hne : ((n : Int) != (m : Int)) = true := by simp; omega
    have hsp : samePic f g n m = false := by simp [samePic, hnm]
    rw [hsp]
    go_enter Try.func67, Try.ntmps67
    go_wp2
    go_ret
    exact ⟨rfl, Below.refl _ _⟩
end Go.Proofs.Ytkijgadkgfapgaa
