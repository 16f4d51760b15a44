/-
  CONTRACTS: l07Find, l07Holds, PictureHas by the specification.
-/
import Derived.Test.YthfmkejdpflpcaaJa
import Derived.Test.YthfmkejdpflpcaaGpc
namespace Go.Proofs.Ythfmkejdpflpcaa
open Go.ChangeShapes Go.WideShapes Go.ChangeAt Go.RowKit
def coEq (f : Nat → Int) (k : Nat) (p q : Int) : Bool := (List.range 2).all fun i => co (f (k * 18)) (f (k * 18 + 1)) i == co p q i
def fdF (f : Nat → Int) (n : Nat) (p q : Int) : Nat → Int := match (List.range n).find? fun k => coEq f k p q with | some k => mkF f k | none => zI
theorem coEq_iff {f : Nat → Int} {k : Nat} {p q : Int} : coEq f k p q = true ↔ f (k * 18) = p ∧ f (k * 18 + 1) = q := by
  unfold coEq co
  simp [List.range_succ]
theorem fdF_hit {f : Nat → Int} {n k : Nat} {p q : Int} (hk : k < n) (h : coEq f k p q = true) (hno : ∀ i, i < k → coEq f i p q = false) : fdF f n p q = mkF f k := by
  unfold fdF
  have : (List.range n).find? (fun k => coEq f k p q) = some k := by
    rw [List.find?_range_eq_some]
    exact ⟨h, by simpa using hk, fun j hj => by simpa using hno j hj⟩
  rw [this]
theorem fdF_none {f : Nat → Int} {n : Nat} {p q : Int} (hno : ∀ i, i < n → coEq f i p q = false) : fdF f n p q = zI := by
  unfold fdF
  have : (List.range n).find? (fun k => coEq f k p q) = none := by
    rw [List.find?_eq_none]
    intro x hx
    simp [hno x (by simpa using hx)]
  rw [this]
theorem fdF_MB {f : Nat → Int} {n : Nat} (hf : BlF n f) (p q : Int) : MB (fdF f n p q) := by
  unfold fdF
  split
  · rename_i k hk
    have hkn : k < n := by simpa using List.mem_of_find?_eq_some hk
    intro y hy
    have := hf (k * 18 + 2 + y) (by omega)
    rw [if_neg (by omega)] at this
    exact this
  · exact zero_MB
theorem run_eql_co (f : Nat → Int) (k : Nat) (p q : Int) (w : World) : (binOp .eql 46 (.agg #[.int .i32 (f (k * 18)), .int .i32 (f (k * 18 + 1))]) (.agg #[.int .i32 p, .int .i32 q])).run Try.prog w = .ok (.bool (coEq f k p q)) w := by
  rw [run_eql_struct, ← arr_co, ← arr_co]
  rw [eqArrD (P := Try.prog) (t := 46) (e := 21) (n := 2) (q := .i32) 9998 (co (f (k * 18)) (f (k * 18 + 1))) (co p q) Try.underlying46 Try.underlying21 (by kernel_rfl) w]
  rfl
set_option maxRecDepth 20000 in
set_option maxHeartbeats 8000000 in
theorem find_any (a : Option Addr) (n cap : Nat) (f : Nat → Int) (p q : Int) (w : World) (hn : n ≤ 1048576) (h : BlR w.heap.size w a n f) :
    Calls Try.prog 73 #[.slice a n cap, .agg #[.int .i32 p, .int .i32 q]] w fun e w' => e = .returned (.agg (M16 (fdF f n p q))) ∧ Below w.heap.size w w' := by
  have HR := Lib.hid h
  have nI : (n : Int) ≤ 1048576 := by omega
  clear h hn
  obtain ⟨w1, hw1⟩ : ∃ x, w.alloc (.cells #[.int .i32 p, .int .i32 q] 46) = x := ⟨_, rfl⟩
  obtain ⟨w2, hw2⟩ : ∃ x, w1.alloc (.cells #[Value.int .u16 0, Value.int .u16 0, Value.int .u16 0, Value.int .u16 0, Value.int .u16 0, Value.int .u16 0, Value.int .u16 0, Value.int .u16 0, Value.int .u16 0, Value.int .u16 0, Value.int .u16 0, Value.int .u16 0, Value.int .u16 0, Value.int .u16 0, Value.int .u16 0, Value.int .u16 0] 71) = x := ⟨_, rfl⟩
  have S1 : w1.heap.size = w.heap.size + 1 := by rw [← hw1]; simp
  have b1 : Below w.heap.size w w1 := by rw [← hw1]; exact (Below.refl _ _).alloc (Nat.le_refl _) _
  have b2 : Below w1.heap.size w1 w2 := by rw [← hw2]; exact (Below.refl _ _).alloc (Nat.le_refl _) _
  have B2 : Hid (Below w.heap.size w w2) := Lib.hid (b1.trans (b2.mono (by omega)))
  have P1 : Hid (w2.heap[w.heap.size]? = some (.cells #[.int .i32 p, .int .i32 q] 46 (0, 0))) := Lib.hid ((b2.block _ (by omega)).trans (by rw [← hw1]; exact World.alloc_heap_new w _))
  have P2 : Hid (w2.heap[w.heap.size + 1]? = some (.cells #[Value.int .u16 0, Value.int .u16 0, Value.int .u16 0, Value.int .u16 0, Value.int .u16 0, Value.int .u16 0, Value.int .u16 0, Value.int .u16 0, Value.int .u16 0, Value.int .u16 0, Value.int .u16 0, Value.int .u16 0, Value.int .u16 0, Value.int .u16 0, Value.int .u16 0, Value.int .u16 0] 71 (0, 0))) := Lib.hid (by rw [← hw2, ← S1]; exact World.alloc_heap_new w1 _)
  clear b1 b2
  go_enter Try.func73, Try.ntmps73
  go_wp2
  go_loopw [5] (fun vi wr => ∃ k : Nat, k ≤ n ∧ vi = .int .i64 (k : Int) ∧ Hid (wr.heap[w.heap.size]? = some (.cells #[.int .i32 p, .int .i32 q] 46 (0, 0))) ∧ Hid (wr.heap[w.heap.size + 1]? = some (.cells #[Value.int .u16 0, Value.int .u16 0, Value.int .u16 0, Value.int .u16 0, Value.int .u16 0, Value.int .u16 0, Value.int .u16 0, Value.int .u16 0, Value.int .u16 0, Value.int .u16 0, Value.int .u16 0, Value.int .u16 0, Value.int .u16 0, Value.int .u16 0, Value.int .u16 0, Value.int .u16 0] 71 (0, 0))) ∧ Hid (Below w.heap.size w wr) ∧ Hid (∀ i, i < k → coEq f i p q = false)) (fun vi _ => n - (intOf vi).toNat)
  case atStart => exact ⟨0, by omega, rfl, P1, P2, B2, Lib.hid fun i h => absurd h (by omega)⟩
  case round =>
    obtain ⟨k, hk, rfl, R1, R2, hb, hs⟩ := hrel
    by_cases hlt : k < n
    · have tk : (k : Int) < (n : Int) := by omega
      obtain ⟨g, off, rfl, hg, hc⟩ : ∃ g off, a = some ⟨g, off, none⟩ ∧ g < w.heap.size ∧ ∀ j, j < 18 * n → w.cell? ⟨g, off + j, none⟩ = some (bcell f j) := by
        rcases HR.out with h | h
        · omega
        · exact h
      have HCB : Hid (∀ W, Below w.heap.size w W → ∀ j v, (blk f k)[j]? = some v → W.cell? ⟨g, off + k * 18 + j, none⟩ = some v) := Lib.hid fun W hW j v e => by
        have hj : j < 18 := by
          have := (Array.getElem?_eq_some_iff.1 e).1
          rwa [blk_size] at this
        rw [hW.cell (p := ⟨g, off + k * 18 + j, none⟩) hg, Nat.add_assoc, hc (k * 18 + j) (by omega), ← blk_get f k j hj]
        exact e
      have HK := Lib.hid hlt
      obtain ⟨px, hpx⟩ : ∃ x, f (k * 18) = x := ⟨_, rfl⟩
      obtain ⟨qx, hqx⟩ : ∃ x, f (k * 18 + 1) = x := ⟨_, rfl⟩
      have HC0 : Hid (∀ W, Below w.heap.size w W → ∀ j v, (#[Value.int .i32 px, .int .i32 qx] : Array Value)[j]? = some v → W.cell? ⟨g, off + k * 18 + j, none⟩ = some v) := Lib.hid fun W hW j v e => by
        have := HCB.out W hW (0 + j) v (bl_co _ _ _ j v (by rw [hpx, hqx]; exact e))
        rwa [Nat.zero_add] at this
      have HCM : Hid (∀ W, Below w.heap.size w W → ∀ j v, (M16 (mkF f k))[j]? = some v → W.cell? ⟨g, off + k * 18 + 2 + j, none⟩ = some v) := Lib.hid fun W hW j v e => by
        have := HCB.out W hW (2 + j) v (bl_mask _ _ (mkF f k) j v e)
        rwa [← Nat.add_assoc] at this
      have M16S : Hid ((M16 (mkF f k)).size = 16) := Lib.hid (arr_size _ _ _)
      have MO : Hid ((M16 (mkF f k)).all (·.oneCell') = true) := Lib.hid (arr_cells _ _ _)
      have MZ : Hid ((#[Value.int .u16 0, Value.int .u16 0, Value.int .u16 0, Value.int .u16 0, Value.int .u16 0, Value.int .u16 0, Value.int .u16 0, Value.int .u16 0, Value.int .u16 0, Value.int .u16 0, Value.int .u16 0, Value.int .u16 0, Value.int .u16 0, Value.int .u16 0, Value.int .u16 0, Value.int .u16 0] : Array Value).size = (M16 (mkF f k)).size) := Lib.hid (M16S.out.symm.trans rfl).symm
      have EQ : ∀ W, (binOp .eql 46 (.agg #[.int .i32 px, .int .i32 qx]) (.agg #[.int .i32 p, .int .i32 q])).run Try.prog W = .ok (.bool (coEq f k p q)) W := fun W => by rw [← hpx, ← hqx]; exact run_eql_co f k p q W
      have HIT : Hid (coEq f k p q = true → fdF f n p q = mkF f k) := Lib.hid fun h => fdF_hit HK.out h hs.out
      obtain ⟨r, hr⟩ : ∃ r, coEq f k p q = r := ⟨_, rfl⟩
      rw [hr] at EQ HIT
      have HRR := Lib.hid hr
      clear hc hg hpx hqx hr hlt hk
      go_wp2
      refine wp_region_inv (by kernel_rfl) (fun listed act W => listed.size = 7 ∧ Below wr.heap.size wr W ∧ ∃ x0 x1 x2 x3 x4 x5 x6, act = { tmps := #[.slice (some ⟨g, off, none⟩) n cap, .agg #[.int .i32 p, .int .i32 q], undef, .pointer (some ⟨w.heap.size, 0, none⟩), .pointer (some ⟨w.heap.size + 1, 0, none⟩), .int .i64 (k : Int), .int .i64 (k : Int), .slice (some ⟨g, off, none⟩) n cap, .int .i64 (n : Int), .bool true, u10, u11, x0, x1, x2, x3, x4, x5, x6, u19, u20, u21, u22, u23, undef], defers := [] } ∧ (listed.getD 0 false = true → x0 = .slice (some ⟨g, off, none⟩) n cap) ∧ (listed.getD 1 false = true → x1 = .int .i64 (k : Int)) ∧ (listed.getD 2 false = true → x2 = .pointer (some ⟨g, off + k * 18, none⟩)) ∧ (listed.getD 3 false = true → x3 = .pointer (some ⟨g, off + k * 18, none⟩)) ∧ (listed.getD 4 false = true → x4 = .agg #[.int .i32 px, .int .i32 qx]) ∧ (listed.getD 5 false = true → x5 = .agg #[.int .i32 p, .int .i32 q]) ∧ (listed.getD 6 false = true → x6 = .bool r)) (by kernel_rfl) ?h0q (fun _ _ _ h => h.1) ?hstepq ?hendq
      case h0q =>
        refine ⟨rfl, (Below.refl _ _).drew, _, _, _, _, _, _, _, rfl, ?_, ?_, ?_, ?_, ?_, ?_, ?_⟩ <;> (intro h; exact absurd h (by decide))
      case hstepq =>
        rintro listed act W i o ⟨hs, hB, x0, x1, x2, x3, x4, x5, x6, rfl, e0, e1, e2, e3, e4, e5, e6⟩ hun hio hpre
        have HB := Lib.hid hB
        have E0 := Lib.hid e0
        have E1 := Lib.hid e1
        have E2 := Lib.hid e2
        have E3 := Lib.hid e3
        have E4 := Lib.hid e4
        have E5 := Lib.hid e5
        have E6 := Lib.hid e6
        have HS := Lib.hid hs
        have HU := Lib.hid hun
        have PRE := Lib.hid hpre
        clear e0 e1 e2 e3 e4 e5 e6 hs hpre hB hun
        match i, hio with
        | 0, hio =>
          clear hio
          refine wpOp_by rfl fun K HK => ?_
          go_wp2_with (fail)
          exact HK.out _ _ ⟨by rw [Array.size_setIfInBounds, HS.out], HB.out, _, _, _, _, _, _, _, rfl, fun _ => rfl, fun h => E1.out ((listed_set h).resolve_left (by decide)), fun h => E2.out ((listed_set h).resolve_left (by decide)), fun h => E3.out ((listed_set h).resolve_left (by decide)), fun h => E4.out ((listed_set h).resolve_left (by decide)), fun h => E5.out ((listed_set h).resolve_left (by decide)), fun h => E6.out ((listed_set h).resolve_left (by decide))⟩
        | 1, hio =>
          clear hio
          refine wpOp_by rfl fun K HK => ?_
          go_wp2_with (fail)
          exact HK.out _ _ ⟨by rw [Array.size_setIfInBounds, HS.out], HB.out, _, _, _, _, _, _, _, rfl, fun h => E0.out ((listed_set h).resolve_left (by decide)), fun _ => rfl, fun h => E2.out ((listed_set h).resolve_left (by decide)), fun h => E3.out ((listed_set h).resolve_left (by decide)), fun h => E4.out ((listed_set h).resolve_left (by decide)), fun h => E5.out ((listed_set h).resolve_left (by decide)), fun h => E6.out ((listed_set h).resolve_left (by decide))⟩
        | 2, hio =>
          simp only [List.getElem?_toArray, List.getElem?_cons_succ, List.getElem?_cons_zero, Option.some.injEq] at hio
          subst hio
          have p0 := PRE.out ⟨0, .data⟩ (by simp) rfl
          have p1 := PRE.out ⟨1, .data⟩ (by simp) rfl
          obtain rfl := E0.out p0
          obtain rfl := E1.out p1
          refine wpOp_by rfl fun K HK => ?_
          go_wp2_with (fail)
          exact HK.out _ _ ⟨by rw [Array.size_setIfInBounds, HS.out], HB.out, _, _, _, _, _, _, _, rfl, fun _ => rfl, fun _ => rfl, fun _ => rfl, fun h => E3.out ((listed_set h).resolve_left (by decide)), fun h => E4.out ((listed_set h).resolve_left (by decide)), fun h => E5.out ((listed_set h).resolve_left (by decide)), fun h => E6.out ((listed_set h).resolve_left (by decide))⟩
        | 3, hio =>
          simp only [List.getElem?_toArray, List.getElem?_cons_succ, List.getElem?_cons_zero, Option.some.injEq] at hio
          subst hio
          have p2 := PRE.out ⟨2, .data⟩ (by simp) rfl
          obtain rfl := E2.out p2
          refine wpOp_by rfl fun K HK => ?_
          go_wp2_with (fail)
          exact HK.out _ _ ⟨by rw [Array.size_setIfInBounds, HS.out], HB.out, _, _, _, _, _, _, _, rfl, fun h => E0.out ((listed_set h).resolve_left (by decide)), fun h => E1.out ((listed_set h).resolve_left (by decide)), fun _ => rfl, fun _ => rfl, fun h => E4.out ((listed_set h).resolve_left (by decide)), fun h => E5.out ((listed_set h).resolve_left (by decide)), fun h => E6.out ((listed_set h).resolve_left (by decide))⟩
        | 4, hio =>
          simp only [List.getElem?_toArray, List.getElem?_cons_succ, List.getElem?_cons_zero, Option.some.injEq] at hio
          subst hio
          have p3 := PRE.out ⟨3, .data⟩ (by simp) rfl
          obtain rfl := E3.out p3
          refine wpOp_by rfl fun K HK => ?_
          go_wp2_with (refine wpList_load_part rfl 46 _ rfl g (off + k * 18) rfl #[.int .i32 px, .int .i32 qx] _ (HC0.out W (hb.out.trans (HB.out.mono hb.out.size))) Try.underlying46 rfl (co_info _ rfl) ?_)
          exact HK.out _ _ ⟨by rw [Array.size_setIfInBounds, HS.out], HB.out, _, _, _, _, _, _, _, rfl, fun h => E0.out ((listed_set h).resolve_left (by decide)), fun h => E1.out ((listed_set h).resolve_left (by decide)), fun h => E2.out ((listed_set h).resolve_left (by decide)), fun _ => rfl, fun _ => rfl, fun h => E5.out ((listed_set h).resolve_left (by decide)), fun h => E6.out ((listed_set h).resolve_left (by decide))⟩
        | 5, hio =>
          clear hio
          have r1 := (HB.out.block _ (Array.getElem?_eq_some_iff.1 R1.out).1).trans R1.out
          refine wpOp_by rfl fun K HK => ?_
          go_wp2_with (refine wpList_load_row rfl 46 _ rfl w.heap.size rfl 46 _ _ _ r1 Try.underlying46 rfl (co_info _ rfl) ?_)
          exact HK.out _ _ ⟨by rw [Array.size_setIfInBounds, HS.out], HB.out, _, _, _, _, _, _, _, rfl, fun h => E0.out ((listed_set h).resolve_left (by decide)), fun h => E1.out ((listed_set h).resolve_left (by decide)), fun h => E2.out ((listed_set h).resolve_left (by decide)), fun h => E3.out ((listed_set h).resolve_left (by decide)), fun h => E4.out ((listed_set h).resolve_left (by decide)), fun _ => rfl, fun h => E6.out ((listed_set h).resolve_left (by decide))⟩
        | 6, hio =>
          simp only [List.getElem?_toArray, List.getElem?_cons_succ, List.getElem?_cons_zero, Option.some.injEq] at hio
          subst hio
          have p4 := PRE.out ⟨4, .data⟩ (by simp) rfl
          have p5 := PRE.out ⟨5, .data⟩ (by simp) rfl
          obtain rfl := E4.out p4
          obtain rfl := E5.out p5
          refine wpOp_by rfl fun K HK => ?_
          go_wp2_with (fail)
          exact HK.out _ _ ⟨by rw [Array.size_setIfInBounds, HS.out], HB.out, _, _, _, _, _, _, _, rfl, fun h => E0.out ((listed_set h).resolve_left (by decide)), fun h => E1.out ((listed_set h).resolve_left (by decide)), fun h => E2.out ((listed_set h).resolve_left (by decide)), fun h => E3.out ((listed_set h).resolve_left (by decide)), fun _ => rfl, fun _ => rfl, fun _ => rfl⟩
        | k + 7, hio => simp at hio
      case hendq =>
        rintro listed act W1 ⟨hs, hB, x0, x1, x2, x3, x4, x5, x6, rfl, e0, e1, e2, e3, e4, e5, e6⟩ hall
        obtain rfl := e0 (hall 0 (by decide))
        obtain rfl := e1 (hall 1 (by decide))
        obtain rfl := e2 (hall 2 (by decide))
        obtain rfl := e3 (hall 3 (by decide))
        obtain rfl := e4 (hall 4 (by decide))
        obtain rfl := e5 (hall 5 (by decide))
        obtain rfl := e6 (hall 6 (by decide))
        clear hs
        have BZ := Lib.hid (hb.out.trans (hB.mono hb.out.size))
        have V1 : Hid (W1.heap[w.heap.size]? = some (.cells #[.int .i32 p, .int .i32 q] 46 (0, 0))) := Lib.hid ((hB.block _ (Array.getElem?_eq_some_iff.1 R1.out).1).trans R1.out)
        have V2 : Hid (W1.heap[w.heap.size + 1]? = some (.cells #[Value.int .u16 0, Value.int .u16 0, Value.int .u16 0, Value.int .u16 0, Value.int .u16 0, Value.int .u16 0, Value.int .u16 0, Value.int .u16 0, Value.int .u16 0, Value.int .u16 0, Value.int .u16 0, Value.int .u16 0, Value.int .u16 0, Value.int .u16 0, Value.int .u16 0, Value.int .u16 0] 71 (0, 0))) := Lib.hid ((hB.block _ (Array.getElem?_eq_some_iff.1 R2.out).1).trans R2.out)
        clear hB hall EQ
        cases r with
        | false =>
          go_wp2
          go_roundw
          case rel => exact ⟨k + 1, HK.out, by go_num, V1, V2, BZ, Lib.hid fun i hi => by
            rcases Nat.lt_or_ge i k with h | h
            · exact hs.out i h
            · obtain rfl : i = k := by omega
              exact HRR.out⟩
          case measure => have := HK.out; simp [intOf]; omega
        | true =>
          have FN := Lib.hid (HIT.out rfl)
          obtain ⟨MA, hMA⟩ : ∃ x, mkF f k = x := ⟨_, rfl⟩
          rw [hMA] at HCM M16S MO MZ FN
          obtain ⟨w6, hw6⟩ : ∃ x, W1.setRow (w.heap.size + 1) (M16 MA) = x := ⟨_, rfl⟩
          have R6 : Hid (w6.heap[w.heap.size + 1]? = some (.cells (M16 MA) 71 (0, 0))) := Lib.hid (by rw [← hw6]; exact setRow_heap _ _ _ _ _ _ V2.out)
          have B6 : Hid (Below w.heap.size w w6) := Lib.hid (by rw [← hw6]; exact below_setRow BZ.out (by omega) _)
          clear hMA
          go_wp2_with (first | (refine wpList_load_part rfl 71 _ rfl g (off + k * 18 + 2) rfl (M16 MA) _ (HCM.out W1 BZ.out) Try.underlying71 rfl (mask_info _ M16S.out) ?_) | (refine wpList_store_row rfl 71 _ _ rfl (w.heap.size + 1) (M16 MA) rfl rfl 71 _ V2.out (mask_info _ M16S.out) MZ.out MO.out ?_; rw [hw6]))
          rw [FN.out]
          exact bodyPost_ret (results_cell_row Try.results73 _ _ (w.heap.size + 1) _ _ _ _ rfl R6.out Try.underlying71 rfl (mask_info _ M16S.out)) rfl ⟨rfl, B6.out⟩
    · obtain rfl : k = n := by omega
      have FN : Hid (fdF f k p q = zI) := Lib.hid (fdF_none hs.out)
      obtain ⟨w6, hw6⟩ : ∃ x, wr.setRow (w.heap.size + 1) (M16 zI) = x := ⟨_, rfl⟩
      have R6 : Hid (w6.heap[w.heap.size + 1]? = some (.cells (M16 zI) 71 (0, 0))) := Lib.hid (by rw [← hw6]; exact setRow_heap _ _ _ _ _ _ R2.out)
      have B6 : Hid (Below w.heap.size w w6) := Lib.hid (by rw [← hw6]; exact below_setRow hb.out (by omega) _)
      clear hlt hk hb
      go_wp2_with (refine wpList_store_row rfl 71 _ _ rfl (w.heap.size + 1) (M16 zI) rfl rfl 71 _ R2.out (mask_info _ (arr_size _ _ _)) rfl (arr_cells _ _ _) ?_; rw [hw6])
      rw [FN.out]
      exact bodyPost_ret (results_cell_row Try.results73 _ _ (w.heap.size + 1) _ _ _ _ rfl R6.out Try.underlying71 rfl (mask_info _ (arr_size _ _ _))) rfl ⟨rfl, B6.out⟩
end Go.Proofs.Ythfmkejdpflpcaa
