/-
  BLOCKS OF PICTURES, the specification's: l07Empty, l07Fits, l07Before.
-/
import Derived.Test.YthfmkejdpflpcaaVb
namespace Go.Proofs.Ythfmkejdpflpcaa
open Go.ChangeShapes Go.WideShapes Go.ChangeAt Go.RowKit
theorem sEmpty_any (f : Nat → Int) (g off : Nat) (w : World) (hc : ∀ j v, (M16 f)[j]? = some v → w.cell? ⟨g, off + j, none⟩ = some v) :
    Calls Try.prog 102 #[.pointer (some ⟨g, off, none⟩)] w fun e w' => e = .returned (.bool (emptyF f)) ∧ Below w.heap.size w w' := by
  have HC := Lib.hid hc
  have hop := eql_mask f
  rw [← zero_mask] at hop
  have hsz : (M16 f).size = 16 := arr_size _ _ _
  clear hc
  generalize emptyF f = r at hop ⊢
  generalize M16 f = A at *
  go_enter Try.func102, Try.ntmps102
  go_wp2_with (refine wpList_load_part rfl 71 _ rfl g off rfl A _ HC.out Try.underlying71 rfl (mask_info _ hsz) ?_)
  go_ret
  exact ⟨rfl, Below.refl _ _⟩
/-- before: by rows, then by columns -/
def lessB (p q p' q' : Int) : Bool := decide (q < q') || (decide (q = q') && decide (p < p'))
theorem cmpR_less (p q p' q' : Int) : (cmpR p q p' q' < 0) ↔ lessB p q p' q' = true := by
  unfold cmpR orI sg lessB
  by_cases h1 : q < q'
  · simp [h1]
  · by_cases h2 : q' < q
    · have : ¬ q = q' := by omega
      simp [h1, h2, this]
    · have h3 : q = q' := by omega
      subst h3
      by_cases h4 : p < p'
      · simp [h4]
      · by_cases h5 : p' < p
        · simp [h4, h5]
        · simp [h4, h5]
theorem sBefore_any (p q p' q' : Int) (w : World) :
    Calls Try.prog 104 #[.agg #[.int .i32 p, .int .i32 q], .agg #[.int .i32 p', .int .i32 q']] w fun e w' => e = .returned (.bool (lessB p q p' q')) ∧ Below w.heap.size w w' := by
  unfold lessB
  by_cases h1 : q < q'
  · rw [decide_eq_true h1, Bool.true_or]
    go_enter Try.func104, Try.ntmps104
    go_wp2
    go_ret
    exact ⟨rfl, ((Below.refl _ _).alloc (Nat.le_refl _) _).alloc (by simp) _⟩
  · rw [decide_eq_false h1, Bool.false_or]
    by_cases h2 : q = q'
    · subst h2
      rw [decide_eq_true rfl, Bool.true_and]
      go_enter Try.func104, Try.ntmps104
      go_wp2
      go_ret
      exact ⟨rfl, ((Below.refl _ _).alloc (Nat.le_refl _) _).alloc (by simp) _⟩
    · rw [decide_eq_false h2, Bool.false_and]
      have h2' : (q == q') = false := beq_eq_false_iff_ne.2 h2
      go_enter Try.func104, Try.ntmps104
      go_wp2
      go_ret
      exact ⟨rfl, ((Below.refl _ _).alloc (Nat.le_refl _) _).alloc (by simp) _⟩
theorem cellsV_len (l : List Cl) : (cellsV l).length = 2 * l.length := by
  induction l with
  | nil => rfl
  | cons c r ih =>
    have e : cellsV (c :: r) = .int .i32 (c.1.1 : Int) :: .int .i32 (c.1.2 : Int) :: cellsV r := rfl
    rw [e]; simp; omega
theorem cellsV_at : ∀ (l : List Cl) (k : Nat) (h : k < l.length), (cellsV l)[2 * k]? = some (.int .i32 ((l[k]'h).1.1 : Int)) ∧ (cellsV l)[2 * k + 1]? = some (.int .i32 ((l[k]'h).1.2 : Int))
  | [], k, h => by simp at h
  | c :: r, k, h => by
    have e : cellsV (c :: r) = .int .i32 (c.1.1 : Int) :: .int .i32 (c.1.2 : Int) :: cellsV r := rfl
    rw [e]
    cases k with
    | zero => exact ⟨rfl, rfl⟩
    | succ k =>
      have ih := cellsV_at r k (by simpa using h)
      refine ⟨?_, ?_⟩
      · rw [show 2 * (k + 1) = 2 * k + 1 + 1 by omega]
        simpa using ih.1
      · rw [show 2 * (k + 1) + 1 = 2 * k + 1 + 1 + 1 by omega]
        simpa using ih.2
set_option maxRecDepth 20000 in
set_option maxHeartbeats 8000000 in
theorem sFits_any (p q : Int) (hp : I32 p) (hq : I32 q) (f : Nat → Int) (hf : MB f) (g off : Nat) (w : World) (hc : ∀ j v, (bl p q f)[j]? = some v → w.cell? ⟨g, off + j, none⟩ = some v) :
    Calls Try.prog 103 #[.pointer (some ⟨g, off, none⟩)] w fun e w' => e = .returned (.bool ((cellL f).all (cellIn p q))) ∧ Below w.heap.size w w' := by
  have hgw : g < w.heap.size := World.block_lt_of_cell? _ _ (hc 0 _ (bl_co p q f 0 _ rfl))
  have P0 : Hid (w.cell? ⟨g, off, none⟩ = some (.int .i32 p)) := Lib.hid (hc 0 _ (bl_co p q f 0 _ rfl))
  have P1 : Hid (w.cell? ⟨g, off + 1, none⟩ = some (.int .i32 q)) := Lib.hid (hc 1 _ (bl_co p q f 1 _ rfl))
  have MK : Hid (∀ j v, (M16 f)[j]? = some v → w.cell? ⟨g, off + 2 + j, none⟩ = some v) := Lib.hid fun j v e => by rw [Nat.add_assoc]; exact hc (2 + j) v (bl_mask p q f j v e)
  have CO := Lib.hid (fun w => scellsOf_any f hf w)
  have HG := Lib.hid hgw
  have LC := Lib.hid l07Cell_any
  have LL : Hid ((cellL f).length ≤ 256) := Lib.hid (cellK_len f 256)
  obtain ⟨hp1, hp2⟩ := hp
  obtain ⟨hq1, hq2⟩ := hq
  have ep : IntKind.i64.wrap p = p := by rw [IntKind.wrap_i64]; omega
  have eq : IntKind.i64.wrap q = q := by rw [IntKind.wrap_i64]; omega
  unfold CellsPost at CO
  clear hc hf hgw
  obtain ⟨l, hl⟩ : ∃ l, cellL f = l := ⟨_, rfl⟩
  rw [hl] at LL ⊢
  rw [hl] at CO
  clear hl
  go_enter Try.func103, Try.ntmps103
  go_wp2_with (refine wpList_load_part rfl 71 _ rfl g (off + 2) rfl (M16 f) _ MK.out Try.underlying71 rfl (mask_info _ (arr_size _ _ _)) ?_)
  refine (CO.out _).mono ?_
  rintro e w1 ⟨v, rfl, hrow, hb1⟩
  have Q0 : Hid (w1.cell? ⟨g, off, none⟩ = some (.int .i32 p)) := Lib.hid ((hb1.cell (p := ⟨g, off, none⟩) HG.out).trans P0.out)
  have Q1 : Hid (w1.cell? ⟨g, off + 1, none⟩ = some (.int .i32 q)) := Lib.hid ((hb1.cell (p := ⟨g, off + 1, none⟩) HG.out).trans P1.out)
  have B1 := Lib.hid hb1
  obtain ⟨a, cap, rfl, HROW⟩ : ∃ a cap, v = .slice a l.length cap ∧ Hid (∀ k (h : k < l.length), ∃ g2, a = some ⟨g2, 0, none⟩ ∧ w1.cell? ⟨g2, k * 2, none⟩ = some (.int .i32 ((l[k]'h).1.1 : Int)) ∧ w1.cell? ⟨g2, k * 2 + 1, none⟩ = some (.int .i32 ((l[k]'h).1.2 : Int))) := by
    have hr := hrow
    rcases hrow.2 with ⟨rfl, h0⟩ | ⟨g2, cap, cur, rfl, _⟩
    · exact ⟨none, 0, by rw [h0], Lib.hid fun k h => by omega⟩
    · refine ⟨some ⟨g2, 0, none⟩, cap, rfl, Lib.hid fun k h => ⟨g2, rfl, ?_, ?_⟩⟩
      · have := World.ownsRow.cells hr (g := g2) rfl (2 * k) _ (cellsV_at l k h).1
        rw [Go.WideShapes.add_plain, Nat.zero_add] at this
        rw [Nat.mul_comm]
        exact this
      · have := World.ownsRow.cells hr (g := g2) rfl (2 * k + 1) _ (cellsV_at l k h).2
        rw [Go.WideShapes.add_plain, Nat.zero_add] at this
        rw [Nat.mul_comm]
        exact this
  have hl256 := LL.out
  have hli : ((l.length : Nat) : Int) ≤ 256 := by omega
  clear hrow hb1 P0 P1 MK CO LL
  go_wp2
  go_loopw [4] (fun i wr => ∃ k m : Nat, k ≤ l.length ∧ i = .int .i64 (k : Int) ∧ wr = w1.drewN m ∧ ((l.take k).all (cellIn p q)) = true) (fun i _ => l.length - (intOf i).toNat)
  case atStart => exact ⟨0, 0, Nat.zero_le _, rfl, rfl, rfl⟩
  case round =>
    obtain ⟨k, m, hk, rfl, hw, hall⟩ := hrel
    have W := Lib.hid hw
    have HA := Lib.hid hall
    clear hall
    by_cases hlt : k < l.length
    · obtain ⟨g2, rfl, c0, c1⟩ := HROW.out k hlt
      have tk : (k : Int) < ((l.length : Nat) : Int) := by omega
      have hck : l[k]? = some (l[k]'hlt) := List.getElem?_eq_getElem hlt
      have TK : Hid (l.take (k + 1) = l.take k ++ [l[k]'hlt]) := Lib.hid (List.take_succ_eq_append_getElem hlt)
      have MEM : Hid ((l[k]'hlt) ∈ l) := Lib.hid (List.getElem_mem hlt)
      generalize l[k]'hlt = c at c0 c1 hck TK MEM
      obtain ⟨⟨x, y⟩, hx, hy⟩ := c
      have d0 : wr.cell? ⟨g2, k * 2, none⟩ = some (.int .i32 (x : Int)) := by rw [hw]; exact c0
      have d1 : wr.cell? ⟨g2, k * 2 + 1, none⟩ = some (.int .i32 (y : Int)) := by rw [hw]; exact c1
      have d2 : wr.cell? ⟨g, off, none⟩ = some (.int .i32 p) := by rw [hw]; exact Q0.out
      have d3 : wr.cell? ⟨g, off + 1, none⟩ = some (.int .i32 q) := by rw [hw]; exact Q1.out
      have x1 : (x : Int) < 16 := by have : x < 16 := hx; omega
      have y1 : (y : Int) < 16 := by have : y < 16 := hy; omega
      have x0 : (0 : Int) ≤ (x : Int) := by omega
      have y0 : (0 : Int) ≤ (y : Int) := by omega
      have ex : IntKind.i64.wrap (x : Int) = (x : Int) := by rw [IntKind.wrap_i64]; omega
      have ey : IntKind.i64.wrap (y : Int) = (y : Int) := by rw [IntKind.wrap_i64]; omega
      obtain ⟨r, hr⟩ : ∃ r, cellIn p q ⟨(x, y), hx, hy⟩ = r := ⟨_, rfl⟩
      have hoq : Hid (∀ m, Calls Try.prog 52 #[.int .i64 (16 * p + x), .int .i64 (16 * q + y)] (wr.drewN m) fun e w'' => e = .returned (.bool r) ∧ ∃ q, w'' = wr.drewN q) := Lib.hid fun m => (LC.out (16 * p + x) (16 * q + y) _).mono fun e w' ⟨h1, h2⟩ => ⟨by rw [h1, ← hr]; rfl, m, h2.symm⟩
      have HR := Lib.hid hr
      have HK := Lib.hid hlt
      clear hw c0 c1 hck hr hlt hk HROW
      cases r with
      | true =>
        go_wp2
        go_quiet ((go_at_call 52; exact hoq.out _))
        go_wp2
        go_roundw
        case rel => exact ⟨k + 1, _, HK.out, by go_num, by rw [W.out, World.drewN_drewN], by rw [TK.out, List.all_append, HA.out]; simp [HR.out]⟩
        case measure => have := HK.out; simp [intOf]; omega
      | false =>
        go_wp2
        go_quiet ((go_at_call 52; exact hoq.out _))
        go_wp2
        go_ret
        have hf : l.all (cellIn p q) = false := List.all_eq_false.2 ⟨_, MEM.out, by rw [HR.out]; simp⟩
        rw [hf]
        refine ⟨rfl, ?_⟩
        rw [W.out]
        repeat (first | exact B1.out | apply belowB)
    · obtain rfl : k = l.length := by omega
      have hf : l.all (cellIn p q) = true := by have := HA.out; rwa [List.take_length] at this
      have BW : Hid (Below w.heap.size w wr) := Lib.hid (by rw [hw]; exact belowB B1.out)
      have HFF := Lib.hid hf
      clear hw W hf
      go_wp2
      go_ret
      rw [HFF.out]
      exact ⟨rfl, BW.out⟩
end Go.Proofs.Ythfmkejdpflpcaa
