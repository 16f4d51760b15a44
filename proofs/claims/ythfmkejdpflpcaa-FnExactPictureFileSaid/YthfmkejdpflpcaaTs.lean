/-
  THE LAW's COPY of a slice of blocks.
-/
import Derived.Test.YthfmkejdpflpcaaTb
namespace Go.Proofs.Ythfmkejdpflpcaa
open Go.ChangeShapes Go.WideShapes Go.ChangeAt Go.RowKit
/-- the block number k of cells f -/
def blk (f : Nat → Int) (k : Nat) : Array Value := bl (f (k * 18)) (f (k * 18 + 1)) (fun y => f (k * 18 + 2 + y))
def zcell (j : Nat) : Value := if j % 18 < 2 then .int .i32 0 else .int .u16 0
theorem blk_get (f : Nat → Int) (k r : Nat) (hr : r < 18) : (blk f k)[r]? = some (bcell f (k * 18 + r)) := by
  unfold blk bl bcell
  have e : (k * 18 + r) % 18 = r := by omega
  rw [e]
  by_cases h : r < 2
  · rw [if_pos h, Array.getElem?_append_left (by simpa using h)]
    match r, h with
    | 0, _ => rfl
    | 1, _ => rfl
  · rw [if_neg h, Array.getElem?_append_right (by simp; omega)]
    show (arr .u16 16 _)[r - 2]? = _
    rw [arr_get _ _ _ _ (by omega), show k * 18 + 2 + (r - 2) = k * 18 + r by omega]
theorem blk_size (f : Nat → Int) (k : Nat) : (blk f k).size = 18 := bl_size _ _ _
/-- n blocks, k of them copied -/
def rowB (f : Nat → Int) (k n : Nat) : Array Value := ((List.range (18 * n)).map fun i => if i < 18 * k then bcell f i else zcell i).toArray
theorem rowB_size (f : Nat → Int) (k n : Nat) : (rowB f k n).size = 18 * n := by simp [rowB]
theorem rowB_get (f : Nat → Int) (k n i : Nat) (h : i < 18 * n) : (rowB f k n)[i]? = some (if i < 18 * k then bcell f i else zcell i) := by simp [rowB, h]
theorem rowB_set (f : Nat → Int) (k n : Nat) (h : k < n) : (splice (rowB f k n).toList (k * 18) (blk f k).toList).toArray = rowB f (k + 1) n := by
  apply Array.ext_getElem?
  intro i
  have hl : (rowB f k n).toList.length = 18 * n := by simp [rowB_size]
  have hb : (blk f k).toList.length = 18 := by simp [blk_size]
  rw [List.getElem?_toArray]
  unfold splice
  by_cases hi : i < 18 * n
  · rw [rowB_get f (k + 1) n i hi]
    by_cases h1 : i < k * 18
    · rw [List.getElem?_append_left (by simp [rowB_size]; omega), List.getElem?_take_of_lt h1, Array.getElem?_toList, rowB_get f k n i hi, if_pos (by omega), if_pos (by omega)]
    · rw [List.getElem?_append_right (by simp [rowB_size]; omega), List.length_take, hl, Nat.min_eq_left (by omega)]
      by_cases h2 : i < k * 18 + 18
      · rw [List.getElem?_append_left (by rw [hb]; omega), Array.getElem?_toList, blk_get f k _ (by omega), if_pos (by omega), show k * 18 + (i - k * 18) = i by omega]
      · rw [List.getElem?_append_right (by rw [hb]; omega), hb, List.getElem?_drop, Array.getElem?_toList, show k * 18 + 18 + (i - k * 18 - 18) = i by omega, rowB_get f k n i hi, if_neg (by omega), if_neg (by omega)]
  · have e1 : (rowB f (k + 1) n)[i]? = none := Array.getElem?_eq_none (by rw [rowB_size]; omega)
    rw [e1]
    apply List.getElem?_eq_none
    simp [rowB_size, blk_size]
    omega
theorem madeB18 (f : Nat → Int) (n : Nat) : madeCells #[Value.int .i32 0, Value.int .i32 0, Value.int .u16 0, Value.int .u16 0, Value.int .u16 0, Value.int .u16 0, Value.int .u16 0, Value.int .u16 0, Value.int .u16 0, Value.int .u16 0, Value.int .u16 0, Value.int .u16 0, Value.int .u16 0, Value.int .u16 0, Value.int .u16 0, Value.int .u16 0, Value.int .u16 0, Value.int .u16 0] (n * 18) = rowB f 0 n := by
  apply Array.ext_getElem?
  intro i
  by_cases hi : i < 18 * n
  · rw [rowB_get _ _ _ _ hi, if_neg (by omega)]
    have h2 : i < n * 18 := by omega
    have hz : ∀ r, r < 18 → (#[Value.int .i32 0, Value.int .i32 0, Value.int .u16 0, Value.int .u16 0, Value.int .u16 0, Value.int .u16 0, Value.int .u16 0, Value.int .u16 0, Value.int .u16 0, Value.int .u16 0, Value.int .u16 0, Value.int .u16 0, Value.int .u16 0, Value.int .u16 0, Value.int .u16 0, Value.int .u16 0, Value.int .u16 0, Value.int .u16 0] : Array Value)[r]! = (if r < 2 then .int .i32 0 else .int .u16 0) := by
      intro r hr
      have : r = 0 ∨ r = 1 ∨ r = 2 ∨ r = 3 ∨ r = 4 ∨ r = 5 ∨ r = 6 ∨ r = 7 ∨ r = 8 ∨ r = 9 ∨ r = 10 ∨ r = 11 ∨ r = 12 ∨ r = 13 ∨ r = 14 ∨ r = 15 ∨ r = 16 ∨ r = 17 := by omega
      rcases this with rfl | rfl | rfl | rfl | rfl | rfl | rfl | rfl | rfl | rfl | rfl | rfl | rfl | rfl | rfl | rfl | rfl | rfl <;> rfl
    have e := hz (i % 18) (Nat.mod_lt _ (by omega))
    unfold zcell
    rw [← e]
    simp [madeCells, h2]
  · rw [Array.getElem?_eq_none (by simp [madeCells]; omega), Array.getElem?_eq_none (by rw [rowB_size]; omega)]
theorem info_ib : (Try.prog.info? 73).map (fun i => (i.zero, i.size, i.bytes)) = some (some (.agg #[Value.int .i32 0, Value.int .i32 0, Value.int .u16 0, Value.int .u16 0, Value.int .u16 0, Value.int .u16 0, Value.int .u16 0, Value.int .u16 0, Value.int .u16 0, Value.int .u16 0, Value.int .u16 0, Value.int .u16 0, Value.int .u16 0, Value.int .u16 0, Value.int .u16 0, Value.int .u16 0, Value.int .u16 0, Value.int .u16 0]), 18, 40) := by kernel_rfl
theorem make_bl (f : Nat → Int) (n : Nat) (h : n ≤ 1048576) (w : World) : (Instr.makeSlice 24 (.int .i64 (n : Int)) (.int .i64 (n : Int))).run Try.prog w = .ok (.slice (some ⟨w.heap.size, 0, none⟩) n n) (w.alloc (.cells (rowB f 0 n) 73)) := by
  obtain ⟨i, hi, hz, hs, hb⟩ := info_parts info_ib
  have hr := run_make (P := Try.prog) w 24 73 i _ Try.underlying24 hi hz .i64 .i64 n n (by omega) (Int.le_refl _) (by rw [hb]; omega) (by omega)
  simp only [Int.toNat_natCast, hs] at hr
  rw [← madeB18 f]
  exact hr
theorem lb_info (A : Array Value) (h : A.size = 18) : (Try.prog.info? 79).map (·.size) = some A.size := by rw [h]; kernel_rfl
set_option maxHeartbeats 4000000 in
set_option maxRecDepth 20000 in
theorem toBS_any (a : Option Addr) (cap n : Nat) (f : Nat → Int) (B : Nat) (w : World) (hB : B ≤ w.heap.size) (h : BlR B w a n f) (hl : n ≤ 1048576) :
    Calls Try.prog 25 #[.slice a n cap] w fun e w' => e = .returned (.slice (some ⟨w.heap.size, 0, none⟩) n n) ∧ BlR (w.heap.size + 1) w' (some ⟨w.heap.size, 0, none⟩) n f ∧ Below w.heap.size w w' ∧ w.heap.size < w'.heap.size := by
  have hmk := fun w => make_bl f n hl w
  have hl' : (n : Int) ≤ 1048576 := by omega
  have H0 : Hid ((w.alloc (.cells (rowB f 0 n) 73)).heap[w.heap.size]? = some (.cells (rowB f 0 n) 73 (0, 0))) := Lib.hid (World.alloc_heap_new w _)
  have B0 : Hid (Below w.heap.size w (w.alloc (.cells (rowB f 0 n) 73))) := Lib.hid ((Below.refl _ w).alloc (Nat.le_refl _) _)
  have HP := Lib.hid h
  clear h
  go_enter Try.func25, Try.ntmps25
  go_wp2
  generalize w.alloc (.cells (rowB f 0 n) 73) = w1 at H0 B0 ⊢
  go_loopw [4] (fun i wr => ∃ k : Nat, k ≤ n ∧ i = .int .i64 k ∧ wr.heap[w.heap.size]? = some (.cells (rowB f k n) 73 (0, 0)) ∧ Below w.heap.size w wr) (fun i _ => n - (intOf i).toNat)
  case atStart => exact ⟨0, Nat.zero_le _, rfl, H0.out, B0.out⟩
  case round =>
    obtain ⟨k, hk, rfl, h0, hB'⟩ := hrel
    have L0 := Lib.hid h0
    have LB := Lib.hid hB'
    clear h0 hB' H0 B0
    by_cases hlt : k < n
    · obtain ⟨g, off, rfl, hg, hc⟩ : ∃ g off, a = some ⟨g, off, none⟩ ∧ g < B ∧ ∀ j, j < 18 * n → w.cell? ⟨g, off + j, none⟩ = some (bcell f j) := by
        rcases HP.out with h | h
        · omega
        · exact h
      have tk : (k : Int) < (n : Int) := by omega
      have GC : Hid (∀ j v, (blk f k)[j]? = some v → wr.cell? ⟨g, off + k * 18 + j, none⟩ = some v) := Lib.hid fun j v e => by
        have hj : j < 18 := by
          rcases Nat.lt_or_ge j 18 with h | h
          · exact h
          · rw [Array.getElem?_eq_none (by rw [blk_size]; exact h)] at e; cases e
        rw [LB.out.cell (p := ⟨g, off + k * 18 + j, none⟩) (by show g < _; omega), Nat.add_assoc, hc (k * 18 + j) (by omega), ← blk_get f k j hj]
        exact e
      have HK := Lib.hid hlt
      have SET := Lib.hid (rowB_set f k n hlt)
      have LZ : Hid (w.heap.size < wr.heap.size) := Lib.hid (Array.getElem?_eq_some_iff.1 L0.out).1
      have RB := Lib.hid (rowB_size f k n)
      have TB : Hid (∀ w, Calls Try.prog 63 #[.agg (blk f k)] w fun e w' => e = .returned (.agg (blk f k)) ∧ Below w.heap.size w w') := Lib.hid (toBl_any _ _ _)
      have B18 := Lib.hid (blk_size f k)
      have BON : Hid ((blk f k).all (·.oneCell') = true) := Lib.hid (bl_one _ _ _)
      clear hc hlt hk hg
      generalize blk f k = A at GC SET TB B18 BON
      go_wp2_with (refine wpList_load_part rfl 79 _ rfl g (off + k * 18) rfl A _ GC.out Try.underlying79 rfl (lb_info _ B18.out) ?_)
      refine (TB.out _).mono ?_
      rintro e w2 ⟨rfl, b2⟩
      have M0 := Lib.hid ((b2.block _ LZ.out).trans L0.out)
      have MB2 := Lib.hid (LB.out.trans (b2.mono (Nat.le_of_lt LZ.out)))
      have I0 : Hid ((w2.setRow w.heap.size (rowB f (k + 1) n)).heap[w.heap.size]? = some (.cells (rowB f (k + 1) n) 73 (0, 0))) := Lib.hid (setRow_heap _ _ _ _ _ _ M0.out)
      have IB' : Hid (Below w.heap.size w (w2.setRow w.heap.size (rowB f (k + 1) n))) := Lib.hid (below_setRow MB2.out (Nat.le_refl _) _)
      clear b2 GC L0 LB
      go_wp2_with (refine wpList_store_part rfl 73 _ _ rfl w.heap.size (k * 18) A rfl rfl 73 _ M0.out (ib_info _ B18.out) (by rw [RB.out, B18.out]; have := HK.out; omega) BON.out ?_; rw [SET.out])
      go_roundw
      case rel => exact ⟨k + 1, HK.out, by go_num, I0.out, IB'.out⟩
      case measure => have := HK.out; simp [intOf]; omega
    · obtain rfl : k = n := by omega
      have hD : BlR (w.heap.size + 1) wr (some ⟨w.heap.size, 0, none⟩) k f := .inr ⟨_, 0, rfl, Nat.lt_succ_self _, fun j hj => by
        rw [Nat.zero_add, Lib.cell_of_heap L0.out j, rowB_get _ _ _ _ hj, if_pos hj]⟩
      have LZ : Hid (w.heap.size < wr.heap.size) := Lib.hid (Array.getElem?_eq_some_iff.1 L0.out).1
      have HDD := Lib.hid hD
      clear hD
      go_wp2
      go_ret
      exact ⟨rfl, HDD.out, LB.out, LZ.out⟩
end Go.Proofs.Ythfmkejdpflpcaa
