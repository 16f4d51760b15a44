/-
  SEVERAL TEXTS IN ONE: XTb,XTs,XBa,XTe,XRi,XMi,XPts,XPr,XDp,XTq
-/
import Derived.Test.YthfmkejdpflpcaaGaa
import Derived.WalkSmall
import Derived.RegionTactic
import Derived.ChangeAlike
import Derived.BigRegion
import Derived.Laws.StructEq
import Derived.WalkKit
import Derived.ProofKit
import Derived.Orders
import Derived.Tactics
import Derived.Lib.Hide
import Derived.OpenShut
import Derived.WalkLawsBesides
import Derived.Outline
import Derived.OwnWalk
import Derived.LoopTactic
import Derived.Laws.Rows
import Derived.Laws.Tables
import Derived.Laws.CopyOwn
import Derived.Deep.RegionHeld3
import Derived.StillTailTactics
import Derived.Deep.QuietTactic
import Derived.BigQuiet
import Derived.ChangeShapes
import Derived.Below
import Derived.Deep.OwnRows
import Derived.Deep.Slices
import Derived.ChangeOld
import Derived.Carry
/-
  THE LAW's COPY of a block.
-/
namespace Go.Proofs.Ythfmkejdpflpcaa
open Go.ChangeShapes Go.WideShapes Go.ChangeAt Go.RowKit
theorem toCo_any (a b : Int) (w : World) :
    Calls Try.prog 106 #[.agg #[.int .i32 a, .int .i32 b]] w fun e w' => e = .returned (.agg #[.int .i32 a, .int .i32 b]) ∧ Below w.heap.size w w' := by
  go_enter Try.func106, Try.ntmps106
  go_wp2
  refine wp_loop_rounds 3 ?_
  iterate 3
    rw [rounds_succ]
    go_wp2
  refine bodyPost_ret (v := .agg #[.int .i32 a, .int .i32 b]) (by simp [results, Try.results106, go_sem]) rfl ⟨rfl, ?_⟩
  exact (((Below.refl _ _).alloc (Nat.le_refl _) _).alloc (by simp) _).alloc (by simp; omega) _
/-- a block: its corner, its mask -/
def bl (p q : Int) (h : Nat → Int) : Array Value := #[.int .i32 p, .int .i32 q] ++ M16 h
theorem bl_size (p q : Int) (h : Nat → Int) : (bl p q h).size = 18 := by simp [bl, M16, arr_size]
theorem bl_zero : bl 0 0 zI = #[Value.int .i32 0, Value.int .i32 0, Value.int .u16 0, Value.int .u16 0, Value.int .u16 0, Value.int .u16 0, Value.int .u16 0, Value.int .u16 0, Value.int .u16 0, Value.int .u16 0, Value.int .u16 0, Value.int .u16 0, Value.int .u16 0, Value.int .u16 0, Value.int .u16 0, Value.int .u16 0, Value.int .u16 0, Value.int .u16 0] := rfl
theorem bl_mask (p q : Int) (h : Nat → Int) (j : Nat) (v : Value) (e : (M16 h)[j]? = some v) : (bl p q h)[2 + j]? = some v := by
  unfold bl
  rw [Array.getElem?_append_right (by simp), ← e]
  congr 1
  simp
theorem bl_co (p q : Int) (h : Nat → Int) (j : Nat) (v : Value) (e : (#[Value.int .i32 p, .int .i32 q] : Array Value)[j]? = some v) : (bl p q h)[0 + j]? = some v := by
  unfold bl
  have hj : j < 2 := by
    rcases Nat.lt_or_ge j 2 with h | h
    · exact h
    · rw [Array.getElem?_eq_none (by simpa using h)] at e; cases e
  rw [Nat.zero_add, Array.getElem?_append_left (by simpa using hj), e]
theorem bl_set1 (p q : Int) (h : Nat → Int) (p' q' : Int) : (splice (bl p q h).toList 0 (#[Value.int .i32 p', .int .i32 q'] : Array Value).toList).toArray = bl p' q' h := by
  unfold splice bl
  simp
theorem bl_set2 (p q : Int) (h h' : Nat → Int) : (splice (bl p q h).toList 2 (M16 h').toList).toArray = bl p q h' := by
  unfold splice bl
  simp [arr_size, M16]
theorem co_one (p q : Int) : (#[Value.int .i32 p, .int .i32 q] : Array Value).all (·.oneCell') = true := Array.all_eq_true_iff_forall_mem.2 (fun v hv => by
  simp at hv
  rcases hv with rfl | rfl <;> rfl)
theorem bl_one (p q : Int) (h : Nat → Int) : (bl p q h).all (·.oneCell') = true := by
  unfold bl
  rw [Array.all_append, show (M16 h).all (·.oneCell') = true from arr_cells _ _ _, co_one]
  rfl
theorem ib_info (A : Array Value) (h : A.size = 18) : (Try.prog.info? 73).map (·.size) = some A.size := by rw [h]; kernel_rfl
theorem co_info (A : Array Value) (h : A.size = 2) : (Try.prog.info? 46).map (·.size) = some A.size := by rw [h]; kernel_rfl
theorem p2_info (A : Array Value) (h : A.size = 2) : (Try.prog.info? 45).map (·.size) = some A.size := by rw [h]; kernel_rfl
set_option maxRecDepth 20000 in
set_option maxHeartbeats 4000000 in
theorem toBl_any (p q : Int) (mk : Nat → Int) (w : World) :
    Calls Try.prog 63 #[.agg (bl p q mk)] w fun e w' => e = .returned (.agg (bl p q mk)) ∧ Below w.heap.size w w' := by
  obtain ⟨W0, hW0⟩ : ∃ W0, ((w.alloc (.cells (bl p q mk) 79)).alloc (.cells #[Value.int .i32 0, Value.int .i32 0, Value.int .u16 0, Value.int .u16 0, Value.int .u16 0, Value.int .u16 0, Value.int .u16 0, Value.int .u16 0, Value.int .u16 0, Value.int .u16 0, Value.int .u16 0, Value.int .u16 0, Value.int .u16 0, Value.int .u16 0, Value.int .u16 0, Value.int .u16 0, Value.int .u16 0, Value.int .u16 0] 73)).alloc (.cells #[Value.int .i32 0, Value.int .i32 0, Value.int .u16 0, Value.int .u16 0, Value.int .u16 0, Value.int .u16 0, Value.int .u16 0, Value.int .u16 0, Value.int .u16 0, Value.int .u16 0, Value.int .u16 0, Value.int .u16 0, Value.int .u16 0, Value.int .u16 0, Value.int .u16 0, Value.int .u16 0, Value.int .u16 0, Value.int .u16 0] 73) = W0 := ⟨_, rfl⟩
  have A0 : Hid (W0.heap[w.heap.size]? = some (.cells (bl p q mk) 79 (0, 0))) := Lib.hid (by rw [← hW0]; exact (Below.heap_alloc _ _ _ (by first | (simp; done) | (simp; omega))).trans ((Below.heap_alloc _ _ _ (by simp)).trans (World.alloc_heap_new w _)))
  have A1 : Hid (W0.heap[w.heap.size + 1]? = some (.cells #[Value.int .i32 0, Value.int .i32 0, Value.int .u16 0, Value.int .u16 0, Value.int .u16 0, Value.int .u16 0, Value.int .u16 0, Value.int .u16 0, Value.int .u16 0, Value.int .u16 0, Value.int .u16 0, Value.int .u16 0, Value.int .u16 0, Value.int .u16 0, Value.int .u16 0, Value.int .u16 0, Value.int .u16 0, Value.int .u16 0] 73 (0, 0))) := Lib.hid (by
    rw [← hW0]
    have := World.alloc_heap_new (w.alloc (.cells (bl p q mk) 79)) (.cells #[Value.int .i32 0, Value.int .i32 0, Value.int .u16 0, Value.int .u16 0, Value.int .u16 0, Value.int .u16 0, Value.int .u16 0, Value.int .u16 0, Value.int .u16 0, Value.int .u16 0, Value.int .u16 0, Value.int .u16 0, Value.int .u16 0, Value.int .u16 0, Value.int .u16 0, Value.int .u16 0, Value.int .u16 0, Value.int .u16 0] 73)
    rw [World.size_alloc] at this
    exact (Below.heap_alloc _ _ _ (by simp)).trans this)
  have A2 : Hid (W0.heap[w.heap.size + 1 + 1]? = some (.cells #[Value.int .i32 0, Value.int .i32 0, Value.int .u16 0, Value.int .u16 0, Value.int .u16 0, Value.int .u16 0, Value.int .u16 0, Value.int .u16 0, Value.int .u16 0, Value.int .u16 0, Value.int .u16 0, Value.int .u16 0, Value.int .u16 0, Value.int .u16 0, Value.int .u16 0, Value.int .u16 0, Value.int .u16 0, Value.int .u16 0] 73 (0, 0))) := Lib.hid (by
    rw [← hW0]
    have := World.alloc_heap_new ((w.alloc (.cells (bl p q mk) 79)).alloc (.cells #[Value.int .i32 0, Value.int .i32 0, Value.int .u16 0, Value.int .u16 0, Value.int .u16 0, Value.int .u16 0, Value.int .u16 0, Value.int .u16 0, Value.int .u16 0, Value.int .u16 0, Value.int .u16 0, Value.int .u16 0, Value.int .u16 0, Value.int .u16 0, Value.int .u16 0, Value.int .u16 0, Value.int .u16 0, Value.int .u16 0] 73)) (.cells #[Value.int .i32 0, Value.int .i32 0, Value.int .u16 0, Value.int .u16 0, Value.int .u16 0, Value.int .u16 0, Value.int .u16 0, Value.int .u16 0, Value.int .u16 0, Value.int .u16 0, Value.int .u16 0, Value.int .u16 0, Value.int .u16 0, Value.int .u16 0, Value.int .u16 0, Value.int .u16 0, Value.int .u16 0, Value.int .u16 0] 73)
    rw [World.size_alloc, World.size_alloc] at this
    exact this)
  have AB : Hid (Below w.heap.size w W0) := Lib.hid (by rw [← hW0]; exact (((Below.refl _ w).alloc (Nat.le_refl _) _).alloc (by simp) _).alloc (by first | (simp; done) | (simp; omega)) _)
  have AZ : Hid (W0.heap.size = w.heap.size + 1 + 1 + 1) := Lib.hid (by rw [← hW0]; simp)
  obtain ⟨B, hB⟩ : ∃ B, bl p q mk = B := ⟨_, rfl⟩
  have LC : Hid (∀ j v, (#[Value.int .i32 p, .int .i32 q] : Array Value)[j]? = some v → B[0 + j]? = some v) := Lib.hid (by rw [← hB]; exact bl_co p q mk)
  have LM : Hid (∀ j v, (M16 mk)[j]? = some v → B[2 + j]? = some v) := Lib.hid (by rw [← hB]; exact bl_mask p q mk)
  rw [hB] at A0 hW0 ⊢
  go_enter Try.func63, Try.ntmps63
  have ZE : Hid (#[Value.int .i32 0, Value.int .i32 0, Value.int .u16 0, Value.int .u16 0, Value.int .u16 0, Value.int .u16 0, Value.int .u16 0, Value.int .u16 0, Value.int .u16 0, Value.int .u16 0, Value.int .u16 0, Value.int .u16 0, Value.int .u16 0, Value.int .u16 0, Value.int .u16 0, Value.int .u16 0, Value.int .u16 0, Value.int .u16 0] = bl 0 0 zI) := Lib.hid rfl
  have SB : Hid (∀ a b k, (bl a b k).size = 18) := Lib.hid bl_size
  go_wp2_with (refine wpList_load_part rfl 45 _ rfl w.heap.size 0 rfl #[Value.int .i32 p, .int .i32 q] _ (fun j v e => by rw [Lib.cell_of_heap A0.out]; exact LC.out j v e) Try.underlying45 rfl (p2_info _ rfl) ?_)
  clear hW0
  refine (toCo_any p q W0).mono ?_
  rintro e w2 ⟨rfl, b2⟩
  have z0 := AZ.out
  have B0 := Lib.hid ((b2.block w.heap.size (by omega)).trans A0.out)
  have B1 := Lib.hid ((b2.block (w.heap.size + 1) (by omega)).trans A1.out)
  have B2 : Hid (w2.heap[w.heap.size + 1 + 1]? = some (.cells (bl 0 0 zI) 73 (0, 0))) := Lib.hid ((b2.block (w.heap.size + 1 + 1) (by omega)).trans A2.out)
  have BB := Lib.hid (AB.out.trans (b2.mono (by omega)))
  have BZ : Hid (w.heap.size + 1 + 1 + 1 ≤ w2.heap.size) := Lib.hid (by have := b2.size; omega)
  obtain ⟨W3, hW3⟩ : ∃ W3, w2.setRow (w.heap.size + 1 + 1) (bl p q zI) = W3 := ⟨_, rfl⟩
  have S1 : Hid ((splice (bl 0 0 zI).toList 0 (#[Value.int .i32 p, .int .i32 q] : Array Value).toList).toArray = bl p q zI) := Lib.hid (bl_set1 0 0 zI p q)
  have C0 : Hid (W3.heap[w.heap.size]? = some (.cells B 79 (0, 0))) := Lib.hid (by rw [← hW3, setRow_other _ _ _ _ (by omega)]; exact B0.out)
  have C1 : Hid (W3.heap[w.heap.size + 1]? = some (.cells #[Value.int .i32 0, Value.int .i32 0, Value.int .u16 0, Value.int .u16 0, Value.int .u16 0, Value.int .u16 0, Value.int .u16 0, Value.int .u16 0, Value.int .u16 0, Value.int .u16 0, Value.int .u16 0, Value.int .u16 0, Value.int .u16 0, Value.int .u16 0, Value.int .u16 0, Value.int .u16 0, Value.int .u16 0, Value.int .u16 0] 73 (0, 0))) := Lib.hid (by rw [← hW3, setRow_other _ _ _ _ (by omega)]; exact B1.out)
  have C2 : Hid (W3.heap[w.heap.size + 1 + 1]? = some (.cells (bl p q zI) 73 (0, 0))) := Lib.hid (by rw [← hW3]; exact setRow_heap _ _ _ _ _ _ B2.out)
  have CB : Hid (Below w.heap.size w W3) := Lib.hid (by rw [← hW3]; exact below_setRow BB.out (by omega) _)
  have CZ : Hid (w.heap.size + 1 + 1 + 1 ≤ W3.heap.size) := Lib.hid (by rw [← hW3]; simpa using BZ.out)
  clear b2 A0 A1 A2 AB AZ z0
  go_wp2_with (first | (refine wpList_store_part rfl 46 _ _ rfl (w.heap.size + 1 + 1) 0 #[Value.int .i32 p, .int .i32 q] rfl rfl 73 _ B2.out (co_info _ rfl) (by rw [SB.out]; simp) (co_one p q) ?_; rw [S1.out, hW3]) | (refine wpList_load_part rfl 70 _ rfl w.heap.size 2 rfl (M16 mk) _ (fun j v e => by rw [Lib.cell_of_heap C0.out]; exact LM.out j v e) Try.underlying70 rfl (a16_info _ (arr_size _ _ _)) ?_))
  clear hW3 S1
  refine (toMask_any mk W3).mono ?_
  rintro e w4 ⟨rfl, b4⟩
  have D1 := Lib.hid ((b4.block (w.heap.size + 1) (by have := CZ.out; omega)).trans C1.out)
  have D2 := Lib.hid ((b4.block (w.heap.size + 1 + 1) (by have := CZ.out; omega)).trans C2.out)
  have DB := Lib.hid (CB.out.trans (b4.mono (by have := CZ.out; omega)))
  obtain ⟨W5, hW5⟩ : ∃ W5, w4.setRow (w.heap.size + 1 + 1) B = W5 := ⟨_, rfl⟩
  have S2 : Hid ((splice (bl p q zI).toList 2 (M16 mk).toList).toArray = B) := Lib.hid (by rw [bl_set2, hB])
  have E1 : Hid (W5.heap[w.heap.size + 1]? = some (.cells #[Value.int .i32 0, Value.int .i32 0, Value.int .u16 0, Value.int .u16 0, Value.int .u16 0, Value.int .u16 0, Value.int .u16 0, Value.int .u16 0, Value.int .u16 0, Value.int .u16 0, Value.int .u16 0, Value.int .u16 0, Value.int .u16 0, Value.int .u16 0, Value.int .u16 0, Value.int .u16 0, Value.int .u16 0, Value.int .u16 0] 73 (0, 0))) := Lib.hid (by rw [← hW5, setRow_other _ _ _ _ (by omega)]; exact D1.out)
  have E2 : Hid (W5.heap[w.heap.size + 1 + 1]? = some (.cells B 73 (0, 0))) := Lib.hid (by rw [← hW5]; exact setRow_heap _ _ _ _ _ _ D2.out)
  have EB : Hid (Below w.heap.size w W5) := Lib.hid (by rw [← hW5]; exact below_setRow DB.out (by omega) _)
  have B18 : Hid (B.size = 18) := Lib.hid (by rw [← hB]; exact bl_size _ _ _)
  have B1C : Hid (B.all (·.oneCell') = true) := Lib.hid (by rw [← hB]; exact bl_one _ _ _)
  clear b4 C0 C1 C2 CB CZ
  go_wp2_with (first | (refine wpList_store_part rfl 71 _ _ rfl (w.heap.size + 1 + 1) 2 (M16 mk) rfl rfl 73 _ D2.out (mask_info _ (arr_size _ _ _)) (by rw [SB.out, show (M16 mk).size = 16 from arr_size _ _ _]; decide) (arr_cells _ _ _) ?_; rw [S2.out, hW5]) | (refine wpList_load_row rfl 73 _ rfl (w.heap.size + 1 + 1) rfl 73 _ _ _ E2.out Try.underlying73 rfl (ib_info _ B18.out) ?_) | (refine wpList_store_row rfl 73 _ _ rfl (w.heap.size + 1) B rfl rfl 73 _ E1.out (ib_info _ B18.out) (by rw [B18.out]; rfl) B1C.out ?_))
  refine bodyPost_ret (v := .agg B) ?_ rfl ⟨rfl, ?_⟩
  · exact results_cell_row Try.results63 _ _ (w.heap.size + 1) 73 B (0, 0) _ rfl (setRow_heap _ _ _ _ _ _ E1.out) Try.underlying73 rfl (ib_info _ B18.out)
  · exact below_setRow EB.out (by omega) _
end Go.Proofs.Ythfmkejdpflpcaa
/-
  THE LAW's COPY of a slice of blocks.
-/
namespace Go.Proofs.Ythfmkejdpflpcaa
open Go.ChangeShapes Go.WideShapes Go.ChangeAt Go.RowKit
/-- the block number k of cells f -/
def blk (f : Nat → Int) (k : Nat) : Array Value := bl (f (k * 18)) (f (k * 18 + 1)) (fun y => f (k * 18 + 2 + y))
def zcell (j : Nat) : Value := if j % 18 < 2 then .int .i32 0 else .int .u16 0
theorem blk_get (f : Nat → Int) (k r : Nat) (hr : r < 18) : (blk f k)[r]? = some (bcell f (k * 18 + r)) := by
  unfold blk bl bcell
  have e : (k * 18 + r) % 18 = r := by omega
  rw [e]
  by_cases h : r < 2
  · rw [if_pos h, Array.getElem?_append_left (by simpa using h)]
    match r, h with
    | 0, _ => rfl
    | 1, _ => rfl
  · rw [if_neg h, Array.getElem?_append_right (by simp; omega)]
    show (arr .u16 16 _)[r - 2]? = _
    rw [arr_get _ _ _ _ (by omega), show k * 18 + 2 + (r - 2) = k * 18 + r by omega]
theorem blk_size (f : Nat → Int) (k : Nat) : (blk f k).size = 18 := bl_size _ _ _
/-- n blocks, k of them copied -/
def rowB (f : Nat → Int) (k n : Nat) : Array Value := ((List.range (18 * n)).map fun i => if i < 18 * k then bcell f i else zcell i).toArray
theorem rowB_size (f : Nat → Int) (k n : Nat) : (rowB f k n).size = 18 * n := by simp [rowB]
theorem rowB_get (f : Nat → Int) (k n i : Nat) (h : i < 18 * n) : (rowB f k n)[i]? = some (if i < 18 * k then bcell f i else zcell i) := by simp [rowB, h]
theorem rowB_set (f : Nat → Int) (k n : Nat) (h : k < n) : (splice (rowB f k n).toList (k * 18) (blk f k).toList).toArray = rowB f (k + 1) n := by
  apply Array.ext_getElem?
  intro i
  have hl : (rowB f k n).toList.length = 18 * n := by simp [rowB_size]
  have hb : (blk f k).toList.length = 18 := by simp [blk_size]
  rw [List.getElem?_toArray]
  unfold splice
  by_cases hi : i < 18 * n
  · rw [rowB_get f (k + 1) n i hi]
    by_cases h1 : i < k * 18
    · rw [List.getElem?_append_left (by simp [rowB_size]; omega), List.getElem?_take_of_lt h1, Array.getElem?_toList, rowB_get f k n i hi, if_pos (by omega), if_pos (by omega)]
    · rw [List.getElem?_append_right (by simp [rowB_size]; omega), List.length_take, hl, Nat.min_eq_left (by omega)]
      by_cases h2 : i < k * 18 + 18
      · rw [List.getElem?_append_left (by rw [hb]; omega), Array.getElem?_toList, blk_get f k _ (by omega), if_pos (by omega), show k * 18 + (i - k * 18) = i by omega]
      · rw [List.getElem?_append_right (by rw [hb]; omega), hb, List.getElem?_drop, Array.getElem?_toList, show k * 18 + 18 + (i - k * 18 - 18) = i by omega, rowB_get f k n i hi, if_neg (by omega), if_neg (by omega)]
  · have e1 : (rowB f (k + 1) n)[i]? = none := Array.getElem?_eq_none (by rw [rowB_size]; omega)
    rw [e1]
    apply List.getElem?_eq_none
    simp [rowB_size, blk_size]
    omega
theorem madeB18 (f : Nat → Int) (n : Nat) : madeCells #[Value.int .i32 0, Value.int .i32 0, Value.int .u16 0, Value.int .u16 0, Value.int .u16 0, Value.int .u16 0, Value.int .u16 0, Value.int .u16 0, Value.int .u16 0, Value.int .u16 0, Value.int .u16 0, Value.int .u16 0, Value.int .u16 0, Value.int .u16 0, Value.int .u16 0, Value.int .u16 0, Value.int .u16 0, Value.int .u16 0] (n * 18) = rowB f 0 n := by
  apply Array.ext_getElem?
  intro i
  by_cases hi : i < 18 * n
  · rw [rowB_get _ _ _ _ hi, if_neg (by omega)]
    have h2 : i < n * 18 := by omega
    have hz : ∀ r, r < 18 → (#[Value.int .i32 0, Value.int .i32 0, Value.int .u16 0, Value.int .u16 0, Value.int .u16 0, Value.int .u16 0, Value.int .u16 0, Value.int .u16 0, Value.int .u16 0, Value.int .u16 0, Value.int .u16 0, Value.int .u16 0, Value.int .u16 0, Value.int .u16 0, Value.int .u16 0, Value.int .u16 0, Value.int .u16 0, Value.int .u16 0] : Array Value)[r]! = (if r < 2 then .int .i32 0 else .int .u16 0) := by
      intro r hr
      have : r = 0 ∨ r = 1 ∨ r = 2 ∨ r = 3 ∨ r = 4 ∨ r = 5 ∨ r = 6 ∨ r = 7 ∨ r = 8 ∨ r = 9 ∨ r = 10 ∨ r = 11 ∨ r = 12 ∨ r = 13 ∨ r = 14 ∨ r = 15 ∨ r = 16 ∨ r = 17 := by omega
      rcases this with rfl | rfl | rfl | rfl | rfl | rfl | rfl | rfl | rfl | rfl | rfl | rfl | rfl | rfl | rfl | rfl | rfl | rfl <;> rfl
    have e := hz (i % 18) (Nat.mod_lt _ (by omega))
    unfold zcell
    rw [← e]
    simp [madeCells, h2]
  · rw [Array.getElem?_eq_none (by simp [madeCells]; omega), Array.getElem?_eq_none (by rw [rowB_size]; omega)]
theorem info_ib : (Try.prog.info? 73).map (fun i => (i.zero, i.size, i.bytes)) = some (some (.agg #[Value.int .i32 0, Value.int .i32 0, Value.int .u16 0, Value.int .u16 0, Value.int .u16 0, Value.int .u16 0, Value.int .u16 0, Value.int .u16 0, Value.int .u16 0, Value.int .u16 0, Value.int .u16 0, Value.int .u16 0, Value.int .u16 0, Value.int .u16 0, Value.int .u16 0, Value.int .u16 0, Value.int .u16 0, Value.int .u16 0]), 18, 40) := by kernel_rfl
theorem make_bl (f : Nat → Int) (n : Nat) (h : n ≤ 1048576) (w : World) : (Instr.makeSlice 24 (.int .i64 (n : Int)) (.int .i64 (n : Int))).run Try.prog w = .ok (.slice (some ⟨w.heap.size, 0, none⟩) n n) (w.alloc (.cells (rowB f 0 n) 73)) := by
  obtain ⟨i, hi, hz, hs, hb⟩ := info_parts info_ib
  have hr := run_make (P := Try.prog) w 24 73 i _ Try.underlying24 hi hz .i64 .i64 n n (by omega) (Int.le_refl _) (by rw [hb]; omega) (by omega)
  simp only [Int.toNat_natCast, hs] at hr
  rw [← madeB18 f]
  exact hr
theorem lb_info (A : Array Value) (h : A.size = 18) : (Try.prog.info? 79).map (·.size) = some A.size := by rw [h]; kernel_rfl
set_option maxHeartbeats 4000000 in
set_option maxRecDepth 20000 in
theorem toBS_any (a : Option Addr) (cap n : Nat) (f : Nat → Int) (B : Nat) (w : World) (hB : B ≤ w.heap.size) (h : BlR B w a n f) (hl : n ≤ 1048576) :
    Calls Try.prog 25 #[.slice a n cap] w fun e w' => e = .returned (.slice (some ⟨w.heap.size, 0, none⟩) n n) ∧ BlR (w.heap.size + 1) w' (some ⟨w.heap.size, 0, none⟩) n f ∧ Below w.heap.size w w' ∧ w.heap.size < w'.heap.size := by
  have hmk := fun w => make_bl f n hl w
  have hl' : (n : Int) ≤ 1048576 := by omega
  have H0 : Hid ((w.alloc (.cells (rowB f 0 n) 73)).heap[w.heap.size]? = some (.cells (rowB f 0 n) 73 (0, 0))) := Lib.hid (World.alloc_heap_new w _)
  have B0 : Hid (Below w.heap.size w (w.alloc (.cells (rowB f 0 n) 73))) := Lib.hid ((Below.refl _ w).alloc (Nat.le_refl _) _)
  have HP := Lib.hid h
  clear h
  go_enter Try.func25, Try.ntmps25
  go_wp2
  generalize w.alloc (.cells (rowB f 0 n) 73) = w1 at H0 B0 ⊢
  go_loopw [4] (fun i wr => ∃ k : Nat, k ≤ n ∧ i = .int .i64 k ∧ wr.heap[w.heap.size]? = some (.cells (rowB f k n) 73 (0, 0)) ∧ Below w.heap.size w wr) (fun i _ => n - (intOf i).toNat)
  case atStart => exact ⟨0, Nat.zero_le _, rfl, H0.out, B0.out⟩
  case round =>
    obtain ⟨k, hk, rfl, h0, hB'⟩ := hrel
    have L0 := Lib.hid h0
    have LB := Lib.hid hB'
    clear h0 hB' H0 B0
    by_cases hlt : k < n
    · obtain ⟨g, off, rfl, hg, hc⟩ : ∃ g off, a = some ⟨g, off, none⟩ ∧ g < B ∧ ∀ j, j < 18 * n → w.cell? ⟨g, off + j, none⟩ = some (bcell f j) := by
        rcases HP.out with h | h
        · omega
        · exact h
      have tk : (k : Int) < (n : Int) := by omega
      have GC : Hid (∀ j v, (blk f k)[j]? = some v → wr.cell? ⟨g, off + k * 18 + j, none⟩ = some v) := Lib.hid fun j v e => by
        have hj : j < 18 := by
          rcases Nat.lt_or_ge j 18 with h | h
          · exact h
          · rw [Array.getElem?_eq_none (by rw [blk_size]; exact h)] at e; cases e
        rw [LB.out.cell (p := ⟨g, off + k * 18 + j, none⟩) (by show g < _; omega), Nat.add_assoc, hc (k * 18 + j) (by omega), ← blk_get f k j hj]
        exact e
      have HK := Lib.hid hlt
      have SET := Lib.hid (rowB_set f k n hlt)
      have LZ : Hid (w.heap.size < wr.heap.size) := Lib.hid (Array.getElem?_eq_some_iff.1 L0.out).1
      have RB := Lib.hid (rowB_size f k n)
      have TB : Hid (∀ w, Calls Try.prog 63 #[.agg (blk f k)] w fun e w' => e = .returned (.agg (blk f k)) ∧ Below w.heap.size w w') := Lib.hid (toBl_any _ _ _)
      have B18 := Lib.hid (blk_size f k)
      have BON : Hid ((blk f k).all (·.oneCell') = true) := Lib.hid (bl_one _ _ _)
      clear hc hlt hk hg
      generalize blk f k = A at GC SET TB B18 BON
      go_wp2_with (refine wpList_load_part rfl 79 _ rfl g (off + k * 18) rfl A _ GC.out Try.underlying79 rfl (lb_info _ B18.out) ?_)
      refine (TB.out _).mono ?_
      rintro e w2 ⟨rfl, b2⟩
      have M0 := Lib.hid ((b2.block _ LZ.out).trans L0.out)
      have MB2 := Lib.hid (LB.out.trans (b2.mono (Nat.le_of_lt LZ.out)))
      have I0 : Hid ((w2.setRow w.heap.size (rowB f (k + 1) n)).heap[w.heap.size]? = some (.cells (rowB f (k + 1) n) 73 (0, 0))) := Lib.hid (setRow_heap _ _ _ _ _ _ M0.out)
      have IB' : Hid (Below w.heap.size w (w2.setRow w.heap.size (rowB f (k + 1) n))) := Lib.hid (below_setRow MB2.out (Nat.le_refl _) _)
      clear b2 GC L0 LB
      go_wp2_with (refine wpList_store_part rfl 73 _ _ rfl w.heap.size (k * 18) A rfl rfl 73 _ M0.out (ib_info _ B18.out) (by rw [RB.out, B18.out]; have := HK.out; omega) BON.out ?_; rw [SET.out])
      go_roundw
      case rel => exact ⟨k + 1, HK.out, by go_num, I0.out, IB'.out⟩
      case measure => have := HK.out; simp [intOf]; omega
    · obtain rfl : k = n := by omega
      have hD : BlR (w.heap.size + 1) wr (some ⟨w.heap.size, 0, none⟩) k f := .inr ⟨_, 0, rfl, Nat.lt_succ_self _, fun j hj => by
        rw [Nat.zero_add, Lib.cell_of_heap L0.out j, rowB_get _ _ _ _ hj, if_pos hj]⟩
      have LZ : Hid (w.heap.size < wr.heap.size) := Lib.hid (Array.getElem?_eq_some_iff.1 L0.out).1
      have HDD := Lib.hid hD
      clear hD
      go_wp2
      go_ret
      exact ⟨rfl, HDD.out, LB.out, LZ.out⟩
end Go.Proofs.Ythfmkejdpflpcaa
/-
  CONTRACTS: the block of a cell, on both sides.
-/
namespace Go.Proofs.Ythfmkejdpflpcaa
open Go.ChangeShapes Go.WideShapes Go.ChangeAt Go.RowKit
theorem l00In_at (n l h : Int) (w : World) :
    Calls Try.prog 92 #[.int .i64 n, .int .i64 l, .int .i64 h] w fun e w' => e = .returned (.bool (decide (l ≤ n) && decide (n ≤ h))) ∧ w = w' := by
  cases t1 : decide (l ≤ n) <;> cases t2 : decide (n ≤ h)
  all_goals
    go_enter Try.func92, Try.ntmps92
    go_wp2
    go_ret
    exact ⟨rfl, rfl⟩
/-- is it a column? -/
def colB (n : Int) : Bool := decide (-1000000 ≤ n) && decide (n ≤ 1000000)
theorem colB_yes {n : Int} (h : colB n = true) : -1000000 ≤ n ∧ n ≤ 1000000 := by simpa [colB] using h
theorem colB_mk {n : Int} (h : -1000000 ≤ n ∧ n ≤ 1000000) : colB n = true := by simpa [colB] using h
theorem isCol_any (n : Int) (w : World) : Calls Try.prog 95 #[.int .i64 n] w fun e w' => e = .returned (.bool (colB n)) ∧ w = w' := by
  cases t1 : decide (-1000000 ≤ n) <;> cases t2 : decide (n ≤ 1000000)
  all_goals
    have T : Hid (colB n = (decide (-1000000 ≤ n) && decide (n ≤ 1000000))) := Lib.hid rfl
    go_enter Try.func95, Try.ntmps95
    go_wp2
    go_ret
    exact ⟨mret_bool (by rw [T.out, t1, t2]; rfl), rfl⟩
theorem isPCell_any (x y : Int) (w : World) : Calls Try.prog 56 #[.int .i64 x, .int .i64 y] w fun e w' => e = .returned (.bool (colB x && colB y)) ∧ w = w' := by
  have A := Lib.hid (isCol_any x)
  have B := Lib.hid (isCol_any y)
  generalize colB x = a at A ⊢
  generalize colB y = b at B ⊢
  cases a
  all_goals
    go_enter Try.func56, Try.ntmps56
    go_wp2_with (first | ((with_reducible refine (A.out _).mono ?_); rintro e w' ⟨rfl, rfl⟩) | ((with_reducible refine (B.out _).mono ?_); rintro e w' ⟨rfl, rfl⟩))
    go_ret
    exact ⟨rfl, rfl⟩
theorem l07Cell_any (x y : Int) (w : World) : Calls Try.prog 52 #[.int .i64 x, .int .i64 y] w fun e w' => e = .returned (.bool (colB x && colB y)) ∧ w = w' := by
  have A : Hid (∀ w, Calls Try.prog 92 #[.int .i64 x, .int .i64 (-1000000), .int .i64 1000000] w fun e w' => e = .returned (.bool (colB x)) ∧ w = w') := Lib.hid (l00In_at x (-1000000) 1000000)
  have B : Hid (∀ w, Calls Try.prog 92 #[.int .i64 y, .int .i64 (-1000000), .int .i64 1000000] w fun e w' => e = .returned (.bool (colB y)) ∧ w = w') := Lib.hid (l00In_at y (-1000000) 1000000)
  generalize colB x = a at A ⊢
  generalize colB y = b at B ⊢
  cases a
  all_goals
    go_enter Try.func52, Try.ntmps52
    go_wp2_with (first | ((with_reducible refine (A.out _).mono ?_); rintro e w' ⟨rfl, rfl⟩) | ((with_reducible refine (B.out _).mono ?_); rintro e w' ⟨rfl, rfl⟩))
    go_ret
    exact ⟨rfl, rfl⟩
theorem l07Low_any (n : Int) (h : colB n = true) (w : World) : Calls Try.prog 93 #[.int .i64 n] w fun e w' => e = .returned (.int .i64 (n / 16)) ∧ w = w' := by
  obtain ⟨h0, h1⟩ := colB_yes h
  go_enter Try.func93, Try.ntmps93
  go_wp2
  go_ret
  exact ⟨mret_int (by omega), rfl⟩
theorem i32_in {a : Int} (h : -2147483648 ≤ a ∧ a ≤ 2147483647) : IntKind.i32.wrap a = a := by simp [IntKind.wrap, IntKind.bits, IntKind.signed]; omega
/-- the corner of the block of a cell -/
abbrev CO : TypeId := 46
abbrev atA (x y : Int) : Array Value := #[Value.int .i32 (x / 16), .int .i32 (y / 16)]
theorem l07Corner_any (x y : Int) (hx : colB x = true) (hy : colB y = true) (w : World) :
    Calls Try.prog 94 #[.int .i64 x, .int .i64 y] w fun e w' => e = .returned (.agg (atA x y)) ∧ Below w.heap.size w w' := by
  obtain ⟨x0, x1⟩ := colB_yes hx
  obtain ⟨y0, y1⟩ := colB_yes hy
  have A := Lib.hid (l07Low_any x hx)
  have B := Lib.hid (l07Low_any y hy)
  have ex := i32_in (a := x / 16) (by omega)
  have ey := i32_in (a := y / 16) (by omega)
  unfold atA
  generalize x / 16 = a at A ex ⊢
  generalize y / 16 = b at B ey ⊢
  go_enter Try.func94, Try.ntmps94
  go_wp2_with (first | ((with_reducible refine (A.out _).mono ?_); rintro e w' ⟨rfl, rfl⟩) | ((with_reducible refine (B.out _).mono ?_); rintro e w' ⟨rfl, rfl⟩))
  refine bodyPost_ret (v := .agg #[.int .i32 a, .int .i32 b]) (by simp [results, Try.results94, go_sem]) rfl ⟨rfl, ?_⟩
  exact (Below.refl _ _).alloc (Nat.le_refl _) _
theorem and15_i32 (a : Int) (h : -2147483648 ≤ a ∧ a ≤ 2147483647) : bits .and .i32 a 15 = a % 16 := by
  have h1 : (BitVec.ofInt 32 a).toNat = (a % 4294967296).toNat := by
    rw [BitVec.toNat_ofInt]; rfl
  have h2 : (BitVec.ofInt 32 15).toNat = 15 := rfl
  show IntKind.i32.wrap ((BitVec.ofInt 32 a &&& BitVec.ofInt 32 15).toNat : Int) = _
  rw [BitVec.toNat_and, h1, h2, show (15 : Nat) = 2 ^ 4 - 1 from rfl, Nat.and_two_pow_sub_one_eq_mod]
  have h3 : (((a % 4294967296).toNat % 2 ^ 4 : Nat) : Int) = a % 16 := by omega
  rw [h3]
  exact i32_in (by omega)
set_option maxRecDepth 20000 in
set_option maxHeartbeats 2000000 in
theorem inBlock_any (a b : Int) (ha : -2147483648 ≤ a ∧ a ≤ 2147483647) (hb : -2147483648 ≤ b ∧ b ≤ 2147483647) (w : World) :
    Calls Try.prog 113 #[.agg #[.int .i32 a, .int .i32 b]] w fun e w' => e = .returned (.tuple #[.agg (atA a b), .int .i64 (a % 16), .int .i64 (b % 16)]) ∧ Below w.heap.size w w' := by
  have ea := and15_i32 a ha
  have eb := and15_i32 b hb
  unfold atA
  go_enter Try.func113, Try.ntmps113
  go_wp2
  go_region
  go_wp2
  refine bodyPost_ret (v := .tuple #[.agg #[.int .i32 (a / 16), .int .i32 (b / 16)], .int .i64 (a % 16), .int .i64 (b % 16)]) (by simp [results, Try.results113, go_sem]) rfl ⟨rfl, ?_⟩
  exact ((((Below.refl _ _).alloc (Nat.le_refl _) _).alloc (by simp) _).alloc (by simp; omega) _).drew
/-- what BlockAt answers -/
def BaPost (x y : Int) (w : World) (e : Ending) (w' : World) : Prop :=
  e = .returned (.tuple #[.agg (if colB x && colB y then atA x y else #[.int .i32 0, .int .i32 0]), .int .i64 (if colB x && colB y then x % 16 else 0), .int .i64 (if colB x && colB y then y % 16 else 0), .int .i64 (if colB x && colB y then 0 else 2)]) ∧ Below w.heap.size w w'
theorem belowB {B n : Nat} {a w : World} (h : Below B a w) : Below B a (w.drewN n) := ⟨h.os, h.tape, h.output, h.size, h.block⟩
theorem eqCo_same (a b : Int) (w : World) :
    Calls Try.prog 40 #[.agg #[.int .i32 a, .int .i32 b], .agg #[.int .i32 a, .int .i32 b]] w fun e w' => e = .returned (.bool true) ∧ Below w.heap.size w w' := by
  go_enter Try.func40, Try.ntmps40
  go_wp2
  refine wp_loop_rounds 3 ?_
  rw [rounds_succ]
  go_wp2
  go_quiet (fail)
  go_wp2
  rw [rounds_succ]
  go_wp2
  go_quiet (fail)
  go_wp2
  rw [rounds_succ]
  go_wp2
  go_ret
  exact ⟨rfl, by repeat (first | exact Below.refl _ _ | apply belowB | refine Below.alloc ?_ (by first | exact Nat.le_refl _ | (simp; done) | (simp; omega)) _)⟩
end Go.Proofs.Ythfmkejdpflpcaa
/-
  BLOCKS COMPARED: with '!=' as structs, and by the law's eqBlock.
-/
namespace Go.Proofs.Ythfmkejdpflpcaa
open Go.ChangeShapes Go.WideShapes Go.ChangeAt Go.RowKit
theorem eqArrD {P : Program} {t e : TypeId} {n : Nat} {q : IntKind} (d : Nat) (f g : Nat → Int) (ht : P.underlying t = some (.array n e)) (he : P.underlying e = some (.int q)) (hs : (P.info? e).map (·.size) = some 1) (w : World) :
    (Op.equalIn (d + 2) t (.agg (arr q n f)) (.agg (arr q n g))).run P w = .ok ((List.range n).all fun i => f i == g i) w := by
  have hz : ∀ w, (sizeOf e).run P w = .ok 1 w := fun w => by
    unfold sizeOf typeInfo
    cases hq : P.info? e with
    | none => simp [hq] at hs
    | some x => simp [hq] at hs ⊢; exact hs
  have hag : ∀ w, (isAgg e).run P w = .ok false w := fun w => by
    unfold isAgg
    rw [Sem.run_bind, run_underlying he w]; rfl
  rw [show d + 2 = (d + 1) + 1 from rfl, Op.equalIn]
  simp only [Sem.run_bind, run_underlying ht, Result.andThen_ok]
  simp only [Std.Legacy.Range.forIn_eq_forIn_range', Std.Legacy.Range.size, Nat.sub_zero, Nat.add_sub_cancel, Nat.div_one]
  rw [hz, Result.andThen_ok]
  rw [forIn_allI _ (none, ()) (some false, ()) (fun i => f i == g i)]
  · rw [← List.range_eq_range']
    cases (List.range n).all fun i => f i == g i <;> rfl
  · intro i hi
    have hn : i < n := by
      have := List.mem_range'.1 hi
      omega
    have c1 := arr_get q n f i hn
    have c2 := arr_get q n g i hn
    clear hi
    go_simp
    by_cases h : f i = g i
    · simp [h]
    · rw [if_neg h]; simp [h]
def co (p q : Int) : Nat → Int := fun i => if i = 0 then p else q
theorem arr_co (p q : Int) : arr .i32 2 (co p q) = #[.int .i32 p, .int .i32 q] := rfl
theorem run_part_agg {P : Program} {t : TypeId} {n : Nat} (xs : Array Value) (off : Nat) (ha : ∀ w, (isAgg t).run P w = .ok true w) (hz : ∀ w, (sizeOf t).run P w = .ok n w) (w : World) :
    (part t xs off).run P w = .ok (.agg (xs.extract off (off + n))) w := by
  unfold part
  simp [Sem.run_bind, ha, hz]
theorem ag_co (w : World) : (isAgg 46).run Try.prog w = .ok true w := by
  unfold isAgg
  rw [Sem.run_bind, run_underlying Try.underlying46 w]; rfl
theorem ag_mk (w : World) : (isAgg 71).run Try.prog w = .ok true w := by
  unfold isAgg
  rw [Sem.run_bind, run_underlying Try.underlying71 w]; rfl
theorem sz_of {P : Program} {t : TypeId} {n : Nat} (hs : (P.info? t).map (·.size) = some n) (w : World) : (sizeOf t).run P w = .ok n w := by
  unfold sizeOf typeInfo
  cases hq : P.info? t with
  | none => simp [hq] at hs
  | some x => simp [hq] at hs ⊢; exact hs
theorem bl_ext0 (p q : Int) (h : Nat → Int) : (bl p q h).extract 0 (0 + 2) = arr .i32 2 (co p q) := by
  rw [arr_co]; unfold bl
  apply Array.ext'
  simp [Array.toList_extract, List.extract]
theorem bl_ext2 (p q : Int) (h : Nat → Int) : (bl p q h).extract 2 (2 + 16) = arr .u16 16 h := by
  unfold bl
  have hs : (M16 h).toList.length = 16 := by simp [M16, arr_size]
  apply Array.ext'
  rw [Array.toList_extract, Array.toList_append]
  simp [List.extract, hs]
  exact List.take_of_length_le (by rw [hs]; exact Nat.le_refl _)
/-- the blocks are alike -/
def sameB (p q : Int) (h : Nat → Int) (p' q' : Int) (h' : Nat → Int) : Bool := ((List.range 2).all fun i => co p q i == co p' q' i) && (List.range 16).all fun i => h i == h' i
theorem run_neq_bl (p q : Int) (h : Nat → Int) (p' q' : Int) (h' : Nat → Int) (w : World) :
    (binOp .neq 73 (.agg (bl p q h)) (.agg (bl p' q' h'))).run Try.prog w = .ok (.bool (!sameB p q h p' q' h')) w := by
  have hfm : (Try.prog.fieldsOf 73).toList.map (fun f => (f.name, f.type, f.offset)) = [("At", 46, 0), ("Mask", 71, 2)] := by kernel_rfl
  have hS : Try.prog.underlying 73 = some (.struct (Try.prog.fieldsOf 73)) := by kernel_rfl
  have hp : Try.prog.stoodInHeld 73 = false := by kernel_rfl
  rw [run_neq_struct, show (10000 : Nat) = 9999 + 1 from rfl, run_equalIn_agg w 9999 _ _ _ hS hp]
  generalize (Try.prog.fieldsOf 73).toList = fs at hfm ⊢
  obtain ⟨f0, f1, rfl⟩ : ∃ f0 f1, fs = [f0, f1] := by
    match fs, hfm with
    | [a, b], _ => exact ⟨a, b, rfl⟩
    | [], h => cases h
    | [_], h => simp at h
    | _ :: _ :: _ :: _, h => simp at h
  simp only [List.map_cons, List.map_nil, List.cons.injEq, Prod.mk.injEq, and_true] at hfm
  obtain ⟨⟨n0, t0, o0⟩, n1, t1, o1⟩ := hfm
  have e1 := fun w => run_part_agg (P := Try.prog) (t := 46) (n := 2) (bl p q h) 0 ag_co (sz_of (by kernel_rfl)) w
  have e2 := fun w => run_part_agg (P := Try.prog) (t := 46) (n := 2) (bl p' q' h') 0 ag_co (sz_of (by kernel_rfl)) w
  have e3 := fun w => run_part_agg (P := Try.prog) (t := 71) (n := 16) (bl p q h) 2 ag_mk (sz_of (by kernel_rfl)) w
  have e4 := fun w => run_part_agg (P := Try.prog) (t := 71) (n := 16) (bl p' q' h') 2 ag_mk (sz_of (by kernel_rfl)) w
  rw [bl_ext0] at e1 e2
  rw [bl_ext2] at e3 e4
  have q1 := fun w => eqArrD (P := Try.prog) (t := 46) (e := 21) (n := 2) (q := .i32) 9997 (co p q) (co p' q') Try.underlying46 Try.underlying21 (by kernel_rfl) w
  have q2 := fun w => eqArrD (P := Try.prog) (t := 71) (e := 69) (n := 16) (q := .u16) 9997 h h' Try.underlying71 Try.underlying69 (by kernel_rfl) w
  have d0 : f0.name ≠ "_" := by rw [n0]; decide
  have d1 : f1.name ≠ "_" := by rw [n1]; decide
  simp only [Op.eqFields, if_pos d0, if_pos d1, t0, t1, o0, o1, Sem.run_bind, e1, e2, Result.andThen_ok, Sem.run_ite]
  rw [q1]
  simp only [Result.andThen_ok]
  unfold sameB
  cases (List.range 2).all fun i => co p q i == co p' q' i
  · simp [Sem.run_pure]
  · simp only [Bool.not_true, Bool.false_eq_true, if_false]
    simp only [Sem.run_bind, e3, e4, Result.andThen_ok]
    rw [q2]
    simp only [Result.andThen_ok]
    cases (List.range 16).all fun i => h i == h' i <;> simp [Sem.run_pure]
theorem sameB_iff (p q : Int) (h : Nat → Int) (p' q' : Int) (h' : Nat → Int) : sameB p q h p' q' h' = true ↔ bl p q h = bl p' q' h' := by
  unfold sameB
  rw [Bool.and_eq_true, List.all_eq_true, List.all_eq_true]
  constructor
  · rintro ⟨h1, h2⟩
    have a0 := h1 0 (by simp)
    have a1 := h1 1 (by simp)
    simp [co] at a0 a1
    obtain rfl := a0
    obtain rfl := a1
    have : M16 h = M16 h' := arr_congr fun i hi => by have := h2 i (by simpa using hi); simpa using this
    unfold bl
    rw [this]
  · intro e
    have g : ∀ j : Nat, (bl p q h)[j]? = (bl p' q' h')[j]? := fun j => by rw [e]
    have e0 := g 0
    have e1 := g 1
    rw [show (bl p q h)[0]? = some (.int .i32 p) from bl_co p q h 0 _ rfl, show (bl p' q' h')[0]? = some (.int .i32 p') from bl_co p' q' h' 0 _ rfl] at e0
    rw [show (bl p q h)[1]? = some (.int .i32 q) from bl_co p q h 1 _ rfl, show (bl p' q' h')[1]? = some (.int .i32 q') from bl_co p' q' h' 1 _ rfl] at e1
    simp at e0 e1
    refine ⟨fun i hi => ?_, fun i hi => ?_⟩
    · have : i = 0 ∨ i = 1 := by simp at hi; omega
      rcases this with rfl | rfl
      · simp [co, e0]
      · simp [co, e1]
    · have hi' : i < 16 := by simpa using hi
      have e2 := g (2 + i)
      rw [bl_mask p q h i _ (arr_get .u16 16 h i hi'), bl_mask p' q' h' i _ (arr_get .u16 16 h' i hi')] at e2
      simpa using e2
set_option maxRecDepth 20000 in
set_option maxHeartbeats 4000000 in
theorem eqBl_same (p q : Int) (mk : Nat → Int) (w : World) :
    Calls Try.prog 59 #[.agg (bl p q mk), .agg (bl p q mk)] w fun e w' => e = .returned (.bool true) ∧ Below w.heap.size w w' := by
  obtain ⟨B, hB⟩ : ∃ B, bl p q mk = B := ⟨_, rfl⟩
  obtain ⟨W0, hW0⟩ : ∃ W0, (w.alloc (.cells B 73)).alloc (.cells B 73) = W0 := ⟨_, rfl⟩
  have A0 : Hid (W0.heap[w.heap.size]? = some (.cells B 73 (0, 0))) := Lib.hid (by rw [← hW0]; exact (Below.heap_alloc _ _ _ (by simp)).trans (World.alloc_heap_new w _))
  have A1 : Hid (W0.heap[w.heap.size + 1]? = some (.cells B 73 (0, 0))) := Lib.hid (by
    rw [← hW0]
    have := World.alloc_heap_new (w.alloc (.cells B 73)) (.cells B 73)
    rw [World.size_alloc] at this
    exact this)
  have AB : Hid (Below w.heap.size w W0) := Lib.hid (by rw [← hW0]; exact ((Below.refl _ w).alloc (Nat.le_refl _) _).alloc (by simp) _)
  have AZ : Hid (W0.heap.size = w.heap.size + 1 + 1) := Lib.hid (by rw [← hW0]; simp)
  have LC : Hid (∀ j v, (#[Value.int .i32 p, .int .i32 q] : Array Value)[j]? = some v → B[0 + j]? = some v) := Lib.hid (by rw [← hB]; exact bl_co p q mk)
  have LM : Hid (∀ j v, (M16 mk)[j]? = some v → B[2 + j]? = some v) := Lib.hid (by rw [← hB]; exact bl_mask p q mk)
  rw [hB]
  clear hB
  go_enter Try.func59, Try.ntmps59
  go_wp2_with (first | (refine wpList_load_part rfl 46 _ rfl w.heap.size 0 rfl #[Value.int .i32 p, .int .i32 q] _ (fun j v e => by rw [Lib.cell_of_heap A0.out]; exact LC.out j v e) Try.underlying46 rfl (co_info _ rfl) ?_) | (refine wpList_load_part rfl 46 _ rfl (w.heap.size + 1) 0 rfl #[Value.int .i32 p, .int .i32 q] _ (fun j v e => by rw [Lib.cell_of_heap A1.out]; exact LC.out j v e) Try.underlying46 rfl (co_info _ rfl) ?_))
  clear hW0
  refine (eqCo_same p q W0).mono ?_
  rintro e w2 ⟨rfl, b2⟩
  have z0 := AZ.out
  have B0 := Lib.hid ((b2.block w.heap.size (by omega)).trans A0.out)
  have B1 := Lib.hid ((b2.block (w.heap.size + 1) (by omega)).trans A1.out)
  have BB := Lib.hid (AB.out.trans (b2.mono (by omega)))
  have BZ : Hid (w.heap.size ≤ w2.heap.size) := Lib.hid (by have := b2.size; omega)
  clear b2 A0 A1 AB AZ z0
  go_wp2_with (first | (refine wpList_load_part rfl 71 _ rfl w.heap.size 2 rfl (M16 mk) _ (fun j v e => by rw [Lib.cell_of_heap B0.out]; exact LM.out j v e) Try.underlying71 rfl (mask_info _ (arr_size _ _ _)) ?_) | (refine wpList_load_part rfl 71 _ rfl (w.heap.size + 1) 2 rfl (M16 mk) _ (fun j v e => by rw [Lib.cell_of_heap B1.out]; exact LM.out j v e) Try.underlying71 rfl (mask_info _ (arr_size _ _ _)) ?_))
  refine (eqMask_any mk mk rfl w2).mono ?_
  rintro e w3 ⟨rfl, b3⟩
  have CB := Lib.hid (BB.out.trans (b3.mono BZ.out))
  clear b3 B0 B1 BB BZ
  go_wp2
  go_ret
  exact ⟨rfl, CB.out⟩
end Go.Proofs.Ythfmkejdpflpcaa
/-
  A REGION THAT DRAWS ITS ORDER, BY AN INVARIANT: one step an operation, whatever has come before it (no program in sight).
-/
namespace Go.Proofs.Ythfmkejdpflpcaa
open Go Go.RowKit
section
variable {P : Program} {ops : Array Oper} {Q : Exit → Act → World → Prop}
theorem Oper.wp_then {o : Oper} {a : Act} {w : World} {K : Act → World → Prop} (hh : o.wp P a w K (Exit.then K Q)) : o.wp P a w K Q := by
  unfold Oper.wp at *
  generalize (execOp a.eval o).run P w = r at *
  cases r with
  | ok n w' =>
    cases n <;> simp only [Oper.upon] at hh ⊢ <;>
      first
        | exact hh
        | exact Calls.mono hh (fun e w'' he => by cases e <;> exact he)
  | halt x w' => cases x <;> simp only [Oper.upon] at hh ⊢ <;> exact hh
theorem wpOp_of_list {i : Nat} {o : Oper} {a : Act} {w : World} {K : Act → World → Prop} (ho : ops[i]? = some o) (h : wpList P ops (Exit.then K Q) [o] a w) : wpOp P ops Q i K a w := by
  unfold wpOp
  simp only [ho]
  unfold wpList at h
  split
  · rename_i hw
    simp only [hw, if_true] at h
    rcases h with h | ⟨h1, h2⟩
    · refine .inl (Oper.wp_then (Oper.wp_mono (fun a' w' hk => ?_) h))
      exact hk
    · exact .inr ⟨h1, h2⟩
  · rename_i hw
    simp only [hw, Bool.false_eq_true, if_false] at h
    exact h
theorem wpOp_by {i : Nat} {o : Oper} {a : Act} {w : World} {K0 : Act → World → Prop} (ho : ops[i]? = some o) (h : ∀ K : Act → World → Prop, Hid (∀ a' w', K0 a' w' → K a' w') → wpList P ops (Exit.then K Q) [o] a w) : wpOp P ops Q i K0 a w :=
  wpOp_of_list ho (h K0 (Lib.hid fun _ _ h => h))
/-- edges lead backwards -/
def topB (ops : Array Oper) : Bool := (List.range ops.size).all fun i => match ops[i]? with | none => true | some o => o.after.all fun e => decide (e.on < i)
theorem all_listed {md : Region.Mode} (ht : topB ops = true) {listed : Array Bool} (hs : listed.size = ops.size) (hr : Region.ready md ops listed = []) : ∀ j, j < ops.size → listed.getD j false = true := by
  intro j
  induction j using Nat.strongRecOn with
  | ind j ih =>
    intro hj
    cases hl : listed.getD j false with
    | true => rfl
    | false =>
      have hmem : j ∈ Region.ready md ops listed := by
        rw [mem_ready]
        refine ⟨?_, ops[j], by simp [hj], fun e he _ => ?_⟩
        · have : j < listed.size := by omega
          simp [Array.getD, this] at hl ⊢
          exact hl
        · unfold topB at ht
          rw [List.all_eq_true] at ht
          have h1 := ht j (by simp [hj])
          rw [Array.getElem?_eq_getElem hj] at h1
          have h2 := Array.all_eq_true_iff_forall_mem.1 h1 e he
          have h3 : e.on < j := by simpa using h2
          exact ih _ h3 (by omega)
      rw [hr] at hmem
      cases hmem
theorem count_set {listed : Array Bool} {i : Nat} (h : listed.getD i true = false) : (listed.setIfInBounds i true).toList.count false + 1 = listed.toList.count false := by
  have hi : i < listed.size := by
    rcases Nat.lt_or_ge i listed.size with h' | h'
    · exact h'
    · simp [Array.getD, Nat.not_lt.2 h'] at h
  have hv : listed.toList[i]'(by simpa using hi) = false := by simpa [Array.getD, hi] using h
  have hl : i < listed.toList.length := by simpa using hi
  rw [Array.toList_setIfInBounds, List.count_set hl, hv]
  have hp : 0 < listed.toList.count false := List.count_pos_iff.2 (hv ▸ List.getElem_mem hl)
  simp
  have : 0 < Array.count false listed := by simpa using hp
  omega
theorem wpAny_inv {md : Region.Mode} {I : Array Bool → Act → World → Prop} (ht : topB ops = true) (hsz : ∀ listed a w, I listed a w → listed.size = ops.size)
    (hstep : ∀ listed a w i o, I listed a w → listed.getD i true = false → ops[i]? = some o → (∀ e ∈ o.after, Region.binds md e = true → listed.getD e.on false = true) → wpOp P ops Q i (fun a' w' => I (listed.setIfInBounds i true) a' w') a w)
    (hend : ∀ listed a w, I listed a w → (∀ j, j < ops.size → listed.getD j false = true) → Q .normal a w) :
    ∀ (fuel : Nat) (listed : Array Bool) (a : Act) (w : World), listed.toList.count false = fuel → I listed a w → wpAny P md ops Q fuel listed a w
  | 0, listed, a, w, hc, h => by
    have hr : Region.ready md ops listed = [] := by
      cases hl : Region.ready md ops listed with
      | nil => rfl
      | cons i r =>
        have hi : i ∈ Region.ready md ops listed := by rw [hl]; simp
        have := count_set (mem_ready.1 hi).1
        omega
    exact ⟨hr, hend _ _ _ h (all_listed ht (hsz _ _ _ h) hr)⟩
  | fuel + 1, listed, a, w, hc, h => by
    refine ⟨fun hr => hend _ _ _ h (all_listed ht (hsz _ _ _ h) hr), fun i hi => ?_⟩
    obtain ⟨h1, o, ho, h2⟩ := mem_ready.1 hi
    have h3 := count_set h1
    exact wpOp_mono (fun a' w' h' => wpAny_inv ht hsz hstep hend fuel _ a' w' (by omega) h') (hstep _ _ _ i o h h1 ho h2)
/-- THE LAW. -/
theorem wp_region_inv {id : Nat} {a : Act} {w : World} (hm : P.follows .mixedOrders = true) (I : Array Bool → Act → World → Prop) (ht : topB ops = true) (h0 : I (Array.replicate ops.size false) a w.drew) (hsz : ∀ listed a w, I listed a w → listed.size = ops.size)
    (hstep : ∀ listed a w i o, I listed a w → listed.getD i true = false → ops[i]? = some o → (∀ e ∈ o.after, Region.binds .any e = true → listed.getD e.on false = true) → wpOp P ops Q i (fun a' w' => I (listed.setIfInBounds i true) a' w') a w)
    (hend : ∀ listed a w, I listed a w → (∀ j, j < ops.size → listed.getD j false = true) → Q .normal a w) : (Code.region id ops true).wp P Q a w := by
  refine wp_region_any hm (wpAny_inv ht hsz hstep hend ops.size _ a _ ?_ h0)
  simp
end
/-- what is listed when one more is -/
theorem listed_set {listed : Array Bool} {i j : Nat} (h : (listed.setIfInBounds i true).getD j false = true) : j = i ∨ listed.getD j false = true := by
  by_cases hij : i = j
  · exact .inl hij.symm
  · right
    simp only [Array.getD_eq_getD_getElem?, Array.getElem?_setIfInBounds, if_neg hij] at h ⊢
    exact h
theorem listed_keep {listed : Array Bool} {i j : Nat} (h : listed.getD j false = true) : (listed.setIfInBounds i true).getD j false = true := by
  simp only [Array.getD_eq_getD_getElem?, Array.getElem?_setIfInBounds] at h ⊢
  split
  · rename_i hij
    subst hij
    have : i < listed.size := by
      rcases Nat.lt_or_ge i listed.size with h' | h'
      · exact h'
      · rw [Array.getElem?_eq_none h'] at h
        cases h
    simp [this]
  · exact h
theorem listed_new {listed : Array Bool} {i : Nat} (h : i < listed.size) : (listed.setIfInBounds i true).getD i false = true := by
  simp only [Array.getD_eq_getD_getElem?, Array.getElem?_setIfInBounds]
  simp [h]
theorem unlisted {listed : Array Bool} {i : Nat} (h : listed.getD i true = false) : listed.getD i false = false := by
  simp only [Array.getD_eq_getD_getElem?] at h ⊢
  cases hl : listed[i]? with
  | none => rfl
  | some b => rw [hl] at h; exact h
end Go.Proofs.Ythfmkejdpflpcaa
/-
  CONTRACTS: HasCell, SetCell, JoinMasks, MeetMasks, MinusMasks on both sides.
-/
namespace Go.Proofs.Ythfmkejdpflpcaa
open Go.ChangeShapes Go.WideShapes Go.ChangeAt Go.RowKit
theorem l00In_any (n l h : Int) (w : World) :
    Calls Try.prog 92 #[.int .i64 n, .int .i64 l, .int .i64 h] w fun e w' => e = .returned (.bool (decide (l ≤ n) && decide (n ≤ h))) ∧ w = w' := by
  cases t1 : decide (l ≤ n) <;> cases t2 : decide (n ≤ h)
  all_goals
    go_enter Try.func92, Try.ntmps92
    go_wp2
    go_ret
    exact ⟨rfl, rfl⟩
/-- l07Has at a mask that lies in a block -/
theorem l07Has_any (g : Nat) (f : Nat → Int) (hf : MB f) (x y : Nat) (hx : x < 16) (hy : y < 16) (w : World) (hc : w.cell? ⟨g, y, none⟩ = some (.int .u16 (f y))) :
    Calls Try.prog 105 #[.pointer (some ⟨g, 0, none⟩), .int .i64 (x : Int), .int .i64 (y : Int)] w fun e w' => e = .returned (.bool (hasF f x y)) ∧ w = w' := by
  have hv := hf y hy
  have HS : Hid (bits .and .u16 (f y / 2 ^ x) 1 = if (f y).toNat.testBit x then 1 else 0) := Lib.hid (shr_bit hv x)
  obtain ⟨v0, v1⟩ := hv
  have hx' : (x : Int) ≤ 16 := by omega
  have hy' : (y : Int) < 16 := by omega
  clear hf
  unfold hasF
  generalize f y = v at hc v0 v1 HS ⊢
  go_enter Try.func105, Try.ntmps105
  go_wp2
  go_ret
  exact ⟨mret_bool (by rw [HS.out]; cases v.toNat.testBit x <;> rfl), rfl⟩
/-- what HasCell answers -/
def HcPost (f : Nat → Int) (x y : Int) (w : World) (e : Ending) (w' : World) : Prop := e = .returned (.tuple #[.bool (if inB x y then hasF f x.toNat y.toNat else false), .int .i64 (if inB x y then 0 else 2)]) ∧ Below w.heap.size w w'
end Go.Proofs.Ythfmkejdpflpcaa
/-
  SLICES OF PAIRS OF NUMBERS: built by append; how the laws look at them.
-/
namespace Go.Proofs.Ythfmkejdpflpcaa
open Go.ChangeShapes Go.WideShapes Go.ChangeAt Go.RowKit
theorem own_alloc {w : World} {base : Nat} {e : TypeId} {size : Nat} {v : Value} {n : Nat} {xs : List Value} (h : w.ownsRow base e size v n xs) (o : Obj) : (w.alloc o).ownsRow base e size v n xs := by
  refine h.kept (World.grownBy_alloc w o none) ?_
  cases hv : v.ownBlock with
  | none => exact .inl rfl
  | some k => exact .inr (by simp)
def two (p q : Int) : List Value := [.int .i32 p, .int .i32 q]
theorem two_at (w : World) (p q : Int) (t : TypeId) : ∀ j u, (two p q)[j]? = some u → (w.alloc (.cells #[.int .i32 p, .int .i32 q] t)).cell? ((⟨w.heap.size, 0, none⟩ : Addr).add j) = some u := by
  intro j u h
  have e : (⟨w.heap.size, 0, none⟩ : Addr).add j = ⟨w.heap.size, j, none⟩ := by rw [Go.WideShapes.add_plain, Nat.zero_add]
  rw [e, World.cell?_alloc_new]
  match j, h with
  | 0, h => exact h
  | 1, h => exact h
  | k + 2, h => simp [two] at h
theorem two_one (p q : Int) : ∀ u ∈ two p q, u.oneCell' = true := by
  intro u hu
  simp [two] at hu
  rcases hu with rfl | rfl <;> rfl
theorem belowN {B n : Nat} {a w : World} (h : Below B a w) : Below B a (w.drewN n) := ⟨h.os, h.tape, h.output, h.size, h.block⟩
/-- A CELL IS APPENDED to a slice of the call's own. -/
theorem wpList_append_pt {ops : Array Oper} {rest : List Oper} {o : Oper} {a : Act} {Q : Exit → Act → World → Prop} (hgd : o.guard = none) (s x : Operand)
    (ho : o.op = .call { callee := .builtin .append, args := #[s, x], argTypes := #[22, 22] })
    (base : Nat) (w0 W : World) (v : Value) (n : Nat) (xs : List Value) (p q : Int) (hs : a.eval s = v) (m : Nat) (hm : W.heap.size = m) (hx : a.eval x = .slice (some ⟨m, 0, none⟩) 1 1)
    (H : Hid (W.ownsRow base 45 2 v n xs)) (HB : Hid (Below base w0 W)) (hb : base ≤ w0.heap.size) (hn : n ≤ 1000000)
    (h : ∀ v' w', Hid (w'.ownsRow base 45 2 v' (n + 1) (xs ++ two p q)) → Hid (Below base w0 w') → wpList Try.prog ops Q rest (a.put o.dst v') w') :
    wpList Try.prog ops Q (o :: rest) a (W.alloc (.cells #[.int .i32 p, .int .i32 q] 45)) := by
  have hsz := HB.out.size
  subst hm
  refine wpList_append_own _ hgd s x 22 ho base 45 Try.t45 (.agg #[.int .i32 0, .int .i32 0]) 2 8 Try.underlying22 (by kernel_rfl) (by kernel_rfl) (by kernel_rfl) (by kernel_rfl) (by kernel_rfl) (by decide) v n xs hs (own_alloc H.out _) ⟨W.heap.size, 0, none⟩ 1 1 (two p q) hx rfl (two_at _ _ _ _) (two_one p q) (by unfold maxLen; omega) (by omega) (by simp; omega) ?_
  intro v' w' h1 h2 _
  exact h v' w' h1 ((HB.out.alloc (by omega) _).grown h2 (by simp; omega) (fun k hk => (H.out.lt k hk).1))
theorem toPt_any (a b : Int) (w : World) :
    Calls Try.prog 55 #[.agg #[.int .i32 a, .int .i32 b]] w fun e w' => e = .returned (.agg #[.int .i32 a, .int .i32 b]) ∧ Below w.heap.size w w' := by
  go_enter Try.func55, Try.ntmps55
  go_wp2
  refine wp_loop_rounds 3 ?_
  iterate 3
    rw [rounds_succ]
    go_wp2
  refine bodyPost_ret (v := .agg #[.int .i32 a, .int .i32 b]) (by simp [results, Try.results55, go_sem]) rfl ⟨rfl, ?_⟩
  exact (((Below.refl _ _).alloc (Nat.le_refl _) _).alloc (by simp) _).alloc (by simp; omega) _
theorem eqPt_same (a b : Int) (w : World) :
    Calls Try.prog 60 #[.agg #[.int .i32 a, .int .i32 b], .agg #[.int .i32 a, .int .i32 b]] w fun e w' => e = .returned (.bool true) ∧ Below w.heap.size w w' := by
  go_enter Try.func60, Try.ntmps60
  go_wp2
  refine wp_loop_rounds 3 ?_
  rw [rounds_succ]
  go_wp2
  go_quiet (fail)
  go_wp2
  rw [rounds_succ]
  go_wp2
  go_quiet (fail)
  go_wp2
  rw [rounds_succ]
  go_wp2
  go_ret
  exact ⟨rfl, by repeat (first | exact Below.refl _ _ | apply belowN | refine Below.alloc ?_ (by first | exact Nat.le_refl _ | (simp; done) | (simp; omega)) _)⟩
set_option maxHeartbeats 1000000 in
theorem eqPtS_any (x y n c1 c2 : Nat) (f : Nat → Int) (w : World) (hn : n ≤ 1000000)
    (hx : ∀ j, j < 2 * n → w.cell? ⟨x, j, none⟩ = some (.int .i32 (f j))) (hy : ∀ j, j < 2 * n → w.cell? ⟨y, j, none⟩ = some (.int .i32 (f j))) :
    Calls Try.prog 19 #[.slice (some ⟨x, 0, none⟩) n c1, .slice (some ⟨y, 0, none⟩) n c2] w fun e w' => e = .returned (.bool true) ∧ Below w.heap.size w w' := by
  have HX := Lib.hid hx
  have HY := Lib.hid hy
  clear hx hy
  have hn' : (n : Int) ≤ 1000000 := by omega
  go_enter Try.func19, Try.ntmps19
  go_wp2
  go_loopw [5] (fun i wr => ∃ k : Nat, k ≤ n ∧ i = .int .i64 k ∧ Below w.heap.size w wr) (fun i _ => n - (intOf i).toNat)
  case atStart => exact ⟨0, Nat.zero_le _, rfl, Below.refl _ _⟩
  case round =>
    obtain ⟨k, hk, rfl, hb⟩ := hrel
    by_cases hlt : k < n
    · have hxl := World.block_lt_of_cell? _ _ (HX.out (2 * k) (by omega))
      have hyl := World.block_lt_of_cell? _ _ (HY.out (2 * k) (by omega))
      have hS : ∀ W, Below w.heap.size w W → Below w.heap.size w W ∧ W.cell? ⟨x, k * 2, none⟩ = some (.int .i32 (f (2 * k))) ∧ W.cell? ⟨x, k * 2 + 1, none⟩ = some (.int .i32 (f (2 * k + 1))) ∧ W.cell? ⟨y, k * 2, none⟩ = some (.int .i32 (f (2 * k))) ∧ W.cell? ⟨y, k * 2 + 1, none⟩ = some (.int .i32 (f (2 * k + 1))) := fun W hW => by
        refine ⟨hW, ?_, ?_, ?_, ?_⟩
        · rw [hW.cell (p := ⟨x, k * 2, none⟩) hxl, Nat.mul_comm]; exact HX.out _ (by omega)
        · rw [hW.cell (p := ⟨x, k * 2 + 1, none⟩) hxl, Nat.mul_comm]; exact HX.out _ (by omega)
        · rw [hW.cell (p := ⟨y, k * 2, none⟩) hyl, Nat.mul_comm]; exact HY.out _ (by omega)
        · rw [hW.cell (p := ⟨y, k * 2 + 1, none⟩) hyl, Nat.mul_comm]; exact HY.out _ (by omega)
      have HS := Lib.hid hS
      have HB := Lib.hid hb
      clear hS hb hxl hyl
      go_wp2
      go_region_held3 (fun w' => Below w.heap.size w w' ∧ w'.cell? ⟨x, k * 2, none⟩ = some (.int .i32 (f (2 * k))) ∧ w'.cell? ⟨x, k * 2 + 1, none⟩ = some (.int .i32 (f (2 * k + 1))) ∧ w'.cell? ⟨y, k * 2, none⟩ = some (.int .i32 (f (2 * k))) ∧ w'.cell? ⟨y, k * 2 + 1, none⟩ = some (.int .i32 (f (2 * k + 1))))
        (first | exact HS.out _ HB.out.drew | exact HS.out _ (HB.out.drew.trans (Below.mono (by assumption) HB.out.size)))
        (first | (go_at_call 60; refine (eqPt_same _ _ _).mono ?_; rintro e w' ⟨rfl, hb⟩))
      rename_i hH
      have HB' := Lib.hid hH.1
      clear hH hb HB
      go_wp2
      go_roundw
      case rel => exact ⟨k + 1, by omega, by go_num, HB'.out⟩
      case measure => simp [intOf]; omega
    · obtain rfl : k = n := by omega
      have HB := Lib.hid hb
      clear hb
      go_wp2
      go_ret
      exact ⟨rfl, HB.out⟩
/-- nothing but one block has turned -/
def Onl (g : Nat) (w w' : World) : Prop := w'.os = w.os ∧ w'.tape = w.tape ∧ w'.output = w.output ∧ w'.heap.size = w.heap.size ∧ ∀ k, k ≠ g → w'.heap[k]? = w.heap[k]?
theorem Onl.refl (g : Nat) (w : World) : Onl g w w := ⟨rfl, rfl, rfl, rfl, fun _ _ => rfl⟩
theorem Onl.put {g i : Nat} {w w' : World} {v : Value} (h : Onl g w w') : Onl g w (w'.setCell ⟨g, i, none⟩ v) :=
  ⟨h.1, h.2.1, h.2.2.1, by simp [h.2.2.2.1], fun k hk => by rw [← h.2.2.2.2 k hk]; exact Below.heap_setCell _ _ _ k hk⟩
theorem Onl.below {g B : Nat} {w w' : World} (h : Onl g w w') (hB : B ≤ g) : Below B w w' := ⟨h.1, h.2.1, h.2.2.1, by rw [h.2.2.2.1]; exact Nat.le_refl _, fun k hk => h.2.2.2.2 k (by omega)⟩
/-- the first m of N numbers of a block are marks; all N can be written -/
def Mk (g N m : Nat) (w : World) : Prop := (∀ j, j < m → w.cell? ⟨g, j, none⟩ = some (.int .i32 ((1 + j : Nat) : Int))) ∧ ∀ j, j < N → (∃ x, w.cell? ⟨g, j, none⟩ = some (.int .i32 x)) ∧ w.frozen? ⟨g, j, none⟩ = false
theorem cell_set {w : World} {g i j : Nat} {v u : Value} (h : w.cell? ⟨g, j, none⟩ = some u) : (w.setCell ⟨g, i, none⟩ v).cell? ⟨g, j, none⟩ = some (if i = j then v else u) := by
  unfold World.cell? at h ⊢
  simp only [World.setCell, Array.getElem?_modify, ↓reduceIte]
  cases hh : w.heap[g]? with
  | none => simp [hh] at h
  | some o =>
    rw [hh] at h
    cases o with
    | cells c t fr =>
      simp only [Option.map_some] at h ⊢
      have hlt : j < c.size := by
        simp at h
        exact (Array.getElem?_eq_some_iff.1 h).1
      by_cases hij : i = j
      · subst hij; simp [Array.getElem?_setIfInBounds, hlt]
      · simp at h; simp [Array.getElem?_setIfInBounds, hij, h]
    | _ => simp at h
theorem Mk.put {g N m : Nat} {w : World} (h : Mk g N m w) (hm : m < N) : Mk g N (m + 1) (w.setCell ⟨g, m, none⟩ (.int .i32 ((1 + m : Nat) : Int))) := by
  refine ⟨fun j hj => ?_, fun j hj => ⟨?_, ?_⟩⟩
  · obtain ⟨x, hx⟩ := (h.2 j (by omega)).1
    rw [cell_set hx]
    by_cases e : m = j
    · subst e; simp
    · rw [if_neg e, ← hx]; exact h.1 j (by omega)
  · obtain ⟨x, hx⟩ := (h.2 j hj).1
    rw [cell_set hx]
    by_cases e : m = j
    · exact ⟨_, by rw [if_pos e]⟩
    · exact ⟨x, by rw [if_neg e]⟩
  · rw [World.frozen?_setCell]; exact (h.2 j hj).2
set_option maxHeartbeats 1000000 in
theorem markPtS_any (g cap n : Nat) (hn : n ≤ 1000000) (w : World) (ho : Mk g (2 * n) 0 w) :
    Calls Try.prog 20 #[.slice (some ⟨g, 0, none⟩) n cap, .int .i64 1] w fun e w' => e = .returned (.int .i64 ((1 + 2 * n : Nat) : Int)) ∧ Mk g (2 * n) (2 * n) w' ∧ Onl g w w' := by
  have HO := Lib.hid ho
  have hn' : (n : Int) ≤ 1000000 := by omega
  clear ho
  go_enter Try.func20, Try.ntmps20
  go_wp2
  go_loopw [1, 5] (fun q i wr => ∃ k : Nat, k ≤ n ∧ i = .int .i64 k ∧ q = .int .i64 ((1 + 2 * k : Nat) : Int) ∧ Mk g (2 * n) (2 * k) wr ∧ Onl g w wr) (fun _ i _ => n - (intOf i).toNat)
  case atStart => exact ⟨0, Nat.zero_le _, rfl, rfl, HO.out, Onl.refl _ _⟩
  case round =>
    obtain ⟨k, hk, rfl, rfl, hm, hb⟩ := hrel
    have HM := Lib.hid hm
    have HB := Lib.hid hb
    clear hm hb
    by_cases hlt : k < n
    · have hlt' : (k : Int) < n := by omega
      go_wp2

      go_loopw [1, 6] (fun q i wr' => ∃ j : Nat, j ≤ 2 ∧ i = .int .i64 j ∧ q = .int .i64 ((1 + (2 * k + j) : Nat) : Int) ∧ Mk g (2 * n) (2 * k + j) wr' ∧ Onl g w wr') (fun _ i _ => 2 - (intOf i).toNat)
      case atStart => exact ⟨0, Nat.zero_le _, rfl, rfl, HM.out, HB.out⟩
      case round =>
        obtain ⟨j, hj, rfl, rfl, hm, hb⟩ := hrel
        have HM2 := Lib.hid hm
        have HB2 := Lib.hid hb
        clear hm hb
        by_cases hj2 : j < 2
        · obtain ⟨x, hx⟩ := (HM2.out.2 (2 * k + j) (by omega)).1
          have hf := (HM2.out.2 (2 * k + j) (by omega)).2
          have e : 2 * k + j = k * 2 + j := by omega
          rw [e] at hx hf
          clear e
          have HP : Hid (Mk g (2 * n) (2 * k + (j + 1)) (wr.setCell ⟨g, k * 2 + j, none⟩ (.int .i32 (1 + (2 * (k : Int) + (j : Int)))))) := Lib.hid (by
            have h := HM2.out.put (by omega)
            rw [show k * 2 + j = 2 * k + j from by omega, show (1 + (2 * (k : Int) + (j : Int))) = ((1 + (2 * k + j) : Nat) : Int) from by omega]
            exact h)
          go_wp2
          go_roundw
          case rel => exact ⟨j + 1, by omega, by go_num, by go_num, HP.out, HB2.out.put⟩
          case measure => simp [intOf]; omega
        · obtain rfl : j = 2 := by omega
          go_wp2
          go_roundw
          case rel => exact ⟨k + 1, by omega, by go_num, by go_num, HM2.out, HB2.out⟩
          case measure => simp [intOf]; omega
    · obtain rfl : k = n := by omega
      go_wp2
      go_ret
      exact ⟨by rfl, HM.out, HB.out⟩
set_option maxHeartbeats 1000000 in
theorem heldPtS_any (g cap n : Nat) (hn : n ≤ 1000000) (w : World) (ho : ∀ j, j < 2 * n → w.cell? ⟨g, j, none⟩ = some (.int .i32 ((1 + j : Nat) : Int))) :
    Calls Try.prog 27 #[.slice (some ⟨g, 0, none⟩) n cap, .int .i64 1] w fun e w' => e = .returned (.int .i64 ((1 + 2 * n : Nat) : Int)) ∧ ∃ m, w' = w.drewN m := by
  have HO := Lib.hid ho
  have hn' : (n : Int) ≤ 1000000 := by omega
  clear ho
  go_enter Try.func27, Try.ntmps27
  go_wp2
  go_loopw [1, 5] (fun q i wr => ∃ k m : Nat, k ≤ n ∧ i = .int .i64 k ∧ q = .int .i64 ((1 + 2 * k : Nat) : Int) ∧ wr = w.drewN m) (fun _ i _ => n - (intOf i).toNat)
  case atStart => exact ⟨0, 0, Nat.zero_le _, rfl, rfl, rfl⟩
  case round =>
    obtain ⟨k, m, hk, rfl, rfl, e⟩ := hrel
    have HE := Lib.hid e
    clear e
    by_cases hlt : k < n
    · have hlt' : (k : Int) < n := by omega
      go_wp2
      go_loopw [1, 6] (fun q i wr' => ∃ j m : Nat, j ≤ 2 ∧ i = .int .i64 j ∧ q = .int .i64 ((1 + (2 * k + j) : Nat) : Int) ∧ wr' = w.drewN m) (fun _ i _ => 2 - (intOf i).toNat)
      case atStart => exact ⟨0, m, Nat.zero_le _, rfl, rfl, HE.out⟩
      case round =>
        clear HE
        obtain ⟨j, m, hj, rfl, rfl, e⟩ := hrel
        have HE := Lib.hid e
        clear e
        by_cases hj2 : j < 2
        · have hx : wr.cell? ⟨g, k * 2 + j, none⟩ = some (.int .i32 (1 + (2 * (k : Int) + (j : Int)))) := by
            rw [HE.out, show k * 2 + j = 2 * k + j from by omega, show (1 + (2 * (k : Int) + (j : Int))) = ((1 + (2 * k + j) : Nat) : Int) from by omega]
            exact HO.out _ (by omega)
          go_wp2
          go_roundw
          case rel => exact ⟨j + 1, m, by omega, by go_num, by go_num, HE.out⟩
          case measure => simp [intOf]; omega
        · obtain rfl : j = 2 := by omega
          go_wp2
          go_roundw
          case rel => exact ⟨k + 1, m, by omega, by go_num, by go_num, HE.out⟩
          case measure => simp [intOf]; omega
    · obtain rfl : k = n := by omega
      go_wp2
      go_ret
      exact ⟨by rfl, m, HE.out⟩
end Go.Proofs.Ythfmkejdpflpcaa
/-
  ROWS OF CELLS BETWEEN TWO BLOCKS (no program in sight): what a slice that a call has made holds, and that later calls leave it.
-/
namespace Go.Proofs.Ythfmkejdpflpcaa
open Go.ChangeShapes Go.WideShapes Go.ChangeAt Go.RowKit
/-- v is a slice of n elements of s cells each that hold f; its block lies from lo on and below hi -/
def PR (s lo hi : Nat) (w : World) (v : Value) (n : Nat) (f : Nat → Value) : Prop :=
  ∃ a cap, v = .slice a n cap ∧ (n = 0 ∨ ∃ g, a = some ⟨g, 0, none⟩ ∧ lo ≤ g ∧ g < hi ∧ hi ≤ w.heap.size ∧ (∀ j, j < n * s → w.cell? ⟨g, j, none⟩ = some (f j)) ∧ ∀ j, j < n * s → w.frozen? ⟨g, j, none⟩ = false)
theorem PR.below {s lo hi B : Nat} {w w' : World} {v : Value} {n : Nat} {f : Nat → Value} (hb : Below B w w') (hB : hi ≤ B) (h : PR s lo hi w v n f) : PR s lo hi w' v n f := by
  obtain ⟨a, cap, rfl, h0 | ⟨g, rfl, h1, h2, h3, h4, h5⟩⟩ := h
  · exact ⟨a, cap, rfl, .inl h0⟩
  · refine ⟨_, cap, rfl, .inr ⟨g, rfl, h1, h2, Nat.le_trans h3 hb.size, fun j hj => ?_, fun j hj => ?_⟩⟩
    · rw [hb.cell (p := ⟨g, j, none⟩) (Nat.lt_of_lt_of_le h2 hB)]; exact h4 j hj
    · rw [hb.frozen (p := ⟨g, j, none⟩) (Nat.lt_of_lt_of_le h2 hB)]; exact h5 j hj
/-- as a list of cells tells it -/
def listF (xs : List Value) (j : Nat) : Value := xs[j]?.getD undef
theorem PR.of_own {s lo : Nat} {w : World} {e : TypeId} {v : Value} {n : Nat} {xs : List Value} (h : w.ownsRow lo e s v n xs) : PR s lo w.heap.size w v n (listF xs) := by
  have hl := h.1
  rcases h.2 with ⟨rfl, h0⟩ | ⟨g, cap, cur, rfl, hb, hg, _⟩
  · exact ⟨none, 0, by rw [h0], .inl h0⟩
  · refine ⟨_, cap, rfl, .inr ⟨g, rfl, hb, (h.lt g rfl).2, Nat.le_refl _, fun j hj => ?_, fun j _ => h.frozenAt j⟩⟩
    rw [h.cellAt j hj]
    unfold listF
    rw [List.getElem?_eq_getElem (by omega)]
    rfl
end Go.Proofs.Ythfmkejdpflpcaa
/-
  A SLICE OF PAIRS OF int32 THAT CAME IN, OPENED; the law's copy of one.
-/
namespace Go.Proofs.Ythfmkejdpflpcaa
open Go.ChangeShapes Go.WideShapes Go.ChangeAt Go.RowKit Go.Deep
/-- a slice of pairs below B: its numbers are f -/
def PtR (B : Nat) (w : World) (a : Option Addr) (n : Nat) (f : Nat → Int) : Prop := n = 0 ∨ ∃ g off, a = some ⟨g, off, none⟩ ∧ g < B ∧ ∀ j, j < 2 * n → w.cell? ⟨g, off + j, none⟩ = some (.int .i32 (f j))
def P32 (n : Nat) (f : Nat → Int) : Prop := ∀ j, j < 2 * n → -2147483648 ≤ f j ∧ f j ≤ 2147483647
theorem PtR.below {B B' : Nat} {w w' : World} {a : Option Addr} {n : Nat} {f : Nat → Int} (h : PtR B w a n f) (hb : Below B w w') (hB : B ≤ B') : PtR B' w' a n f := by
  rcases h with h | ⟨g, off, ha, hg, hc⟩
  · exact .inl h
  · exact .inr ⟨g, off, ha, by omega, fun j hj => (hb.cell (p := ⟨g, off + j, none⟩) hg).trans (hc j hj)⟩
theorem trod_i32 {H : Type} {enc : TypeId × Value → H} {W : World} {base n : Nat} {spare : Nat → Bool} {held : Bool} {v : Value} {y : DataW H × List MemPlace}
    (ht : DataW.trod enc Try.prog W base spare held n 21 [v] = some y) : ∃ c : Int, -2147483648 ≤ c ∧ c ≤ 2147483647 ∧ v = .int .i32 c := by
  cases n with
  | zero => simp [DataW.trod] at ht
  | succ n =>
    obtain ⟨c, e1, _, hw⟩ := DataW.trod_int Try.underlying21 ht
    obtain rfl := (List.cons.inj e1).1
    refine ⟨c, ?_, ?_, rfl⟩
    all_goals (simp [Lit.wf, IntKind.min, IntKind.max, IntKind.bits, IntKind.signed] at hw; omega)
set_option maxRecDepth 20000 in
theorem prow_of {H : Type} {enc : TypeId × Value → H} {W : World} {a : Option Addr} {len cap : Nat} {d : DataW H} {ps : List MemPlace} {spare : Nat → Bool} {base : Nat} {held : Bool}
    (h : DataW.Trod enc Try.prog W base spare held 22 (.slice a len cap) d ps) : ∃ f, P32 len f ∧ PtR W.heap.size W a len f ∧ len ≤ maxLen := by
  obtain ⟨fuel, hf⟩ := h
  have c2 : Try.prog.cellsOf 45 = 2 := by kernel_rfl
  have c1 : Try.prog.cellsOf 21 = 1 := by kernel_rfl
  rcases open_slice Try.underlying22 hf with ⟨hcs, _⟩ | ⟨x, l, c, m, n, D, Pl, hcs, _, hl, hcm, hm, _, hcell⟩
  · simp [Value.cells] at hcs
    obtain ⟨rfl, rfl, rfl⟩ := hcs
    exact ⟨fun _ => 0, fun j hj => by omega, .inl rfl, Nat.zero_le _⟩
  · simp [Value.cells] at hcs
    obtain ⟨rfl, rfl, rfl⟩ := hcs
    rw [c2] at hcell
    have hlm : len ≤ m := by rw [hm]; split <;> omega
    by_cases h0 : len = 0
    · exact ⟨fun _ => 0, fun j hj => by omega, .inl h0, by omega⟩
    · obtain ⟨b, off, spot⟩ := x
      have hspot : spot = none := by
        obtain ⟨cs', h1, _⟩ := hcell 0 (by omega)
        obtain ⟨_, hlen, hcc⟩ := World.cells?_some h1
        have hc0 := hcc 0 (by omega)
        match cs', hlen with
        | [v0, v1], _ =>
          have hc1 : W.cell? ((⟨b, off, spot⟩ : Addr).add 0) = some v0 := by simpa [Addr.add] using hc0
          simpa [Addr.add] using World.cell?_spot hc1
      subst hspot
      have key : ∀ j, j < 2 * len → ∃ z : Int, -2147483648 ≤ z ∧ z ≤ 2147483647 ∧ W.cell? ⟨b, off + j, none⟩ = some (.int .i32 z) := by
        intro j hj
        obtain ⟨cs', h1, h2⟩ := hcell (j / 2) (by omega)
        obtain ⟨_, _, hcc⟩ := World.cells?_some h1
        have hcj := hcc (j % 2) (by omega)
        rw [Go.WideShapes.add_plain, Go.WideShapes.add_plain, show off + j / 2 * 2 + j % 2 = off + j by omega] at hcj
        obtain ⟨xs, mm, rfl, -, hlen, hxl, hel⟩ := DataW.trod_array Try.underlying45 h2
        rw [c2] at hlen
        rw [c1] at hel
        match cs', hlen with
        | [v0, v1], _ =>
          have e := hel (j % 2) (by omega)
          rw [List.getElem?_eq_getElem (by omega)] at e
          rcases Nat.mod_two_eq_zero_or_one j with hr | hr
          · rw [hr] at hcj
            have e' : DataW.trod enc Try.prog W base spare held mm 21 [v0] = some (xs[j % 2]'(by omega)) := by rw [← e, hr]; rfl
            obtain ⟨z, z0, z1, rfl⟩ := trod_i32 e'
            exact ⟨z, z0, z1, hcj⟩
          · rw [hr] at hcj
            have e' : DataW.trod enc Try.prog W base spare held mm 21 [v1] = some (xs[j % 2]'(by omega)) := by rw [← e, hr]; rfl
            obtain ⟨z, z0, z1, rfl⟩ := trod_i32 e'
            exact ⟨z, z0, z1, hcj⟩
      have hb : b < W.heap.size := by
        obtain ⟨z, _, _, hc0⟩ := key 0 (by omega)
        unfold World.cell? at hc0
        split at hc0
        · rename_i hb; exact (Array.getElem?_eq_some_iff.1 hb).1
        · cases hc0
      refine ⟨fun j => if hj : j < 2 * len then Classical.choose (key j hj) else 0, fun j hj => ?_, .inr ⟨b, off, rfl, hb, fun j hj => ?_⟩, by omega⟩
      · simp only [dif_pos hj]
        have := Classical.choose_spec (key j hj)
        exact ⟨this.1, this.2.1⟩
      · simp only [dif_pos hj]
        exact (Classical.choose_spec (key j hj)).2.2
/-- the law's copy, k pairs of n copied -/
def rowP (f : Nat → Int) (k n : Nat) : Array Value := ((List.range (2 * n)).map fun i => if i < 2 * k then Value.int .i32 (f i) else Value.int .i32 0).toArray
theorem rowP_size (f : Nat → Int) (k n : Nat) : (rowP f k n).size = 2 * n := by simp [rowP]
theorem rowP_get (f : Nat → Int) (k n i : Nat) (h : i < 2 * n) : (rowP f k n)[i]? = some (if i < 2 * k then Value.int .i32 (f i) else Value.int .i32 0) := by simp [rowP, h]
theorem rowP_set (f : Nat → Int) (k n : Nat) (h : k < n) : ((rowP f k n).setIfInBounds (k * 2) (.int .i32 (f (k * 2)))).setIfInBounds (k * 2 + 1) (.int .i32 (f (k * 2 + 1))) = rowP f (k + 1) n := by
  apply Array.ext_getElem?
  intro i
  rw [Array.getElem?_setIfInBounds, Array.getElem?_setIfInBounds]
  simp only [Array.size_setIfInBounds, rowP_size]
  by_cases hi : i < 2 * n
  · rw [rowP_get f (k + 1) n i hi]
    by_cases h1 : k * 2 + 1 = i
    · subst h1
      rw [if_pos rfl, if_pos (by omega), if_pos (by omega)]
    · rw [if_neg h1]
      by_cases h2 : k * 2 = i
      · subst h2
        rw [if_pos rfl, if_pos (by omega), if_pos (by omega)]
      · rw [if_neg h2, rowP_get f k n i hi]
        congr 1
        by_cases h3 : i < 2 * k
        · rw [if_pos h3, if_pos (by omega)]
        · rw [if_neg h3, if_neg (by omega)]
  · rw [if_neg (by omega), if_neg (by omega), Array.getElem?_eq_none (by rw [rowP_size]; omega), Array.getElem?_eq_none (by rw [rowP_size]; omega)]
theorem madeP (n : Nat) : madeCells #[.int .i32 0, .int .i32 0] (n * 2) = rowP (fun _ => 0) 0 n := by
  apply Array.ext_getElem?
  intro i
  by_cases hi : i < 2 * n
  · rw [rowP_get _ _ _ _ hi]
    have h2 : i < n * 2 := by omega
    rcases Nat.mod_two_eq_zero_or_one i with h | h
    · simp [madeCells, h2, h]
    · simp [madeCells, h2, h]
  · rw [Array.getElem?_eq_none (by simp [madeCells]; omega), Array.getElem?_eq_none (by rw [rowP_size]; omega)]
theorem rowP_zero (f : Nat → Int) (n : Nat) : rowP f 0 n = rowP (fun _ => 0) 0 n := by simp [rowP]
theorem info_p2D : (Try.prog.info? 45).map (fun i => (i.zero, i.size, i.bytes)) = some (some (.agg #[.int .i32 0, .int .i32 0]), 2, 8) := by kernel_rfl
theorem make_p2 (n : Nat) (h : n ≤ 1048576) (w : World) : (Instr.makeSlice 22 (.int .i64 (n : Int)) (.int .i64 (n : Int))).run Try.prog w = .ok (.slice (some ⟨w.heap.size, 0, none⟩) n n) (w.alloc (.cells (rowP (fun _ => 0) 0 n) 45)) := by
  obtain ⟨i, hi, hz, hs, hb⟩ := info_parts info_p2D
  have hr := run_make (P := Try.prog) w 22 45 i _ Try.underlying22 hi hz .i64 .i64 n n (by omega) (Int.le_refl _) (by rw [hb]; omega) (by omega)
  simp only [Int.toNat_natCast, hs] at hr
  rw [← madeP]
  exact hr
theorem toPt_any2 (a b : Int) (w : World) :
    Calls Try.prog 55 #[.agg #[.int .i32 a, .int .i32 b]] w fun e w' => e = .returned (.agg #[.int .i32 a, .int .i32 b]) ∧ Below w.heap.size w w' := by
  go_enter Try.func55, Try.ntmps55
  go_wp2
  refine wp_loop_rounds 3 ?_
  iterate 3
    rw [rounds_succ]
    go_wp2
  refine bodyPost_ret (v := .agg #[.int .i32 a, .int .i32 b]) (by simp [results, Try.results55, go_sem]) rfl ⟨rfl, ?_⟩
  exact (((Below.refl _ _).alloc (Nat.le_refl _) _).alloc (by simp) _).alloc (by simp; omega) _
set_option maxHeartbeats 2000000 in
theorem toPS_any (a : Option Addr) (cap n : Nat) (f : Nat → Int) (B : Nat) (w : World) (hB : B ≤ w.heap.size) (h : PtR B w a n f) (hl : n ≤ 1048576) :
    Calls Try.prog 16 #[.slice a n cap] w fun e w' => e = .returned (.slice (some ⟨w.heap.size, 0, none⟩) n n) ∧ PtR (w.heap.size + 1) w' (some ⟨w.heap.size, 0, none⟩) n f ∧ Below w.heap.size w w' ∧ w.heap.size < w'.heap.size := by
  have hmk := fun w => make_p2 n hl w
  have hz := rowP_zero f n
  rw [← hz] at hmk
  have hl' : (n : Int) ≤ 1048576 := by omega
  have H0 : Hid ((w.alloc (.cells (rowP f 0 n) 45)).heap[w.heap.size]? = some (.cells (rowP f 0 n) 45 (0, 0))) := Lib.hid (World.alloc_heap_new w _)
  have B0 : Hid (Below w.heap.size w (w.alloc (.cells (rowP f 0 n) 45))) := Lib.hid ((Below.refl _ w).alloc (Nat.le_refl _) _)
  have HP := Lib.hid h
  clear hz h
  go_enter Try.func16, Try.ntmps16
  go_wp2
  generalize w.alloc (.cells (rowP f 0 n) 45) = w1 at H0 B0 ⊢
  go_loopw [4] (fun i wr => ∃ k : Nat, k ≤ n ∧ i = .int .i64 k ∧ wr.heap[w.heap.size]? = some (.cells (rowP f k n) 45 (0, 0)) ∧ Below w.heap.size w wr) (fun i _ => n - (intOf i).toNat)
  case atStart => exact ⟨0, Nat.zero_le _, rfl, H0.out, B0.out⟩
  case round =>
    obtain ⟨k, hk, rfl, h0, hB'⟩ := hrel
    have L0 := Lib.hid h0
    have LB := Lib.hid hB'
    clear h0 hB' H0 B0
    by_cases hlt : k < n
    · obtain ⟨g, off, rfl, hg, hc⟩ : ∃ g off, a = some ⟨g, off, none⟩ ∧ g < B ∧ ∀ j, j < 2 * n → w.cell? ⟨g, off + j, none⟩ = some (.int .i32 (f j)) := by
        rcases HP.out with h | h
        · omega
        · exact h
      have tk : (k : Int) < (n : Int) := by omega
      have g0 : wr.cell? ⟨g, off + k * 2, none⟩ = some (.int .i32 (f (k * 2))) := (LB.out.cell (p := ⟨g, off + k * 2, none⟩) (by show g < _; omega)).trans (hc _ (by omega))
      have g1 : wr.cell? ⟨g, off + k * 2 + 1, none⟩ = some (.int .i32 (f (k * 2 + 1))) := (LB.out.cell (p := ⟨g, off + k * 2 + 1, none⟩) (by show g < _; omega)).trans (hc (k * 2 + 1) (by omega))
      have HK := Lib.hid hlt
      have SET := Lib.hid (rowP_set f k n hlt)
      have LZ : Hid (w.heap.size < wr.heap.size) := Lib.hid (Array.getElem?_eq_some_iff.1 L0.out).1
      clear hc hlt hk hg
      generalize f (k * 2) = p at g0 SET
      generalize f (k * 2 + 1) = q at g1 SET
      go_wp2_with fail
      refine (toPt_any2 p q wr).mono ?_
      rintro e w2 ⟨rfl, b2⟩
      have M0 := Lib.hid ((b2.block _ LZ.out).trans L0.out)
      have MB2 := Lib.hid (LB.out.trans (b2.mono (Nat.le_of_lt LZ.out)))
      have m0 : ∃ u, w2.cell? ⟨w.heap.size, k * 2, none⟩ = some u := ⟨_, (Lib.cell_of_heap M0.out (k * 2)).trans (rowP_get _ _ _ _ (by have := HK.out; omega))⟩
      have m1 : ∃ u, w2.cell? ⟨w.heap.size, k * 2 + 1, none⟩ = some u := ⟨_, (Lib.cell_of_heap M0.out (k * 2 + 1)).trans (rowP_get _ _ _ _ (by have := HK.out; omega))⟩
      obtain ⟨u0, m0⟩ := m0
      obtain ⟨u1, m1⟩ := m1
      have f0 : w2.frozen? ⟨w.heap.size, k * 2, none⟩ = false := Lib.frozen_of_heap M0.out _
      have f1 : w2.frozen? ⟨w.heap.size, k * 2 + 1, none⟩ = false := Lib.frozen_of_heap M0.out _
      clear b2 g0 g1 L0 LB
      go_wp2
      go_roundw
      case rel => exact ⟨k + 1, HK.out, by go_num, by rw [← SET.out]; exact mset_at (mset_at M0.out _ _) _ _, (MB2.out.setCell (p := ⟨w.heap.size, k * 2, none⟩) (Nat.le_refl _) _).setCell (p := ⟨w.heap.size, k * 2 + 1, none⟩) (Nat.le_refl _) _⟩
      case measure => have := HK.out; simp [intOf]; omega
    · obtain rfl : k = n := by omega
      have hD : PtR (w.heap.size + 1) wr (some ⟨w.heap.size, 0, none⟩) k f := .inr ⟨_, 0, rfl, Nat.lt_succ_self _, fun j hj => by
        rw [Nat.zero_add, Lib.cell_of_heap L0.out j, rowP_get _ _ _ _ hj, if_pos hj]⟩
      have LZ : Hid (w.heap.size < wr.heap.size) := Lib.hid (Array.getElem?_eq_some_iff.1 L0.out).1
      have HDD := Lib.hid hD
      clear hD
      go_wp2
      go_ret
      exact ⟨rfl, HDD.out, LB.out, LZ.out⟩
end Go.Proofs.Ythfmkejdpflpcaa
/-
  THE LAW's COMPARISON of two slices of blocks.
-/
namespace Go.Proofs.Ythfmkejdpflpcaa
open Go.ChangeShapes Go.WideShapes Go.ChangeAt Go.RowKit
set_option maxRecDepth 20000 in
set_option maxHeartbeats 8000000 in
theorem eqBS_any (a1 a2 : Option Addr) (n c1 c2 : Nat) (f : Nat → Int) (B : Nat) (w : World) (hB : B ≤ w.heap.size) (hn : n ≤ 1048576) (h1 : BlR B w a1 n f) (h2 : BlR B w a2 n f) :
    Calls Try.prog 18 #[.slice a1 n c1, .slice a2 n c2] w fun e w' => e = .returned (.bool true) ∧ Below w.heap.size w w' := by
  have hl' : (n : Int) ≤ 1048576 := by omega
  have HP1 := Lib.hid h1
  have HP2 := Lib.hid h2
  clear h1 h2
  go_enter Try.func18, Try.ntmps18
  go_wp2
  go_loopw [5] (fun i wr => ∃ k : Nat, k ≤ n ∧ i = .int .i64 k ∧ Below w.heap.size w wr) (fun i _ => n - (intOf i).toNat)
  case atStart => exact ⟨0, Nat.zero_le _, rfl, Below.refl _ _⟩
  case round =>
    obtain ⟨k, hk, rfl, hb⟩ := hrel
    have HB := Lib.hid hb
    clear hb
    by_cases hlt : k < n
    · obtain ⟨g1, o1, rfl, hg1, hc1⟩ : ∃ g off, a1 = some ⟨g, off, none⟩ ∧ g < B ∧ ∀ j, j < 18 * n → w.cell? ⟨g, off + j, none⟩ = some (bcell f j) := by
        rcases HP1.out with h | h
        · omega
        · exact h
      obtain ⟨g2, o2, rfl, hg2, hc2⟩ : ∃ g off, a2 = some ⟨g, off, none⟩ ∧ g < B ∧ ∀ j, j < 18 * n → w.cell? ⟨g, off + j, none⟩ = some (bcell f j) := by
        rcases HP2.out with h | h
        · omega
        · exact h
      have tk : (k : Int) < (n : Int) := by omega
      have GC1 : Hid (∀ W, Below wr.heap.size wr W → ∀ j v, (blk f k)[j]? = some v → W.cell? ⟨g1, o1 + k * 18 + j, none⟩ = some v) := Lib.hid fun W hW j v e => by
        have hj : j < 18 := by
          rcases Nat.lt_or_ge j 18 with h | h
          · exact h
          · rw [Array.getElem?_eq_none (by rw [blk_size]; exact h)] at e; cases e
        have hs := HB.out.size
        rw [hW.cell (p := ⟨g1, o1 + k * 18 + j, none⟩) (by show g1 < _; omega), HB.out.cell (p := ⟨g1, o1 + k * 18 + j, none⟩) (by show g1 < _; omega), Nat.add_assoc, hc1 (k * 18 + j) (by omega), ← blk_get f k j hj]
        exact e
      have GC2 : Hid (∀ W, Below wr.heap.size wr W → ∀ j v, (blk f k)[j]? = some v → W.cell? ⟨g2, o2 + k * 18 + j, none⟩ = some v) := Lib.hid fun W hW j v e => by
        have hj : j < 18 := by
          rcases Nat.lt_or_ge j 18 with h | h
          · exact h
          · rw [Array.getElem?_eq_none (by rw [blk_size]; exact h)] at e; cases e
        have hs := HB.out.size
        rw [hW.cell (p := ⟨g2, o2 + k * 18 + j, none⟩) (by show g2 < _; omega), HB.out.cell (p := ⟨g2, o2 + k * 18 + j, none⟩) (by show g2 < _; omega), Nat.add_assoc, hc2 (k * 18 + j) (by omega), ← blk_get f k j hj]
        exact e
      have HK := Lib.hid hlt
      have TB : Hid (∀ w, Calls Try.prog 59 #[.agg (blk f k), .agg (blk f k)] w fun e w' => e = .returned (.bool true) ∧ Below w.heap.size w w') := Lib.hid (eqBl_same _ _ _)
      have B18 := Lib.hid (blk_size f k)
      clear hc1 hc2 hlt hk hg1 hg2 HP1 HP2
      generalize blk f k = A at GC1 GC2 TB B18
      go_wp2
      refine wp_region_inv (by kernel_rfl) (fun listed act W => listed.size = 10 ∧ Below wr.heap.size wr W ∧ ∃ x0 x1 x2 x3 x4 x5 x6 x7 x8 x9, act = { tmps := #[.slice (some ⟨g1, o1, none⟩) n c1, .slice (some ⟨g2, o2, none⟩) n c2, undef, undef, u4, .int .i64 (k : Int), .slice (some ⟨g1, o1, none⟩) n c1, .int .i64 (n : Int), .slice (some ⟨g2, o2, none⟩) n c2, .int .i64 (n : Int), .bool false, .int .i64 (k : Int), .slice (some ⟨g1, o1, none⟩) n c1, .int .i64 (n : Int), .bool true, u15, u16, x0, x1, x2, x3, x4, x5, x6, x7, x8, x9], defers := [] } ∧ (listed.getD 0 false = true → x0 = .slice (some ⟨g1, o1, none⟩) n c1) ∧ (listed.getD 1 false = true → x1 = .int .i64 (k : Int)) ∧ (listed.getD 2 false = true → x2 = .pointer (some ⟨g1, o1 + k * 18, none⟩)) ∧ (listed.getD 3 false = true → x3 = .agg A) ∧ (listed.getD 4 false = true → x4 = .slice (some ⟨g2, o2, none⟩) n c2) ∧ (listed.getD 5 false = true → x5 = .int .i64 (k : Int)) ∧ (listed.getD 6 false = true → x6 = .pointer (some ⟨g2, o2 + k * 18, none⟩)) ∧ (listed.getD 7 false = true → x7 = .agg A) ∧ (listed.getD 8 false = true → x8 = .bool true) ∧ (listed.getD 9 false = true → x9 = .bool false)) (by kernel_rfl) ?h01 (fun _ _ _ h => h.1) ?hstep1 ?hend1
      case h01 =>
        refine ⟨rfl, (Below.refl _ _).drew, _, _, _, _, _, _, _, _, _, _, rfl, ?_, ?_, ?_, ?_, ?_, ?_, ?_, ?_, ?_, ?_⟩ <;> (intro h; exact absurd h (by decide))
      case hstep1 =>
        rintro listed act W i o ⟨hs, hB, x0, x1, x2, x3, x4, x5, x6, x7, x8, x9, rfl, e0, e1, e2, e3, e4, e5, e6, e7, e8, e9⟩ hun hio hpre
        have HB := Lib.hid hB
        have E0 := Lib.hid e0
        have E1 := Lib.hid e1
        have E2 := Lib.hid e2
        have E3 := Lib.hid e3
        have E4 := Lib.hid e4
        have E5 := Lib.hid e5
        have E6 := Lib.hid e6
        have E7 := Lib.hid e7
        have E8 := Lib.hid e8
        have E9 := Lib.hid e9
        have HS := Lib.hid hs
        have HU := Lib.hid hun
        have PRE := Lib.hid hpre
        clear e0 e1 e2 e3 e4 e5 e6 e7 e8 e9 hs hpre hB hun
        match i, hio with
        | 0, hio =>
          clear hio
          refine wpOp_by rfl fun K HK => ?_
          go_wp2_with (fail)
          exact HK.out _ _ ⟨by rw [Array.size_setIfInBounds, HS.out], HB.out, _, _, _, _, _, _, _, _, _, _, rfl, fun _ => rfl, fun h => E1.out ((listed_set h).resolve_left (by decide)), fun h => E2.out ((listed_set h).resolve_left (by decide)), fun h => E3.out ((listed_set h).resolve_left (by decide)), fun h => E4.out ((listed_set h).resolve_left (by decide)), fun h => E5.out ((listed_set h).resolve_left (by decide)), fun h => E6.out ((listed_set h).resolve_left (by decide)), fun h => E7.out ((listed_set h).resolve_left (by decide)), fun h => E8.out ((listed_set h).resolve_left (by decide)), fun h => E9.out ((listed_set h).resolve_left (by decide))⟩
        | 1, hio =>
          clear hio
          refine wpOp_by rfl fun K HK => ?_
          go_wp2_with (fail)
          exact HK.out _ _ ⟨by rw [Array.size_setIfInBounds, HS.out], HB.out, _, _, _, _, _, _, _, _, _, _, rfl, fun h => E0.out ((listed_set h).resolve_left (by decide)), fun _ => rfl, fun h => E2.out ((listed_set h).resolve_left (by decide)), fun h => E3.out ((listed_set h).resolve_left (by decide)), fun h => E4.out ((listed_set h).resolve_left (by decide)), fun h => E5.out ((listed_set h).resolve_left (by decide)), fun h => E6.out ((listed_set h).resolve_left (by decide)), fun h => E7.out ((listed_set h).resolve_left (by decide)), fun h => E8.out ((listed_set h).resolve_left (by decide)), fun h => E9.out ((listed_set h).resolve_left (by decide))⟩
        | 2, hio =>
          simp only [List.getElem?_toArray, List.getElem?_cons_succ, List.getElem?_cons_zero, Option.some.injEq] at hio
          subst hio
          have p0 := PRE.out ⟨0, .data⟩ (by simp) rfl
          have p1 := PRE.out ⟨1, .data⟩ (by simp) rfl
          obtain rfl := E0.out p0
          obtain rfl := E1.out p1
          refine wpOp_by rfl fun K HK => ?_
          go_wp2_with (fail)
          exact HK.out _ _ ⟨by rw [Array.size_setIfInBounds, HS.out], HB.out, _, _, _, _, _, _, _, _, _, _, rfl, fun _ => rfl, fun _ => rfl, fun _ => rfl, fun h => E3.out ((listed_set h).resolve_left (by decide)), fun h => E4.out ((listed_set h).resolve_left (by decide)), fun h => E5.out ((listed_set h).resolve_left (by decide)), fun h => E6.out ((listed_set h).resolve_left (by decide)), fun h => E7.out ((listed_set h).resolve_left (by decide)), fun h => E8.out ((listed_set h).resolve_left (by decide)), fun h => E9.out ((listed_set h).resolve_left (by decide))⟩
        | 3, hio =>
          simp only [List.getElem?_toArray, List.getElem?_cons_succ, List.getElem?_cons_zero, Option.some.injEq] at hio
          subst hio
          have p2 := PRE.out ⟨2, .data⟩ (by simp) rfl
          obtain rfl := E2.out p2
          refine wpOp_by rfl fun K HK => ?_
          go_wp2_with (refine wpList_load_part rfl 73 _ rfl g1 (o1 + k * 18) rfl A _ (fun j v e => GC1.out W HB.out j v e) Try.underlying73 rfl (ib_info _ B18.out) ?_)
          exact HK.out _ _ ⟨by rw [Array.size_setIfInBounds, HS.out], HB.out, _, _, _, _, _, _, _, _, _, _, rfl, fun h => E0.out ((listed_set h).resolve_left (by decide)), fun h => E1.out ((listed_set h).resolve_left (by decide)), fun _ => rfl, fun _ => rfl, fun h => E4.out ((listed_set h).resolve_left (by decide)), fun h => E5.out ((listed_set h).resolve_left (by decide)), fun h => E6.out ((listed_set h).resolve_left (by decide)), fun h => E7.out ((listed_set h).resolve_left (by decide)), fun h => E8.out ((listed_set h).resolve_left (by decide)), fun h => E9.out ((listed_set h).resolve_left (by decide))⟩
        | 4, hio =>
          clear hio
          refine wpOp_by rfl fun K HK => ?_
          go_wp2_with (fail)
          exact HK.out _ _ ⟨by rw [Array.size_setIfInBounds, HS.out], HB.out, _, _, _, _, _, _, _, _, _, _, rfl, fun h => E0.out ((listed_set h).resolve_left (by decide)), fun h => E1.out ((listed_set h).resolve_left (by decide)), fun h => E2.out ((listed_set h).resolve_left (by decide)), fun h => E3.out ((listed_set h).resolve_left (by decide)), fun _ => rfl, fun h => E5.out ((listed_set h).resolve_left (by decide)), fun h => E6.out ((listed_set h).resolve_left (by decide)), fun h => E7.out ((listed_set h).resolve_left (by decide)), fun h => E8.out ((listed_set h).resolve_left (by decide)), fun h => E9.out ((listed_set h).resolve_left (by decide))⟩
        | 5, hio =>
          clear hio
          refine wpOp_by rfl fun K HK => ?_
          go_wp2_with (fail)
          exact HK.out _ _ ⟨by rw [Array.size_setIfInBounds, HS.out], HB.out, _, _, _, _, _, _, _, _, _, _, rfl, fun h => E0.out ((listed_set h).resolve_left (by decide)), fun h => E1.out ((listed_set h).resolve_left (by decide)), fun h => E2.out ((listed_set h).resolve_left (by decide)), fun h => E3.out ((listed_set h).resolve_left (by decide)), fun h => E4.out ((listed_set h).resolve_left (by decide)), fun _ => rfl, fun h => E6.out ((listed_set h).resolve_left (by decide)), fun h => E7.out ((listed_set h).resolve_left (by decide)), fun h => E8.out ((listed_set h).resolve_left (by decide)), fun h => E9.out ((listed_set h).resolve_left (by decide))⟩
        | 6, hio =>
          simp only [List.getElem?_toArray, List.getElem?_cons_succ, List.getElem?_cons_zero, Option.some.injEq] at hio
          subst hio
          have p4 := PRE.out ⟨4, .data⟩ (by simp) rfl
          have p5 := PRE.out ⟨5, .data⟩ (by simp) rfl
          obtain rfl := E4.out p4
          obtain rfl := E5.out p5
          refine wpOp_by rfl fun K HK => ?_
          go_wp2_with (fail)
          exact HK.out _ _ ⟨by rw [Array.size_setIfInBounds, HS.out], HB.out, _, _, _, _, _, _, _, _, _, _, rfl, fun h => E0.out ((listed_set h).resolve_left (by decide)), fun h => E1.out ((listed_set h).resolve_left (by decide)), fun h => E2.out ((listed_set h).resolve_left (by decide)), fun h => E3.out ((listed_set h).resolve_left (by decide)), fun _ => rfl, fun _ => rfl, fun _ => rfl, fun h => E7.out ((listed_set h).resolve_left (by decide)), fun h => E8.out ((listed_set h).resolve_left (by decide)), fun h => E9.out ((listed_set h).resolve_left (by decide))⟩
        | 7, hio =>
          simp only [List.getElem?_toArray, List.getElem?_cons_succ, List.getElem?_cons_zero, Option.some.injEq] at hio
          subst hio
          have p6 := PRE.out ⟨6, .data⟩ (by simp) rfl
          obtain rfl := E6.out p6
          refine wpOp_by rfl fun K HK => ?_
          go_wp2_with (refine wpList_load_part rfl 73 _ rfl g2 (o2 + k * 18) rfl A _ (fun j v e => GC2.out W HB.out j v e) Try.underlying73 rfl (ib_info _ B18.out) ?_)
          exact HK.out _ _ ⟨by rw [Array.size_setIfInBounds, HS.out], HB.out, _, _, _, _, _, _, _, _, _, _, rfl, fun h => E0.out ((listed_set h).resolve_left (by decide)), fun h => E1.out ((listed_set h).resolve_left (by decide)), fun h => E2.out ((listed_set h).resolve_left (by decide)), fun h => E3.out ((listed_set h).resolve_left (by decide)), fun h => E4.out ((listed_set h).resolve_left (by decide)), fun h => E5.out ((listed_set h).resolve_left (by decide)), fun _ => rfl, fun _ => rfl, fun h => E8.out ((listed_set h).resolve_left (by decide)), fun h => E9.out ((listed_set h).resolve_left (by decide))⟩
        | 8, hio =>
          simp only [List.getElem?_toArray, List.getElem?_cons_succ, List.getElem?_cons_zero, Option.some.injEq] at hio
          subst hio
          have p3 := PRE.out ⟨3, .data⟩ (by simp) rfl
          have p7 := PRE.out ⟨7, .data⟩ (by simp) rfl
          obtain rfl := E3.out p3
          obtain rfl := E7.out p7
          refine wpOp_by rfl fun K HK => ?_
          go_wp2_with fail
          refine (TB.out _).mono ?_
          rintro e W' ⟨rfl, hb⟩
          go_wp2
          exact HK.out _ _ ⟨by rw [Array.size_setIfInBounds, HS.out], HB.out.trans (hb.mono HB.out.size), _, _, _, _, _, _, _, _, _, _, rfl, fun h => E0.out ((listed_set h).resolve_left (by decide)), fun h => E1.out ((listed_set h).resolve_left (by decide)), fun h => E2.out ((listed_set h).resolve_left (by decide)), fun _ => rfl, fun h => E4.out ((listed_set h).resolve_left (by decide)), fun h => E5.out ((listed_set h).resolve_left (by decide)), fun h => E6.out ((listed_set h).resolve_left (by decide)), fun _ => rfl, fun _ => rfl, fun h => E9.out ((listed_set h).resolve_left (by decide))⟩
        | 9, hio =>
          simp only [List.getElem?_toArray, List.getElem?_cons_succ, List.getElem?_cons_zero, Option.some.injEq] at hio
          subst hio
          have p8 := PRE.out ⟨8, .data⟩ (by simp) rfl
          obtain rfl := E8.out p8
          refine wpOp_by rfl fun K HK => ?_
          go_wp2_with (fail)
          exact HK.out _ _ ⟨by rw [Array.size_setIfInBounds, HS.out], HB.out, _, _, _, _, _, _, _, _, _, _, rfl, fun h => E0.out ((listed_set h).resolve_left (by decide)), fun h => E1.out ((listed_set h).resolve_left (by decide)), fun h => E2.out ((listed_set h).resolve_left (by decide)), fun h => E3.out ((listed_set h).resolve_left (by decide)), fun h => E4.out ((listed_set h).resolve_left (by decide)), fun h => E5.out ((listed_set h).resolve_left (by decide)), fun h => E6.out ((listed_set h).resolve_left (by decide)), fun h => E7.out ((listed_set h).resolve_left (by decide)), fun _ => rfl, fun _ => rfl⟩
        | k + 10, hio => simp at hio
      case hend1 =>
        rintro listed act W1 ⟨hs, hB, x0, x1, x2, x3, x4, x5, x6, x7, x8, x9, rfl, e0, e1, e2, e3, e4, e5, e6, e7, e8, e9⟩ hall
        obtain rfl := e0 (hall 0 (by decide))
        obtain rfl := e1 (hall 1 (by decide))
        obtain rfl := e2 (hall 2 (by decide))
        obtain rfl := e3 (hall 3 (by decide))
        obtain rfl := e4 (hall 4 (by decide))
        obtain rfl := e5 (hall 5 (by decide))
        obtain rfl := e6 (hall 6 (by decide))
        obtain rfl := e7 (hall 7 (by decide))
        obtain rfl := e8 (hall 8 (by decide))
        obtain rfl := e9 (hall 9 (by decide))
        clear hs hall 
        have HB1 := Lib.hid (HB.out.trans (hB.mono HB.out.size))
        clear hB
        go_wp2
        go_roundw
        case rel => exact ⟨k + 1, HK.out, by go_num, HB1.out⟩
        case measure => have := HK.out; simp [intOf]; omega
    · obtain rfl : k = n := by omega
      go_wp2
      go_ret
      exact ⟨rfl, HB.out⟩
end Go.Proofs.Ythfmkejdpflpcaa
