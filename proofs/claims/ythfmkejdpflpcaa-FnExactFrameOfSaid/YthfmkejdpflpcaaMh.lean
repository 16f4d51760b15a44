/-
  CONTRACTS: masks by value: is a cell set, a cell set or not.
-/
import Derived.Test.YthfmkejdpflpcaaChecked
import Derived.Test.YthfmkejdpflpcaaMb
import Derived.Outline
import Derived.LoopTactic
import Derived.Deep.QuietTactic
import Derived.BigQuiet
import Derived.Laws.Rows
import Derived.Laws.ResultCell
import Derived.RegionTactic
import Derived.Lib.Builder
import Derived.Deep.OwnRows
import Derived.RangeFuncRecord
import Derived.BigRegion
import Derived.Shelf.Abstract
import Derived.TacticsInMore
import Derived.LoopIn
import Derived.StillTailTactics
import Derived.Laws.CopyOwn
namespace Go.Proofs.Ythfmkejdpflpcaa
open Go.ChangeShapes Go.WideShapes Go.ChangeAt Go.RowKit
theorem mret_bool {a b : Bool} (h : a = b) : Ending.returned (.bool a) = .returned (.bool b) := by rw [h]
theorem mret_int {k : IntKind} {a b : Int} (h : a = b) : Ending.returned (.int k a) = .returned (.int k b) := by rw [h]
abbrev M16 (f : Nat → Int) : Array Value := arr .u16 16 f
theorem mask_info (A : Array Value) (h : A.size = 16) : (Try.prog.info? 71).map (·.size) = some A.size := by rw [h]; kernel_rfl
theorem a16_info (A : Array Value) (h : A.size = 16) : (Try.prog.info? 70).map (·.size) = some A.size := by rw [h]; kernel_rfl
theorem mset_at {w : World} {g : Nat} {A : Array Value} {t : TypeId} (h : w.heap[g]? = some (.cells A t (0, 0))) (x : Nat) (v : Value) : (w.setCell ⟨g, x, none⟩ v).heap[g]? = some (.cells (A.setIfInBounds x v) t (0, 0)) := by
  simp [World.setCell, Array.getElem?_modify, h]
theorem mset_far {w : World} {g k x : Nat} (h : k ≠ g) (v : Value) : (w.setCell ⟨g, x, none⟩ v).heap[k]? = w.heap[k]? := Below.heap_setCell _ _ _ _ h
theorem mbelow_setRow {w W : World} {B g : Nat} {A : Array Value} (h : Below B w W) (hg : B ≤ g) : Below B w (W.setRow g A) := below_setRow h hg _
theorem shl1 {x : Nat} (h : x < 16) : IntKind.u16.wrap (2 ^ x) = 2 ^ x := by rw [IntKind.wrap_u16, pow16 h]
/-- are a column and a row those of a cell of a mask? -/
def inB (x y : Int) : Bool := decide (0 ≤ x) && decide (x < 16) && decide (0 ≤ y) && decide (y < 16)
theorem inB_nat {x y : Int} (h : inB x y = true) : ∃ a b : Nat, x = a ∧ y = b ∧ a < 16 ∧ b < 16 := by
  simp [inB] at h
  exact ⟨x.toNat, y.toNat, by omega, by omega, by omega, by omega⟩
set_option maxRecDepth 20000 in
theorem mhas_any (f : Nat → Int) (hf : MB f) (x y : Nat) (hx : x < 16) (hy : y < 16) (w : World) :
    Calls Try.prog 114 #[.agg (M16 f), .int .i64 (x : Int), .int .i64 (y : Int)] w fun e w' => e = .returned (.bool (hasF f x y)) ∧ w' = w.alloc (.cells (M16 f) 71) := by
  have hv := hf y hy
  have HS : Hid (bits .and .u16 (f y / 2 ^ x) 1 = if (f y).toNat.testBit x then 1 else 0) := Lib.hid (shr_bit hv x)
  obtain ⟨v0, v1⟩ := hv
  have hc : (w.alloc (.cells (M16 f) 71)).cell? ⟨w.heap.size, y, none⟩ = some (.int .u16 (f y)) := (Lib.cell_of_heap (World.alloc_heap_new w _) y).trans (arr_get _ _ _ _ hy)
  have hx' : (x : Int) ≤ 16 := by omega
  have hy' : (y : Int) < 16 := by omega
  clear hf
  unfold hasF
  generalize f y = v at hc v0 v1 HS ⊢
  go_enter Try.func114, Try.ntmps114
  go_wp2
  go_ret
  exact ⟨mret_bool (by rw [HS.out]; cases v.toNat.testBit x <;> rfl), rfl⟩
set_option maxRecDepth 100000 in
set_option maxHeartbeats 4000000 in
theorem mwith_any (f : Nat → Int) (hf : MB f) (x y : Nat) (hx : x < 16) (hy : y < 16) (on : Bool) (w : World) :
    Calls Try.prog 132 #[.agg (M16 f), .int .i64 (x : Int), .int .i64 (y : Int), .bool on] w fun e w' => e = .returned (.agg (M16 (withF f x y on))) ∧ Below w.heap.size w w' := by
  have Z : M16 zI = #[Value.int .u16 0, Value.int .u16 0, Value.int .u16 0, Value.int .u16 0, Value.int .u16 0, Value.int .u16 0, Value.int .u16 0, Value.int .u16 0, Value.int .u16 0, Value.int .u16 0, Value.int .u16 0, Value.int .u16 0, Value.int .u16 0, Value.int .u16 0, Value.int .u16 0, Value.int .u16 0] := rfl
  have S1 : ((w.alloc (.cells (M16 f) 71)).alloc (.cells (M16 zI) 71)).heap[w.heap.size + 1]? = some (.cells (M16 zI) 71 (0, 0)) := by
    have := World.alloc_heap_new (w.alloc (.cells (M16 f) 71)) (.cells (M16 zI) 71)
    rw [World.size_alloc] at this
    exact this
  have S0 : ((w.alloc (.cells (M16 f) 71)).alloc (.cells (M16 zI) 71)).heap[w.heap.size]? = some (.cells (M16 f) 71 (0, 0)) := (Below.heap_alloc _ _ _ (by simp)).trans (World.alloc_heap_new w _)
  have SB : Below w.heap.size w ((w.alloc (.cells (M16 f) 71)).alloc (.cells (M16 zI) 71)) := ((Below.refl _ w).alloc (Nat.le_refl _) _).alloc (by simp) _
  have H1 := Lib.hid S1
  have H0 := Lib.hid S0
  have HB := Lib.hid SB
  clear S1 S0 SB
  rw [Z] at H1 H0 HB
  clear Z
  have hx' : (x : Int) ≤ 16 := by omega
  have hy' : (y : Int) < 16 := by omega
  have W1 := shl1 hx
  have F1 : Hid (offB (f y) x = offF f x y y) := Lib.hid (by unfold offF updI; rw [if_pos rfl])
  have hcy : ((w.alloc (.cells (M16 f) 71)).alloc (.cells #[Value.int .u16 0, Value.int .u16 0, Value.int .u16 0, Value.int .u16 0, Value.int .u16 0, Value.int .u16 0, Value.int .u16 0, Value.int .u16 0, Value.int .u16 0, Value.int .u16 0, Value.int .u16 0, Value.int .u16 0, Value.int .u16 0, Value.int .u16 0, Value.int .u16 0, Value.int .u16 0] 71)).cell? ⟨w.heap.size, y, none⟩ = some (.int .u16 (f y)) := (Lib.cell_of_heap H0.out y).trans (arr_get _ _ _ _ hy)
  have hfy : ((w.alloc (.cells (M16 f) 71)).alloc (.cells #[Value.int .u16 0, Value.int .u16 0, Value.int .u16 0, Value.int .u16 0, Value.int .u16 0, Value.int .u16 0, Value.int .u16 0, Value.int .u16 0, Value.int .u16 0, Value.int .u16 0, Value.int .u16 0, Value.int .u16 0, Value.int .u16 0, Value.int .u16 0, Value.int .u16 0, Value.int .u16 0] 71)).frozen? ⟨w.heap.size, y, none⟩ = false := Lib.frozen_of_heap H0.out y
  clear hf
  have HY := Lib.hid hy
  cases on
  all_goals
    go_enter Try.func132, Try.ntmps132
    go_wp2
    generalize (w.alloc (.cells (M16 f) 71)).alloc (.cells #[Value.int .u16 0, Value.int .u16 0, Value.int .u16 0, Value.int .u16 0, Value.int .u16 0, Value.int .u16 0, Value.int .u16 0, Value.int .u16 0, Value.int .u16 0, Value.int .u16 0, Value.int .u16 0, Value.int .u16 0, Value.int .u16 0, Value.int .u16 0, Value.int .u16 0, Value.int .u16 0] 71) = w1 at H1 H0 HB hcy hfy ⊢
    go_still_tail 7, (by kernel_rfl)
    change wpList _ _ _ _ _ w1.drew
    obtain ⟨W2, hW2⟩ : ∃ W2, w1.drew.setCell ⟨w.heap.size, y, none⟩ (.int .u16 (offB (f y) x)) = W2 := ⟨_, rfl⟩
    have hW2' : w1.drew.setCell ⟨w.heap.size, y, none⟩ (.int .u16 (bits .andNot .u16 (f y) (2 ^ x))) = W2 := hW2
    have K1 : Hid (W2.heap[w.heap.size + 1]? = some (.cells #[Value.int .u16 0, Value.int .u16 0, Value.int .u16 0, Value.int .u16 0, Value.int .u16 0, Value.int .u16 0, Value.int .u16 0, Value.int .u16 0, Value.int .u16 0, Value.int .u16 0, Value.int .u16 0, Value.int .u16 0, Value.int .u16 0, Value.int .u16 0, Value.int .u16 0, Value.int .u16 0] 71 (0, 0))) := Lib.hid (by rw [← hW2, mset_far (by omega)]; exact H1.out)
    have K0 : Hid (W2.heap[w.heap.size]? = some (.cells (M16 (offF f x y)) 71 (0, 0))) := Lib.hid (by rw [← hW2, mset_at (w := w1.drew) H0.out, arr_set _ _ _ _ _ HY.out]; rfl)
    have KB : Hid (Below w.heap.size w W2) := Lib.hid (by rw [← hW2]; exact HB.out.drew.setCell (p := ⟨w.heap.size, y, none⟩) (by simp) _)
    have hc2 : W2.cell? ⟨w.heap.size, y, none⟩ = some (.int .u16 (offF f x y y)) := (Lib.cell_of_heap K0.out y).trans (arr_get _ _ _ _ HY.out)
    have hf2 : W2.frozen? ⟨w.heap.size, y, none⟩ = false := Lib.frozen_of_heap K0.out y
    clear hW2
  · go_wp2_with (first | (refine wpList_load_row rfl 71 _ rfl w.heap.size rfl 71 _ _ _ K0.out Try.underlying71 rfl (mask_info _ (arr_size _ _ _)) ?_) | (refine wpList_store_row rfl 71 _ _ rfl (w.heap.size + 1) (M16 (offF f x y)) rfl rfl 71 _ K1.out (mask_info _ rfl) rfl (arr_cells _ _ _) ?_))
    refine bodyPost_ret (v := .agg (M16 (offF f x y))) ?_ rfl ⟨rfl, ?_⟩
    · exact results_cell_row Try.results132 _ _ (w.heap.size + 1) _ _ _ _ rfl (setRow_heap _ _ _ _ _ _ K1.out) Try.underlying71 rfl (mask_info _ (arr_size _ _ _))
    · exact below_setRow KB.out (by omega) _
  · go_wp2_with fail
    go_still_tail 7, (by kernel_rfl)
    change wpList _ _ _ _ _ W2.drew
    obtain ⟨W3, hW3⟩ : ∃ W3, W2.drew.setCell ⟨w.heap.size, y, none⟩ (.int .u16 (orB (offF f x y y) x)) = W3 := ⟨_, rfl⟩
    have hW3' : W2.drew.setCell ⟨w.heap.size, y, none⟩ (.int .u16 (bits .or .u16 (offF f x y y) (2 ^ x))) = W3 := hW3
    have L1 : Hid (W3.heap[w.heap.size + 1]? = some (.cells #[Value.int .u16 0, Value.int .u16 0, Value.int .u16 0, Value.int .u16 0, Value.int .u16 0, Value.int .u16 0, Value.int .u16 0, Value.int .u16 0, Value.int .u16 0, Value.int .u16 0, Value.int .u16 0, Value.int .u16 0, Value.int .u16 0, Value.int .u16 0, Value.int .u16 0, Value.int .u16 0] 71 (0, 0))) := Lib.hid (by rw [← hW3, mset_far (by omega)]; exact K1.out)
    have L0 : Hid (W3.heap[w.heap.size]? = some (.cells (M16 (withF f x y true)) 71 (0, 0))) := Lib.hid (by rw [← hW3, mset_at (w := W2.drew) K0.out, arr_set _ _ _ _ _ HY.out]; rfl)
    have LB : Hid (Below w.heap.size w W3) := Lib.hid (by rw [← hW3]; exact KB.out.drew.setCell (p := ⟨w.heap.size, y, none⟩) (by simp) _)
    clear hW3
    go_wp2_with (first | (refine wpList_load_row rfl 71 _ rfl w.heap.size rfl 71 _ _ _ L0.out Try.underlying71 rfl (mask_info _ (arr_size _ _ _)) ?_) | (refine wpList_store_row rfl 71 _ _ rfl (w.heap.size + 1) (M16 (withF f x y true)) rfl rfl 71 _ L1.out (mask_info _ rfl) rfl (arr_cells _ _ _) ?_))
    refine bodyPost_ret (v := .agg (M16 (withF f x y true))) ?_ rfl ⟨rfl, ?_⟩
    · exact results_cell_row Try.results132 _ _ (w.heap.size + 1) _ _ _ _ rfl (setRow_heap _ _ _ _ _ _ L1.out) Try.underlying71 rfl (mask_info _ (arr_size _ _ _))
    · exact below_setRow LB.out (by omega) _
end Go.Proofs.Ythfmkejdpflpcaa
