/-
  CONTRACTS: masks by value: is a cell set, a cell set or not.
-/
import Derived.Test.YtkijgadkgfapgaaChecked
import Derived.Test.YtkijgadkgfapgaaMb
import Derived.Outline
import Derived.LoopTactic
import Derived.Deep.QuietTactic
import Derived.BigQuiet
import Derived.Laws.Rows
import Derived.Laws.ResultCell
import Derived.RegionTactic
import Derived.Lib.Builder
import Derived.Deep.OwnRows
import Derived.RangeFuncRecord
import Derived.BigRegion
import Derived.Shelf.Abstract
import Derived.TacticsInMore
import Derived.LoopIn
import Derived.StillTailTactics
import Derived.Laws.CopyOwn
namespace Go.Proofs.Ytkijgadkgfapgaa
open Go.ChangeShapes Go.WideShapes Go.ChangeAt Go.RowKit
theorem mret_bool {a b : Bool} (h : a = b) : Ending.returned (.bool a) = .returned (.bool b) := by rw [h]
theorem mret_int {k : IntKind} {a b : Int} (h : a = b) : Ending.returned (.int k a) = .returned (.int k b) := by rw [h]
abbrev M16 (f : Nat → Int) : Array Value := arr .u16 16 f
theorem mask_info (A : Array Value) (h : A.size = 16) : (Try.prog.info? 27).map (·.size) = some A.size := by rw [h]; kernel_rfl
theorem a16_info (A : Array Value) (h : A.size = 16) : (Try.prog.info? 23).map (·.size) = some A.size := by rw [h]; kernel_rfl
theorem mset_at {w : World} {g : Nat} {A : Array Value} {t : TypeId} (h : w.heap[g]? = some (.cells A t (0, 0))) (x : Nat) (v : Value) : (w.setCell ⟨g, x, none⟩ v).heap[g]? = some (.cells (A.setIfInBounds x v) t (0, 0)) := by
  simp [World.setCell, Array.getElem?_modify, h]
theorem mset_far {w : World} {g k x : Nat} (h : k ≠ g) (v : Value) : (w.setCell ⟨g, x, none⟩ v).heap[k]? = w.heap[k]? := Below.heap_setCell _ _ _ _ h
theorem mbelow_setRow {w W : World} {B g : Nat} {A : Array Value} (h : Below B w W) (hg : B ≤ g) : Below B w (W.setRow g A) := below_setRow h hg _
theorem shl1 {x : Nat} (h : x < 16) : IntKind.u16.wrap (2 ^ x) = 2 ^ x := by rw [IntKind.wrap_u16, pow16 h]
/-- are a column and a row those of a cell of a mask? -/
def inB (x y : Int) : Bool := decide (0 ≤ x) && decide (x < 16) && decide (0 ≤ y) && decide (y < 16)
theorem inB_nat {x y : Int} (h : inB x y = true) : ∃ a b : Nat, x = a ∧ y = b ∧ a < 16 ∧ b < 16 := by
  simp [inB] at h
  exact ⟨x.toNat, y.toNat, by omega, by omega, by omega, by omega⟩
set_option maxRecDepth 20000 in
theorem mhas_any (f : Nat → Int) (hf : MB f) (x y : Nat) (hx : x < 16) (hy : y < 16) (w : World) :
    Calls Try.prog 179 #[.agg (M16 f), .int .i64 (x : Int), .int .i64 (y : Int)] w fun e w' => e = .returned (.bool (hasF f x y)) ∧ w' = w.alloc (.cells (M16 f) 27) := by
  have hv := hf y hy
  have HS : Hid (bits .and .u16 (f y / 2 ^ x) 1 = if (f y).toNat.testBit x then 1 else 0) := Lib.hid (shr_bit hv x)
  obtain ⟨v0, v1⟩ := hv
  have hc : (w.alloc (.cells (M16 f) 27)).cell? ⟨w.heap.size, y, none⟩ = some (.int .u16 (f y)) := (Lib.cell_of_heap (World.alloc_heap_new w _) y).trans (arr_get _ _ _ _ hy)
  have hx' : (x : Int) ≤ 16 := by omega
  have hy' : (y : Int) < 16 := by omega
  clear hf
  unfold hasF
  generalize f y = v at hc v0 v1 HS ⊢
  go_enter Try.func179, Try.ntmps179
  go_wp2
  go_ret
  exact ⟨mret_bool (by rw [HS.out]; cases v.toNat.testBit x <;> rfl), rfl⟩
end Go.Proofs.Ytkijgadkgfapgaa
