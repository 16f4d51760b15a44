/-
  FRAMES AND PAYLOADS: arrays of bytes; how the laws copy and compare them.
-/
import Derived.Test.YtkijgadkgfapgaaDoorChecked
import Derived.Test.YtkijgadkgfapgaaDoorArr
import Derived.Outline
import Derived.LoopTactic
import Derived.Deep.QuietTactic
import Derived.BigQuiet
import Derived.Laws.Rows
import Derived.Laws.ResultCell
import Derived.RegionTactic
import Derived.Lib.Builder
import Derived.Deep.OwnRows
import Derived.RangeFuncRecord
import Derived.BigRegion
import Derived.Shelf.Abstract
import Derived.TacticsInMore
import Derived.LoopIn
import Derived.StillTailTactics
import Derived.Laws.CopyOwn
import Derived.Laws.BitsAllLaws
import Derived.Laws.Closers25b
namespace Go.Proofs.YtkijgadkgfapgaaDoor
open Go.ChangeShapes Go.WideShapes Go.ChangeAt Go.RowKit
/-- n bytes -/
def ByF (n : Nat) (f : Nat → Int) : Prop := ∀ j, j < n → 0 ≤ f j ∧ f j ≤ 255
abbrev Q16 (f : Nat → Int) : Array Value := arr .u8 16 f
abbrev Q12 (f : Nat → Int) : Array Value := arr .u8 12 f
theorem fr_info (A : Array Value) (h : A.size = 16) : (Tryd.prog.info? 47).map (·.size) = some A.size := by rw [h]; kernel_rfl
theorem f16_info (A : Array Value) (h : A.size = 16) : (Tryd.prog.info? 46).map (·.size) = some A.size := by rw [h]; kernel_rfl
theorem p12_info (A : Array Value) (h : A.size = 12) : (Tryd.prog.info? 53).map (·.size) = some A.size := by rw [h]; kernel_rfl
theorem fset_at {w : World} {g : Nat} {A : Array Value} {t : TypeId} (h : w.heap[g]? = some (.cells A t (0, 0))) (x : Nat) (v : Value) : (w.setCell ⟨g, x, none⟩ v).heap[g]? = some (.cells (A.setIfInBounds x v) t (0, 0)) := by
  simp [World.setCell, Array.getElem?_modify, h]
theorem fset_far {w : World} {g k x : Nat} (h : k ≠ g) (v : Value) : (w.setCell ⟨g, x, none⟩ v).heap[k]? = w.heap[k]? := Below.heap_setCell _ _ _ _ h
theorem fdrewN {B : Nat} {w w' : World} (h : Below B w w') (n : Nat) : Below B w (w'.drewN n) := h.trans ⟨rfl, rfl, rfl, Nat.le_refl _, fun _ _ => rfl⟩
theorem fret_bool {a b : Bool} (h : a = b) : Ending.returned (.bool a) = .returned (.bool b) := by rw [h]
theorem fret_int {k : IntKind} {a b : Int} (h : a = b) : Ending.returned (.int k a) = .returned (.int k b) := by rw [h]
end Go.Proofs.YtkijgadkgfapgaaDoor
