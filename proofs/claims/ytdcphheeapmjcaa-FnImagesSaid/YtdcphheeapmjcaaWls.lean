/-
  CONTRACTS: the specification's sums of letters.
-/
import Derived.Test.YtdcphheeapmjcaaGa
import Derived.Test.YtdcphheeapmjcaaArr
import Derived.Laws.Rows
import Derived.Lib.Builder
import Derived.Deep.OwnRows
import Derived.RangeFuncRecord
import Derived.Laws.CopyOwn
namespace Go.Proofs.Ytdcphheeapmjcaa
open Go.ChangeShapes Go.WideShapes Go.ChangeAt Go.RowKit
open Wd
/-- what a letter adds to a sum -/
def dlt (c : UInt8) (j : Nat) : Int := if (lnum c).toNat / 2 = j then (if lnum c % 2 = 0 then 1 else -1) else 0
/-- the sums of letters -/
def sumL (l : List UInt8) (j : Nat) : Int := l.foldl (fun s c => s + dlt c j) 0
theorem sumL_snoc (l : List UInt8) (c : UInt8) (j : Nat) : sumL (l ++ [c]) j = sumL l j + dlt c j := by simp [sumL, List.foldl_append]
theorem dlt_le (c : UInt8) (j : Nat) : -1 ≤ dlt c j ∧ dlt c j ≤ 1 := by unfold dlt; split <;> (try split) <;> omega
theorem sumL_le (l : List UInt8) (j : Nat) : -(l.length : Int) ≤ sumL l j ∧ sumL l j ≤ l.length := by
  have H : ∀ (l : List UInt8) (s : Int), -(l.length : Int) + s ≤ l.foldl (fun s c => s + dlt c j) s ∧ l.foldl (fun s c => s + dlt c j) s ≤ l.length + s := by
    intro l
    induction l with
    | nil => intro s; simp
    | cons c r ih =>
      intro s
      have h1 := ih (s + dlt c j)
      have h2 := dlt_le c j
      simp only [List.foldl_cons, List.length_cons]
      push_cast
      omega
  have := H l 0
  unfold sumL
  omega
abbrev A4 (l : List UInt8) : Array Value := #[.int .i64 (sumL l 0), .int .i64 (sumL l 1), .int .i64 (sumL l 2), .int .i64 (sumL l 3)]
theorem heap_setCell_at {w : World} {g : Nat} {A : Array Value} {t : TypeId} (h : w.heap[g]? = some (.cells A t (0, 0))) (x : Nat) (v : Value) : (w.setCell ⟨g, x, none⟩ v).heap[g]? = some (.cells (A.setIfInBounds x v) t (0, 0)) := by
  simp [World.setCell, Array.getElem?_modify, h]
theorem heap_setCell_far {w : World} {g k x : Nat} (h : k ≠ g) (v : Value) : (w.setCell ⟨g, x, none⟩ v).heap[k]? = w.heap[k]? := Below.heap_setCell _ _ _ _ h
theorem a4_info (A : Array Value) (h : A.size = 4) : (Try.prog.info? 54).map (·.size) = some A.size := by rw [h]; kernel_rfl
theorem a4_cells (l : List UInt8) : (A4 l).all (·.oneCell') = true := by simp [A4, Value.oneCell']
end Go.Proofs.Ytdcphheeapmjcaa
