/-
  CONTRACTS: SetCell on both sides.
-/
import Derived.Test.YtfnaddpohkbbnaaMi
namespace Go.Proofs.Ytfnaddpohkbbnaa
open Go.ChangeShapes Go.WideShapes Go.ChangeAt Go.RowKit
theorem results_cell_tmp_row {P : Program} {fn : Func} {p u : Tmp} {ty : TypeId} (h : fn.results = #[.cell p ty, .tmp u]) (tmps : Array Value) (w : World) (g : Nat) (t : TypeId) (cs : Array Value) (fr : Nat × Nat) (d : TypeDesc)
    (hp : tmps.getD p undef = .pointer (some ⟨g, 0, none⟩)) (hg : w.heap[g]? = some (.cells cs t fr))
    (hu : P.underlying ty = some d) (hd : (match d with | .struct _ | .array _ _ => true | _ => false) = true) (hi : (P.info? ty).map (·.size) = some cs.size) :
    (results fn tmps).run P w = .ok (.tuple #[.agg cs, tmps.getD u undef]) w := by
  rw [results_cell_tmp h, hp]
  simp [asAddr, run_loadVar_row w g t ty cs fr d hg hu hd hi]
/-- what SetCell answers -/
def scF (f : Nat → Int) (x y : Int) (on : Bool) : Nat → Int := if inB x y then withF f x.toNat y.toNat on else zI
def SetCellC (f : Nat → Int) (x y : Int) (on : Bool) : Int := if inB x y then 0 else 2
def SetCellPost (f : Nat → Int) (x y : Int) (on : Bool) (w : World) (e : Ending) (w' : World) : Prop := e = .returned (.tuple #[.agg (M16 (scF f x y on)), .int .i64 (SetCellC f x y on)]) ∧ Below w.heap.size w w'
end Go.Proofs.Ytfnaddpohkbbnaa
