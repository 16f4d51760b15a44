/-
  CLOSED FACTS OF THE PROGRAM AS A WHOLE, each reckoned once by the kernel.
-/
import Derived.Test.YthfmkejdpflpcaaRows
import Derived.JoinedOf
import Derived.ProofKit
namespace Go.Proofs.Ythfmkejdpflpcaa
theorem fact_own : ownKnob Try.prog.godebug = none := by kernel_rfl
theorem fact_laidOut : laidOutB Try.prog = true := by kernel_rfl
theorem fact_mapsRowed : mapsRowed Try.prog = true := by kernel_rfl
theorem fact_stops : Try.prog.stops = [] := by kernel_rfl
theorem fact_knobs : Try.prog.stopKnobs = [] := by kernel_rfl
theorem fact_plainKeys : Try.prog.plainKeys = false := by kernel_rfl
theorem fact_heard : Try.prog.stopsHeard = true := by kernel_rfl
theorem fact_enter : Try.prog.mayEnter = true := by kernel_rfl
theorem fact_lifts : Try.prog.liftsFinal = false := by kernel_rfl
theorem fact_make : Try.prog.make = some .cut := by kernel_rfl
theorem fact_vars (os : Os) (args : Array Value) : (World.plainHolding Try.checked.prog os ⟨#[], args, []⟩).variablesB Try.checked.prog = true := by kernel_rfl
theorem fact_heap (os : Os) (args : Array Value) : ((World.plainHolding Try.checked.prog os ⟨#[], args, []⟩).heap.toList.drop Try.checked.prog.globals.size).take ((begin Try.checked.prog (fun _ _ => 0) default).world.heap.size - Try.checked.prog.globals.size) =
      (begin Try.checked.prog (fun _ _ => 0) default).world.heap.toList.drop Try.checked.prog.globals.size := by kernel_rfl
end Go.Proofs.Ythfmkejdpflpcaa
