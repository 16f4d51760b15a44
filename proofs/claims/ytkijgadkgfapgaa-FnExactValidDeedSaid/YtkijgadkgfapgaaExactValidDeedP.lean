/-
  FnExactValidDeed: for every input the law returns true, and its arguments read as before. (The walk: YtkijgadkgfapgaaWExactValidDeed.)
  No condition.
-/
import Derived.Test.YtkijgadkgfapgaaRows
import Derived.Test.YtkijgadkgfapgaaFacts
import Derived.Test.YtkijgadkgfapgaaWExactValidDeed
import Derived.Lib.SmallJoins
import Derived.ShutString
import Derived.ChangeOld
import Derived.Below
namespace Go.Proofs.Ytkijgadkgfapgaa.fnExactValidDeed
open Go.ChangeShapes Go.WideShapes Go.ChangeAt Go.RowKit
open Go.ChangeMaps (open_string shut_string)
set_option linter.unusedVariables false

theorem own : ownKnob Try.prog.godebug = none := by kernel_rfl

set_option maxRecDepth 100000 in
theorem lifted (os : Os) (started : os.Started) (H : Type) (enc : TypeId × Value → H) :
    ReturnsInHanded {} Try.checked os 6 .any (Rows.fnExactValidDeedSpec.pre6 enc Try.prog Try.f6 Rows.fnExactValidDeedRow.domain false) (Rows.fnExactValidDeedSpec.post enc Try.prog Try.f6 false true false false) := by
  refine returnsInHanded_of_change (C := Try.checked) own started (by kernel_rfl) Try.func6
    (ChangeSpec.witness6 (enc := enc) (C := Try.checked) false ⟨#[], #[.agg #[.int .i64 0, .int .i64 0, .int .i64 0]], []⟩ 8 (by kernel_rfl) (by kernel_rfl) (by kernel_rfl) (by kernel_rfl)) ?_
  intro W base args ds gs before hval0 hW hcnd _
  have hval : ∀ (j : Nat) t v, Try.f6.params[j]? = some t → args[j]? = some v → Value.okWide Try.prog W .any base t v := hval0
  have hW' := hW
  obtain ⟨p, q, hA0, hV, rfl, hfz, hnd⟩ := hW
  have hA : DataW.TrodAll enc Try.prog W 0 (fun _ => true) true Try.f6.params.toList args.toList ds p := hA0
  rw [Try.params6] at hA hval
  obtain ⟨v0, vs0, d0, ds0, p0, q0, hargs, rfl, rfl, h0, r0⟩ := trodAll_cons hA
  obtain ⟨rfl, rfl, rfl⟩ := trodAll_nil r0
  obtain rfl : args = #[v0] := by cases args; simp_all
  obtain ⟨rfl, rfl⟩ := trodVars_none hV
  obtain ⟨cx0, cy0, cz0, yx0, yy0, yz0, mm0, rfl, rfl, rfl, hx0, hy0, hz0⟩ := Joins.open_agg3 Try.underlying38 (by kernel_rfl) (by kernel_rfl) (hval 0 38 v0 rfl rfl) h0
  obtain ⟨x0, ex0, rfl, wx0⟩ := DataW.trod_int Try.underlying2 hx0
  obtain ⟨y0, ey0, rfl, wy0⟩ := DataW.trod_int Try.underlying2 hy0
  obtain ⟨z0, ez0, rfl, wz0⟩ := DataW.trod_int Try.underlying2 hz0
  simp at ex0 ey0 ez0
  subst ex0 ey0 ez0
  clear hA0 hval0
  simp only [List.append_nil] at hW'
  refine (fnExactValidDeed_walk x0 y0 z0 W ).mono fun e W' ⟨he, bel⟩ => ?_
  subst he
  exact ⟨_, rfl, _, _, _, [], _, [], hW', trodAll_mk1 (shut_bool Try.underlying4 _), (trodAll_cons_mk (Joins.shut_agg3 Try.underlying38 (by kernel_rfl) (by kernel_rfl) (shut_int Try.underlying2 wx0) (shut_int Try.underlying2 wy0) (shut_int Try.underlying2 wz0)) trodAll_mk0), rfl, bel.frame _, fun h => by cases h⟩

theorem closed : joinedFacts Try.prog 6 Try.f6 Rows.fnExactValidDeedSpec Rows.fnExactValidDeedRow = true := by
  unfold joinedFacts
  simp only [fact_laidOut, fact_mapsRowed, fact_stops, fact_knobs, fact_plainKeys, fact_heard, fact_enter, fact_lifts, fact_make]
  kernel_rfl
theorem over : Rows.fnExactValidDeedRow.holds Try.pinned (OpenSpec.ofChange Rows.fnExactValidDeedSpec) :=
  OpenClaim.holds_of_wide 6 Try.f6 rfl rfl rfl rfl rfl rfl rfl ⟨rfl, rfl, rfl, rfl, rfl⟩ rfl rfl rfl rfl rfl (by kernel_rfl) Try.func6 closed
    (of_decide_eq_true (by kernel_rfl)) (by unfold Func.isWrapper; first | (rw [if_pos (by decide +kernel)]; kernel_rfl) | (rw [if_neg (by decide +kernel)]; exact ⟨rfl, rfl⟩))
    (fun os started H enc _ => lifted os started H enc)

/-- THE STATEMENT. -/
theorem proved : Rows.FnExactValidDeedSaid :=
  over
#print axioms proved
end Go.Proofs.Ytkijgadkgfapgaa.fnExactValidDeed
