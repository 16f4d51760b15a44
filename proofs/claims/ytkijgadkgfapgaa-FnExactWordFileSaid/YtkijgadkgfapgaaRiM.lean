/-
  A REGION THAT DRAWS ITS ORDER, BY AN INVARIANT, where some edges bind in one mode alone: only edges that bind have to lead backwards (no program in sight).
-/
import Derived.Test.YtkijgadkgfapgaaRi
namespace Go.Proofs.Ytkijgadkgfapgaa
open Go Go.RowKit
section
variable {P : Program} {ops : Array Oper} {Q : Exit → Act → World → Prop}
/-- edges that bind lead backwards -/
def topM (md : Region.Mode) (ops : Array Oper) : Bool := (List.range ops.size).all fun i => match ops[i]? with | none => true | some o => o.after.all fun e => !Region.binds md e || decide (e.on < i)
theorem all_listedM {md : Region.Mode} (ht : topM md ops = true) {listed : Array Bool} (hs : listed.size = ops.size) (hr : Region.ready md ops listed = []) : ∀ j, j < ops.size → listed.getD j false = true := by
  intro j
  induction j using Nat.strongRecOn with
  | ind j ih =>
    intro hj
    cases hl : listed.getD j false with
    | true => rfl
    | false =>
      have hmem : j ∈ Region.ready md ops listed := by
        rw [mem_ready]
        refine ⟨?_, ops[j], by simp [hj], fun e he hb => ?_⟩
        · have : j < listed.size := by omega
          simp [Array.getD, this] at hl ⊢
          exact hl
        · unfold topM at ht
          rw [List.all_eq_true] at ht
          have h1 := ht j (by simp [hj])
          rw [Array.getElem?_eq_getElem hj] at h1
          have h2 := Array.all_eq_true_iff_forall_mem.1 h1 e he
          rw [hb, Bool.not_true, Bool.false_or] at h2
          have h3 : e.on < j := by simpa using h2
          exact ih _ h3 (by omega)
      rw [hr] at hmem
      cases hmem
theorem wpAny_invM {md : Region.Mode} {I : Array Bool → Act → World → Prop} (ht : topM md ops = true) (hsz : ∀ listed a w, I listed a w → listed.size = ops.size)
    (hstep : ∀ listed a w i o, I listed a w → listed.getD i true = false → ops[i]? = some o → (∀ e ∈ o.after, Region.binds md e = true → listed.getD e.on false = true) → wpOp P ops Q i (fun a' w' => I (listed.setIfInBounds i true) a' w') a w)
    (hend : ∀ listed a w, I listed a w → (∀ j, j < ops.size → listed.getD j false = true) → Q .normal a w) :
    ∀ (fuel : Nat) (listed : Array Bool) (a : Act) (w : World), listed.toList.count false = fuel → I listed a w → wpAny P md ops Q fuel listed a w
  | 0, listed, a, w, hc, h => by
    have hr : Region.ready md ops listed = [] := by
      cases hl : Region.ready md ops listed with
      | nil => rfl
      | cons i r =>
        have hi : i ∈ Region.ready md ops listed := by rw [hl]; simp
        have := count_set (mem_ready.1 hi).1
        omega
    exact ⟨hr, hend _ _ _ h (all_listedM ht (hsz _ _ _ h) hr)⟩
  | fuel + 1, listed, a, w, hc, h => by
    refine ⟨fun hr => hend _ _ _ h (all_listedM ht (hsz _ _ _ h) hr), fun i hi => ?_⟩
    obtain ⟨h1, o, ho, h2⟩ := mem_ready.1 hi
    have h3 := count_set h1
    exact wpOp_mono (fun a' w' h' => wpAny_invM ht hsz hstep hend fuel _ a' w' (by omega) h') (hstep _ _ _ i o h h1 ho h2)
/-- THE LAW. -/
theorem wp_region_invM {id : Nat} {a : Act} {w : World} (hm : P.follows .mixedOrders = true) (I : Array Bool → Act → World → Prop) (ht : topM .any ops = true) (h0 : I (Array.replicate ops.size false) a w.drew) (hsz : ∀ listed a w, I listed a w → listed.size = ops.size)
    (hstep : ∀ listed a w i o, I listed a w → listed.getD i true = false → ops[i]? = some o → (∀ e ∈ o.after, Region.binds .any e = true → listed.getD e.on false = true) → wpOp P ops Q i (fun a' w' => I (listed.setIfInBounds i true) a' w') a w)
    (hend : ∀ listed a w, I listed a w → (∀ j, j < ops.size → listed.getD j false = true) → Q .normal a w) : (Code.region id ops true).wp P Q a w := by
  refine wp_region_any hm (wpAny_invM ht hsz hstep hend ops.size _ a _ ?_ h0)
  simp
end
end Go.Proofs.Ytkijgadkgfapgaa
