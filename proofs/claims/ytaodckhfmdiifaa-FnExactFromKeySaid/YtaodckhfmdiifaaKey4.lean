import Derived.Test.YtaodckhfmdiifaaKey3
import Derived.Deep.RegionHeld3
import Derived.StillTailTactics
namespace Go.Proofs.Ytaodckhfmdiifaa
open Go.ChangeShapes Go.WideShapes Go.ChangeAt Go.RowKit
open Fl
theorem forIn_all {P : Program} {w : World} {σ : Type} (b : Nat → σ → Sem (ForInStep σ)) (s0 sF : σ) (c : Nat → Bool) :
    ∀ l : List Nat, (∀ i, i ∈ l → (b i s0).run P w = .ok (if c i then .yield s0 else .done sF) w) → (forIn l s0 b).run P w = .ok (if l.all c then s0 else sF) w
  | [], _ => rfl
  | i :: r, h => by
    rw [List.forIn_cons, Sem.run_bind, h i (by simp), Result.andThen_ok]
    cases hc : c i
    · simp [hc]
    · have ih := forIn_all b s0 sF c r (fun j hj => h j (by simp [hj]))
      simp only [List.all_cons, hc, Bool.true_and, if_true]
      exact ih
theorem eqArr {P : Program} {t e : TypeId} {n : Nat} {q : IntKind} (f g : Nat → Int) (ht : P.underlying t = some (.array n e)) (he : P.underlying e = some (.int q)) (hs : (P.info? e).map (·.size) = some 1) (w : World) :
    (Op.equalIn 10000 t (.agg (arr q n f)) (.agg (arr q n g))).run P w = .ok ((List.range n).all fun i => f i == g i) w := by
  have hz : ∀ w, (sizeOf e).run P w = .ok 1 w := fun w => by
    unfold sizeOf typeInfo
    cases hq : P.info? e with
    | none => simp [hq] at hs
    | some x => simp [hq] at hs ⊢; exact hs
  have hag : ∀ w, (isAgg e).run P w = .ok false w := fun w => by
    unfold isAgg
    rw [Sem.run_bind, run_underlying he w]; rfl
  rw [show (10000 : Nat) = 9999 + 1 from rfl, Op.equalIn]
  simp only [Sem.run_bind, run_underlying ht, Result.andThen_ok]
  simp only [Std.Legacy.Range.forIn_eq_forIn_range', Std.Legacy.Range.size, Nat.sub_zero, Nat.add_sub_cancel, Nat.div_one]
  rw [hz, Result.andThen_ok]
  rw [forIn_all _ (none, ()) (some false, ()) (fun i => f i == g i)]
  · rw [← List.range_eq_range']
    cases (List.range n).all fun i => f i == g i <;> rfl
  · intro i hi
    have hn : i < n := by
      have := List.mem_range'.1 hi
      omega
    have c1 := arr_get q n f i hn
    have c2 := arr_get q n g i hn
    clear hi
    go_simp
    by_cases h : f i = g i
    · simp [h]
    · rw [if_neg h]; simp [h]
/-- the point's parts of a key -/
def reB (f : Nat → Int) : Nat := hdB f 0 4
def imB (f : Nat → Int) : Nat := hdB f 4 4
def okB (f : Nat → Int) : Bool := (List.range 8).all fun i => keyF (can (reB f)) (can (imB f)) i == f i
end Go.Proofs.Ytaodckhfmdiifaa
