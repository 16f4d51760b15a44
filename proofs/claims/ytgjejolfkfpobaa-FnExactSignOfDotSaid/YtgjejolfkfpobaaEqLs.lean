import Derived.Test.YtgjejolfkfpobaaAdd
namespace Go.Proofs.Ytgjejolfkfpobaa
open Go.ChangeShapes Go.WideShapes Go.ChangeAt Go.RowKit Go.Deep
open Fl
theorem forIn_all {P : Program} {w : World} {σ : Type} (b : Nat → σ → Sem (ForInStep σ)) (s0 sF : σ) (c : Nat → Bool) :
    ∀ l : List Nat, (∀ i, i ∈ l → (b i s0).run P w = .ok (if c i then .yield s0 else .done sF) w) → (forIn l s0 b).run P w = .ok (if l.all c then s0 else sF) w
  | [], _ => rfl
  | i :: r, h => by
    rw [List.forIn_cons, Sem.run_bind, h i (by simp), Result.andThen_ok]
    cases hc : c i
    · simp [hc]
    · have ih := forIn_all b s0 sF c r (fun j hj => h j (by simp [hj]))
      simp only [List.all_cons, hc, Bool.true_and, if_true]
      exact ih
theorem eqLimbs (f g : Nat → Nat) (w : World) : (Op.equalIn 10000 85 (.agg (limbC f)) (.agg (limbC g))).run Try.prog w = .ok ((List.range 24).all fun i => f i == g i) w := by
  rw [show (10000 : Nat) = 9999 + 1 from rfl, Op.equalIn]
  simp only [Sem.run_bind, run_underlying Try.underlying85, Result.andThen_ok]
  simp only [Std.Legacy.Range.forIn_eq_forIn_range', Std.Legacy.Range.size, Nat.sub_zero, Nat.add_sub_cancel, Nat.div_one]
  have hz : ∀ w, (sizeOf 83).run Try.prog w = .ok 1 w := fun w => by kernel_rfl
  rw [hz, Result.andThen_ok]
  rw [forIn_all _ (none, ()) (some false, ()) (fun i => f i == g i)]
  · rw [show List.range' 0 24 = List.range 24 from rfl]
    cases (List.range 24).all fun i => f i == g i <;> rfl
  · intro i hi
    have h24 : i < 24 := by
      have := List.mem_range'.1 hi
      omega
    have c1 := limbC_get f i h24
    have c2 := limbC_get g i h24
    clear hi hz
    go_simp
    by_cases h : f i = g i
    · simp [h]
    · rw [if_neg h, if_neg (by omega)]
end Go.Proofs.Ytgjejolfkfpobaa
