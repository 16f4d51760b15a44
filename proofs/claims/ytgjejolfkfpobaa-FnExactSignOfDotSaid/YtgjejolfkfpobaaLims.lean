/-
  CONTRACTS: the sign of limbs (without what needs the highest bit).
-/
import Derived.Test.YtgjejolfkfpobaaAdd
import Derived.Test.YtgjejolfkfpobaaSf
namespace Go.Proofs.Ytgjejolfkfpobaa
open Go.ChangeShapes Go.WideShapes Go.ChangeAt Go.RowKit Go.Deep
open Fl
theorem isNeg_any (f : Nat → Nat) (w : World) :
    Calls Try.prog 95 #[.agg (limbC f)] w fun e w' => e = .returned (.bool (decide (9223372036854775808 ≤ f 23))) ∧ w.alloc (.cells (limbC f) 85) = w' := by
  have c := limbC_get f 23 (by omega)
  go_enter Try.func95, Try.ntmps95
  go_wp2
  go_ret
  refine ⟨ret_bool ?_, rfl⟩
  rw [Bool.eq_iff_iff]
  simp
  omega
theorem limbC_congr {f g : Nat → Nat} (h : ∀ i, i < 24 → f i = g i) : limbC f = limbC g := by
  unfold limbC
  congr 1
  refine List.map_congr_left fun i hi => ?_
  rw [h i (by simpa using hi)]
theorem limb_info (f : Nat → Nat) : (Try.prog.info? 85).map (·.size) = some (limbC f).size := by rw [limbC_size]; kernel_rfl
end Go.Proofs.Ytgjejolfkfpobaa
