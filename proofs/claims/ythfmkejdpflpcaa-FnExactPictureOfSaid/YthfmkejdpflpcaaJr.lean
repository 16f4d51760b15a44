/-
  THE SORT OF POINTS AT A nil SLICE (given math/bits.Len at 0).
-/
import Derived.Test.YthfmkejdpflpcaaJq
namespace Go.Proofs.Ythfmkejdpflpcaa
open Go.ChangeShapes Go.WideShapes Go.ChangeAt Go.RowKit Go.Proofs
theorem ins_none (fv : Value) (w : World) : Calls Try.prog 167 #[.slice none 0 0, .int .i64 0, .int .i64 0, fv] w fun e w' => e = .returned (.tuple #[]) ∧ w' = w := by
  go_enter Try.func167, Try.ntmps167
  go_wp2
  refine wp_loop_rounds 1 ?_
  rw [rounds_succ]
  go_wp2
  go_end0
  exact ⟨rfl, rfl⟩
set_option maxRecDepth 20000 in
set_option maxHeartbeats 2000000 in
theorem pdq_none (lim : Int) (fv : Value) (w : World) : Calls Try.prog 140 #[.slice none 0 0, .int .i64 0, .int .i64 0, .int .i64 lim, fv] w fun e w' => e = .returned (.tuple #[]) ∧ w' = w := by
  have hi := fun W => ins_none fv W
  go_enter Try.func140, Try.ntmps140
  go_wp2
  refine wp_loop_rounds 1 ?_
  rw [rounds_succ]
  go_wp2_with (go_at_call 167; refine (hi _).mono ?_; rintro e w' ⟨rfl, rfl⟩)
  (try simp only [Exit.inBlock, Exit.then]); refine bodyPost_ret (results_none rfl _ _ _) rfl ?_
  exact ⟨rfl, rfl⟩
theorem sfn_of (hl : ∀ W, Calls Try.prog 134 #[.int .u64 0] W fun e w' => (∃ n, e = .returned (.int .i64 n)) ∧ w' = W) : SFN := by
  intro w
  have hp := fun lim W => pdq_none lim (.func (.func 100) #[] #[]) W
  go_enter Try.func112, Try.ntmps112
  go_wp2_with (first | (go_at_call 134; refine (hl _).mono ?_; rintro e w' ⟨⟨lim, rfl⟩, rfl⟩) | (go_at_call 140; refine (hp _ _).mono ?_; rintro e w' ⟨rfl, rfl⟩))
  go_end0
  exact ⟨rfl, rfl⟩
end Go.Proofs.Ythfmkejdpflpcaa
