import Derived.Test.YtanepboepeijoaaCx
namespace Go.Proofs.Ytanepboepeijoaa
open Go.ChangeShapes Go.WideShapes Go.ChangeAt Go.RowKit
open Fl
@[go_sem] theorem run_store_complex {P : Program} {w : World} {a : Addr} {m : Mode} (k : FloatKind) (b c : Nat) : (store a (.complex k b c) m).run P w = stored P w a (.complex k b c) m := run_store P w a _ m rfl
@[go_sem, simp] theorem wdW_heap (b : Nat) (w : World) : (wdW b w).heap = w.heap := by unfold wdW; split <;> rfl
@[go_sem, simp] theorem wdW_cell (b : Nat) (w : World) (p : Addr) : (wdW b w).cell? p = w.cell? p := by unfold wdW; split <;> rfl
/-- a struct of four points is equal to itself, NaNs and all -/
theorem eqMap_refl (a b c d x y z u : Nat) (w : World) :
    Calls Try.prog 10 #[.agg #[.complex .f32 a b, .complex .f32 c d, .complex .f32 x y, .complex .f32 z u], .agg #[.complex .f32 a b, .complex .f32 c d, .complex .f32 x y, .complex .f32 z u]] w fun e w' => e = .returned (.bool true) ∧ Below w.heap.size w w' := by
  go_enter Try.func10, Try.ntmps10
  go_wp2_with (first | simp only [conv_cx] | (go_at_call 24; refine (sameCx_alk _ _ _ _ (wd_alk _ _ _) (wd_alk _ _ _) _).mono ?_; rintro e w' ⟨rfl, rfl⟩))
  go_ret
  exact ⟨rfl, by repeat (first | exact Below.refl _ _ | refine Below.alloc ?_ (by simp) _ | refine wdW_below _ _ ?_)⟩
end Go.Proofs.Ytanepboepeijoaa
