/-
  FnParts, walked for every input.
-/
import Derived.Test.YtanepboepeijoaaDoorFpw
namespace Go.Proofs.YtanepboepeijoaaDoor
open Go.ChangeShapes Go.WideShapes Go.ChangeAt Go.RowKit Go.Deep
open Fl
theorem fnParts_walk (len cap : Nat) (c : Option Addr) (W : World) (h : BRow W.heap.size W c len) (hT : Tab4 W) (hG : 6 < W.heap.size) (hE : ErrCell W) (hG2 : 2 < W.heap.size) :
    Calls Tryd.prog 6 #[.slice c len cap] W fun e w' => e = .returned (.bool true) ∧ Below W.heap.size W w' := by
  rcases Nat.lt_or_ge 4096 len with hl | hl
  · exact parts_big len cap c hl W
  · exact parts_walk len cap c hl W h ⟨hE, hG2, hT, hG⟩
end Go.Proofs.YtanepboepeijoaaDoor
