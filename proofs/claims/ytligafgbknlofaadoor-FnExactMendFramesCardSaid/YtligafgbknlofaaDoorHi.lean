/-
  CONTRACTS: MendFrames of both sides, in the order in which the law's walk takes them.
-/
import Derived.Test.YtligafgbknlofaaDoorHh
namespace Go.Proofs.YtligafgbknlofaaDoor
open Go.ChangeShapes Go.WideShapes Go.ChangeAt Go.RowKit
theorem sMendU_any (n m : Nat) (f h : Nat → Int) (hf : ByF (16 * n) f) (hh : ByF (16 * m) h) (a : Option Addr) (ca : Nat) (b : Option Addr) (cb : Nat) (w : World) (h0 : FrR w.heap.size w a n f) (h1 : FrR w.heap.size w b m h) (ka : SlOkS a n ca) (kb : SlOkS b m cb) :
    Calls Tryd.prog 15 #[.slice a n ca, .slice b m cb] w fun e w' => ∃ v, e = .returned (.tuple #[v, .int .i64 (meK f h n m), .int .i64 (meC n m)]) ∧ PR 16 w.heap.size w'.heap.size w' v (meN n m) (FF (mdK f h m n)) ∧ Below w.heap.size w w' := sMend_any n m f h hf hh a b ca cb w h0 h1 ka kb
theorem iMendU_any (n m : Nat) (f h : Nat → Int) (hf : ByF (16 * n) f) (hh : ByF (16 * m) h) (hn1 : n ≤ 1048576) (a : Option Addr) (ca : Nat) (b : Option Addr) (cb : Nat) (w : World) (h0 : FrR w.heap.size w a n f) (h1 : FrR w.heap.size w b m h) (ka : SlOkS a n ca) (kb : SlOkS b m cb) (hE : ErrT w) :
    Calls Tryd.prog 16 #[.slice a n ca, .slice b m cb] w fun e w' => ∃ v, e = .returned (.tuple #[v, .int .i64 (meK f h n m), .int .i64 (meC n m)]) ∧ PR 16 w.heap.size w'.heap.size w' v (meN n m) (FF (mdK f h m n)) ∧ Below w.heap.size w w' := iMend_any n m f h hf hh hn1 a b ca cb w h0 h1 ka kb hE
end Go.Proofs.YtligafgbknlofaaDoor
