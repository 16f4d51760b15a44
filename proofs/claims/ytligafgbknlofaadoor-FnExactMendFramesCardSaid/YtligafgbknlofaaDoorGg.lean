/-
  WHAT THE LAWS ASK BESIDES: sizes.
-/
import Derived.Test.YtligafgbknlofaaDoorGf
namespace Go.Proofs.YtligafgbknlofaaDoor
open Go.ChangeShapes Go.WideShapes Go.ChangeAt Go.RowKit
theorem szF_any (a : Option Addr) (n cap left : Nat) (hl : left ≤ 1048576) (hn : n ≤ maxLen) (w : World) :
    Calls Tryd.prog 6 #[.slice a n cap, .int .i64 (left : Int)] w fun e w' => e = .returned (.int .i64 (if left < n then (-1 : Int) else ((left - n : Nat) : Int))) ∧ w = w' := by
  unfold maxLen at hn
  by_cases h : left < n
  · rw [if_pos h]
    have h1 : ((left : Int) - (n : Int) < 0) := by omega
    go_enter Tryd.func6, Tryd.ntmps6
    go_wp2
    go_ret
    exact ⟨rfl, rfl⟩
  · rw [if_neg h]
    have h1 : (0 : Int) ≤ (left : Int) - (n : Int) := by omega
    have h2 : ((left - n : Nat) : Int) = (left : Int) - (n : Int) := by omega
    rw [h2]
    go_enter Tryd.func6, Tryd.ntmps6
    go_wp2
    go_ret
    exact ⟨rfl, rfl⟩
theorem spN_le (n : Nat) (t b : Int) : spN n t b ≤ 1048576 := by
  unfold spN
  split
  · rename_i h
    unfold spC at h
    split at h
    · omega
    · omega
  · omega
theorem iSpoil2 (n : Nat) (f : Nat → Int) (t b : Int) (a : Option Addr) (c : Nat) (w : World) (h : FrR w.heap.size w a n f) :
    Calls Tryd.prog 22 #[.slice a n c, .int .i64 t, .int .i64 b] w fun e w' => ∃ v, e = .returned (.tuple #[v, .int .i64 (spC n t b)]) ∧ PR 16 w.heap.size w'.heap.size w' v (spN n t b) (FF (spF f t b)) ∧ Below w.heap.size w w' := iSpoil_any a n c f t b w h
end Go.Proofs.YtligafgbknlofaaDoor
