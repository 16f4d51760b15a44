/-
  WHAT THE LAWS ASK BESIDES: sizes.
-/
import Derived.Test.YtkijgadkgfapgaaGf
namespace Go.Proofs.Ytkijgadkgfapgaa
open Go.ChangeShapes Go.WideShapes Go.ChangeAt Go.RowKit
theorem szF_any (a : Option Addr) (n cap left : Nat) (hl : left ≤ 1048576) (hn : n ≤ maxLen) (w : World) :
    Calls Try.prog 24 #[.slice a n cap, .int .i64 (left : Int)] w fun e w' => e = .returned (.int .i64 (if left < n then (-1 : Int) else ((left - n : Nat) : Int))) ∧ w = w' := by
  unfold maxLen at hn
  by_cases h : left < n
  · rw [if_pos h]
    have h1 : ((left : Int) - (n : Int) < 0) := by omega
    go_enter Try.func24, Try.ntmps24
    go_wp2
    go_ret
    exact ⟨rfl, rfl⟩
  · rw [if_neg h]
    have h1 : (0 : Int) ≤ (left : Int) - (n : Int) := by omega
    have h2 : ((left - n : Nat) : Int) = (left : Int) - (n : Int) := by omega
    rw [h2]
    go_enter Try.func24, Try.ntmps24
    go_wp2
    go_ret
    exact ⟨rfl, rfl⟩
theorem spN_le (n : Nat) (t b : Int) : spN n t b ≤ 1048576 := by
  unfold spN
  split
  · rename_i h
    unfold spC at h
    split at h
    · omega
    · omega
  · omega
end Go.Proofs.Ytkijgadkgfapgaa
