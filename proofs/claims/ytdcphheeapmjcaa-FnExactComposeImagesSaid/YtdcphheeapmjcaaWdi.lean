/-
  CONTRACT: the specification's range check.
-/
import Derived.Test.YtdcphheeapmjcaaSf
import Derived.Deep.QuietTactic
import Derived.BigQuiet
namespace Go.Proofs.Ytdcphheeapmjcaa
open Go.ChangeShapes Go.WideShapes Go.ChangeAt Go.RowKit
theorem l00In_yes (n l r : Int) (h1 : l ≤ n) (h2 : n ≤ r) (w : World) :
    Calls Try.prog 52 #[.int .i64 n, .int .i64 l, .int .i64 r] w fun e w' => e = .returned (.bool true) ∧ w = w' := by
  have g1 : decide (l ≤ n) = true := by simpa using h1
  have g2 : decide (n ≤ r) = true := by simpa using h2
  go_enter Try.func52, Try.ntmps52
  go_wp2
  go_ret
  exact ⟨rfl, rfl⟩
theorem l00In_no (n l r : Int) (h : n < l ∨ r < n) (w : World) :
    Calls Try.prog 52 #[.int .i64 n, .int .i64 l, .int .i64 r] w fun e w' => e = .returned (.bool false) ∧ w = w' := by
  rcases h with h | h
  · have g1 : decide (l ≤ n) = false := by simp; omega
    go_enter Try.func52, Try.ntmps52
    go_wp2
    go_ret
    exact ⟨rfl, rfl⟩
  · by_cases hl : l ≤ n
    · have g1 : decide (l ≤ n) = true := by simpa using hl
      have g2 : decide (n ≤ r) = false := by simp; omega
      go_enter Try.func52, Try.ntmps52
      go_wp2
      go_ret
      exact ⟨rfl, rfl⟩
    · have g1 : decide (l ≤ n) = false := by simp; omega
      go_enter Try.func52, Try.ntmps52
      go_wp2
      go_ret
      exact ⟨rfl, rfl⟩

end Go.Proofs.Ytdcphheeapmjcaa
