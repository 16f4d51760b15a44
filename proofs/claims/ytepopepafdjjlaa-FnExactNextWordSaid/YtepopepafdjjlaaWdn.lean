/-
  CONTRACTS: the specification's CompareWords, JoinReduced.
-/
import Derived.Test.YtepopepafdjjlaaWdm
import Derived.Test.YtepopepafdjjlaaWdp
namespace Go.Proofs.Ytepopepafdjjlaa
open Go.ChangeShapes Go.WideShapes Go.ChangeAt Go.RowKit
open Wd
theorem compwords_any (u v : List UInt8) (hu : u.length ≤ 4000000) (hv : v.length ≤ 4000000) (w : World) :
    Calls Try.prog 29 #[.string (txt u), .string (txt v)] w fun e w' =>
      e = .returned (.tuple #[.int .i64 (if wordB u && wordB v then cmpW u v else 0), .int .i64 (if wordB u && wordB v then 0 else 1)]) ∧ ∃ n, w' = w.drewN n := by
  have ho1 : Hid (∀ w, Calls Try.prog 39 #[.string (txt u)] w fun e w' => e = .returned (.bool (wordB u)) ∧ w = w') := Lib.hid (ok_any u hu)
  have ho2 : Hid (∀ w, Calls Try.prog 39 #[.string (txt v)] w fun e w' => e = .returned (.bool (wordB v)) ∧ w = w') := Lib.hid (ok_any v hv)
  cases h1 : wordB u
  · rw [h1] at ho1
    go_enter Try.func29, Try.ntmps29
    go_wp2_with (go_at_call 39; with_reducible refine (ho1.out _).mono ?_; rintro e w' ⟨rfl, rfl⟩)
    go_ret2
    exact ⟨rfl, 0, rfl⟩
  · rw [h1] at ho1
    cases h2 : wordB v
    · rw [h2] at ho2
      go_enter Try.func29, Try.ntmps29
      go_wp2_with (first | (go_at_call 39; with_reducible refine (ho1.out _).mono ?_; rintro e w' ⟨rfl, rfl⟩) | (go_at_call 39; with_reducible refine (ho2.out _).mono ?_; rintro e w' ⟨rfl, rfl⟩))
      go_ret2
      exact ⟨rfl, 0, rfl⟩
    · rw [h2] at ho2
      go_enter Try.func29, Try.ntmps29
      go_wp2_with (first | (go_at_call 39; with_reducible refine (ho1.out _).mono ?_; rintro e w' ⟨rfl, rfl⟩) | (go_at_call 39; with_reducible refine (ho2.out _).mono ?_; rintro e w' ⟨rfl, rfl⟩) | (go_at_call 53; refine (compare_any u v hu hv _).mono ?_; rintro e w' ⟨rfl, hd⟩))
      go_ret2
      exact ⟨rfl, hd⟩
end Go.Proofs.Ytepopepafdjjlaa
