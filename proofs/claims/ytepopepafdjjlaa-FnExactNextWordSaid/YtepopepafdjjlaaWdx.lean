/-
  CountReduced of the specification; its law and IsReduced's, given the program's own contracts.
-/
import Derived.Test.YtepopepafdjjlaaWdw
import Derived.Test.YtepopepafdjjlaaWdv
namespace Go.Proofs.Ytepopepafdjjlaa
open Go.ChangeShapes Go.WideShapes Go.ChangeAt Go.RowKit
open Wd
theorem countred_any (g n : Int) (w : World) :
    Calls Try.prog 31 #[.int .i64 g, .int .i64 n] w fun e w' =>
      e = .returned (.tuple #[.int .i64 (if (1 ≤ g ∧ g ≤ 4) ∧ 0 ≤ n ∧ n ≤ 12 then ways g false n.toNat else 0), .int .i64 (if (1 ≤ g ∧ g ≤ 4) ∧ 0 ≤ n ∧ n ≤ 12 then 0 else 2)]) ∧ w = w' := by
  by_cases h : (1 ≤ g ∧ g ≤ 4) ∧ 0 ≤ n ∧ n ≤ 12
  · rw [if_pos h, if_pos h]
    obtain ⟨m, rfl⟩ : ∃ m : Nat, n = (m : Int) := ⟨n.toNat, by omega⟩
    have hc : Hid (∀ w, Calls Try.prog 55 #[.int .i64 g, .int .i64 (m : Int)] w fun e w' => e = .returned (.int .i64 0) ∧ w = w') := Lib.hid fun w => by
      have := counted_any g m w; rw [if_pos h] at this; exact this
    have hw := Lib.hid (ways_any g h.1.1 h.1.2 m (by omega) false)
    rw [Int.toNat_natCast]
    clear h
    go_enter Try.func31, Try.ntmps31
    go_wp2_with (first | (go_at_call 55; with_reducible refine (hc.out _).mono ?_; rintro e w' ⟨rfl, rfl⟩) | (go_at_call 56; with_reducible refine (hw.out _).mono ?_; rintro e w' ⟨rfl, rfl⟩))
    go_ret2
    exact ⟨rfl, rfl⟩
  · rw [if_neg h, if_neg h]
    have hc : Hid (∀ w, Calls Try.prog 55 #[.int .i64 g, .int .i64 n] w fun e w' => e = .returned (.int .i64 2) ∧ w = w') := Lib.hid fun w => by
      have := counted_any g n w; rw [if_neg h] at this; exact this
    clear h
    go_enter Try.func31, Try.ntmps31
    go_wp2_with (go_at_call 55; with_reducible refine (hc.out _).mono ?_; rintro e w' ⟨rfl, rfl⟩)
    go_ret2
    exact ⟨rfl, rfl⟩
theorem law_CountReduced (hI : ∀ (g n : Int), ∀ w, Calls Try.prog 32 #[.int .i64 g, .int .i64 n] w fun e w' => e = .returned (.tuple #[.int .i64 (if (1 ≤ g ∧ g ≤ 4) ∧ 0 ≤ n ∧ n ≤ 12 then ways g false n.toNat else 0), .int .i64 (if (1 ≤ g ∧ g ≤ 4) ∧ 0 ≤ n ∧ n ≤ 12 then 0 else 2)]) ∧ Below w.heap.size w w') (g n : Int) (w : World) :
    Calls Try.prog 11 #[.int .i64 g, .int .i64 n] w fun e w' => e = .returned (.bool true) ∧ Below w.heap.size w w' := by
  have h1 := Lib.hid (hI g n)
  have h2 := Lib.hid (countred_any g n)
  clear hI
  generalize (if (1 ≤ g ∧ g ≤ 4) ∧ 0 ≤ n ∧ n ≤ 12 then ways g false n.toNat else 0) = R at h1 h2
  generalize (if (1 ≤ g ∧ g ≤ 4) ∧ 0 ≤ n ∧ n ≤ 12 then (0 : Int) else 2) = C at h1 h2
  go_enter Try.func11, Try.ntmps11
  go_wp2_with (first | (go_at_call 31; refine (h2.out _).mono ?_; rintro e w' ⟨rfl, rfl⟩) | (go_at_call 32; refine (h1.out _).mono ?_; rintro e w2 ⟨rfl, B2⟩))
  go_ret
  exact ⟨rfl, B2⟩
theorem law_IsReduced (hI : ∀ (l : List UInt8), l.length ≤ 4000000 → ∀ w, Calls Try.prog 22 #[.string (txt l)] w fun e w' => e = .returned (.tuple #[.bool (wordB l && decide (red l = l)), .int .i64 (if wordB l then 0 else 1)]) ∧ Below w.heap.size w w') (l : List UInt8) (w : World) :
    Calls Try.prog 6 #[.string (txt l)] w fun e w' => e = .returned (.bool true) ∧ Below w.heap.size w w' := by
  have hs := txt_size l
  by_cases hm : l.length ≤ 1048576
  · have hm' : (l.length : Int) ≤ 1048576 := by omega
    have t1 : decide ((1048576 : Int) < (l.length : Int)) = false := by simp; omega
    have h1 := Lib.hid (hI l (by omega))
    have h2 := Lib.hid (isred_any l (by omega))
    clear hI
    generalize (wordB l && decide (red l = l)) = b at h1 h2
    generalize (if wordB l then (0 : Int) else 1) = C at h1 h2
    cases b
    all_goals
      go_enter Try.func6, Try.ntmps6
      go_wp2_with (first | (go_at_call 21; refine (h2.out _).mono ?_; rintro e w1 ⟨rfl, B1⟩) | (go_at_call 22; refine (h1.out _).mono ?_; rintro e w2 ⟨rfl, B2⟩))
      go_ret
      exact ⟨rfl, B1.trans (B2.mono B1.size)⟩
  · have t1 : decide ((1048576 : Int) < (l.length : Int)) = true := by simp; omega
    clear hI
    go_enter Try.func6, Try.ntmps6
    go_wp2
    go_ret
    exact ⟨rfl, Below.refl _ _⟩
end Go.Proofs.Ytepopepafdjjlaa
