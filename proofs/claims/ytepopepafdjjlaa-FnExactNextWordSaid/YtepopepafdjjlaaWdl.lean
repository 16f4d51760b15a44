/-
  LAWS OF WORDS, given the program's own contracts: the law returns true.
-/
import Derived.Test.YtepopepafdjjlaaWdn
namespace Go.Proofs.Ytepopepafdjjlaa
open Go.ChangeShapes Go.WideShapes Go.ChangeAt Go.RowKit
open Wd
theorem law_InverseWord (hI : ∀ (l : List UInt8), l.length ≤ 4000000 → ∀ w, Calls Try.prog 18 #[.string (txt l)] w (TextPost (if wordB l then inv l else []) (if wordB l then 0 else 1) w)) (l : List UInt8) (w : World) :
    Calls Try.prog 4 #[.string (txt l)] w fun e w' => e = .returned (.bool true) ∧ Below w.heap.size w w' := by
  have hs := txt_size l
  by_cases hm : l.length ≤ 1048576
  · have hm' : (l.length : Int) ≤ 1048576 := by omega
    have t1 : decide ((1048576 : Int) < (l.length : Int)) = false := by simp; omega
    have hSp : Hid (∃ (R : List UInt8) (C : Int), ∀ w, Calls Try.prog 17 #[.string (txt l)] w (TextPost R C w) ∧ Calls Try.prog 18 #[.string (txt l)] w (TextPost R C w)) := Lib.hid ⟨_, _, fun w => ⟨invword_any l (by omega) w, hI l (by omega) w⟩⟩
    obtain ⟨R, C, hRC⟩ := hSp.out
    have HRC := Lib.hid hRC
    clear hRC hSp hI
    go_enter Try.func4, Try.ntmps4
    go_wp2_with (first | (go_at_call 17; refine (HRC.out _).1.mono ?_; rintro e w1 ⟨rfl, B1⟩) | (go_at_call 18; refine (HRC.out _).2.mono ?_; rintro e w2 ⟨rfl, B2⟩))
    go_ret
    exact ⟨rfl, B1.trans (B2.mono B1.size)⟩
  · have t1 : decide ((1048576 : Int) < (l.length : Int)) = true := by simp; omega
    clear hI
    go_enter Try.func4, Try.ntmps4
    go_wp2
    go_ret
    exact ⟨rfl, Below.refl _ _⟩
theorem law_ReduceWord (hI : ∀ (l : List UInt8), l.length ≤ 4000000 → ∀ w, Calls Try.prog 20 #[.string (txt l)] w (TextPost (if wordB l then red l else []) (if wordB l then 0 else 1) w)) (l : List UInt8) (w : World) :
    Calls Try.prog 5 #[.string (txt l)] w fun e w' => e = .returned (.bool true) ∧ Below w.heap.size w w' := by
  have hs := txt_size l
  by_cases hm : l.length ≤ 1048576
  · have hm' : (l.length : Int) ≤ 1048576 := by omega
    have t1 : decide ((1048576 : Int) < (l.length : Int)) = false := by simp; omega
    have hSp : Hid (∃ (R : List UInt8) (C : Int), ∀ w, Calls Try.prog 19 #[.string (txt l)] w (TextPost R C w) ∧ Calls Try.prog 20 #[.string (txt l)] w (TextPost R C w)) := Lib.hid ⟨_, _, fun w => ⟨redword_any l (by omega) w, hI l (by omega) w⟩⟩
    obtain ⟨R, C, hRC⟩ := hSp.out
    have HRC := Lib.hid hRC
    clear hRC hSp hI
    go_enter Try.func5, Try.ntmps5
    go_wp2_with (first | (go_at_call 19; refine (HRC.out _).1.mono ?_; rintro e w1 ⟨rfl, B1⟩) | (go_at_call 20; refine (HRC.out _).2.mono ?_; rintro e w2 ⟨rfl, B2⟩))
    go_ret
    exact ⟨rfl, B1.trans (B2.mono B1.size)⟩
  · have t1 : decide ((1048576 : Int) < (l.length : Int)) = true := by simp; omega
    clear hI
    go_enter Try.func5, Try.ntmps5
    go_wp2
    go_ret
    exact ⟨rfl, Below.refl _ _⟩
theorem law_PowerWord (hI : ∀ (l : List UInt8) (n : Int), l.length ≤ 4000000 → ∀ w, Calls Try.prog 26 #[.string (txt l), .int .i64 n] w (powPost l n w)) (l : List UInt8) (n : Int) (w : World) :
    Calls Try.prog 8 #[.string (txt l), .int .i64 n] w fun e w' => e = .returned (.bool true) ∧ Below w.heap.size w w' := by
  have hs := txt_size l
  by_cases hm : l.length ≤ 1048576
  · have hm' : (l.length : Int) ≤ 1048576 := by omega
    have t1 : decide ((1048576 : Int) < (l.length : Int)) = false := by simp; omega
    have hSp : Hid (∃ (R : List UInt8) (C : Int), ∀ w, Calls Try.prog 25 #[.string (txt l), .int .i64 n] w (TextPost R C w) ∧ Calls Try.prog 26 #[.string (txt l), .int .i64 n] w (TextPost R C w)) := Lib.hid ⟨_, _, fun w => ⟨power_any l (by omega) n w, hI l n (by omega) w⟩⟩
    obtain ⟨R, C, hRC⟩ := hSp.out
    have HRC := Lib.hid hRC
    clear hRC hSp hI
    go_enter Try.func8, Try.ntmps8
    go_wp2_with (first | (go_at_call 25; refine (HRC.out _).1.mono ?_; rintro e w1 ⟨rfl, B1⟩) | (go_at_call 26; refine (HRC.out _).2.mono ?_; rintro e w2 ⟨rfl, B2⟩))
    go_ret
    exact ⟨rfl, B1.trans (B2.mono B1.size)⟩
  · have t1 : decide ((1048576 : Int) < (l.length : Int)) = true := by simp; omega
    clear hI
    go_enter Try.func8, Try.ntmps8
    go_wp2
    go_ret
    exact ⟨rfl, Below.refl _ _⟩
end Go.Proofs.Ytepopepafdjjlaa
