/-
  CONTRACTS: the specification's ValidWord, InverseWord, ReduceWord, l05Told, PowerWord.
-/
import Derived.Test.YtepopepafdjjlaaWde
namespace Go.Proofs.Ytepopepafdjjlaa
open Go.ChangeShapes Go.WideShapes Go.ChangeAt Go.RowKit
open Wd
/-- a text and a code -/
def TextPost (r : List UInt8) (c : Int) (w : World) (e : Ending) (w' : World) : Prop := e = .returned (.tuple #[.string (txt r), .int .i64 c]) ∧ Below w.heap.size w w'
theorem valid_any (l : List UInt8) (hm : l.length ≤ 4000000) (w : World) :
    Calls Try.prog 15 #[.string (txt l)] w fun e w' => e = .returned (.bool (wordB l)) ∧ w = w' := by
  go_enter Try.func15, Try.ntmps15
  go_wp2_with (go_at_call 39; refine (ok_any _ hm _).mono ?_; rintro e w' ⟨rfl, rfl⟩)
  go_ret
  exact ⟨rfl, rfl⟩
theorem invword_any (l : List UInt8) (hm : l.length ≤ 4000000) (w : World) :
    Calls Try.prog 17 #[.string (txt l)] w (TextPost (if wordB l then inv l else []) (if wordB l then 0 else 1) w) := by
  cases hb : wordB l
  · go_enter Try.func17, Try.ntmps17
    go_wp2_with (go_at_call 39; refine (ok_any _ hm _).mono ?_; rintro e w' ⟨rfl, rfl⟩; rw [hb])
    go_ret2
    exact ⟨rfl, Below.refl _ _⟩
  · have HL := Lib.hid (wordB_lets hb)
    go_enter Try.func17, Try.ntmps17
    go_wp2_with (first | (go_at_call 39; refine (ok_any _ hm _).mono ?_; rintro e w' ⟨rfl, rfl⟩; rw [hb]) | (go_at_call 41; refine (inverse_any l HL.out hm _).mono ?_; rintro e w' ⟨rfl, B⟩))
    go_ret2
    exact ⟨rfl, B⟩
theorem redword_any (l : List UInt8) (hm : l.length ≤ 4000000) (w : World) :
    Calls Try.prog 19 #[.string (txt l)] w (TextPost (if wordB l then red l else []) (if wordB l then 0 else 1) w) := by
  cases hb : wordB l
  · go_enter Try.func19, Try.ntmps19
    go_wp2_with (go_at_call 39; refine (ok_any _ hm _).mono ?_; rintro e w' ⟨rfl, rfl⟩; rw [hb])
    go_ret2
    exact ⟨rfl, Below.refl _ _⟩
  · have HL := Lib.hid (wordB_lets hb)
    go_enter Try.func19, Try.ntmps19
    go_wp2_with (first | (go_at_call 39; refine (ok_any _ hm _).mono ?_; rintro e w' ⟨rfl, rfl⟩; rw [hb]) | (go_at_call 44; refine (reduce_any l HL.out hm _).mono ?_; rintro e w' ⟨rfl, B⟩))
    go_ret2
    exact ⟨rfl, B⟩
theorem told_any (l : List UInt8) (hm : l.length ≤ 4000000) (w : World) :
    Calls Try.prog 47 #[.string (txt l)] w fun e w' => e = .returned (.tuple #[.string (txt (if l.length ≤ 40 then l else [])), .int .i64 (if l.length ≤ 40 then 0 else 3)]) ∧ w = w' := by
  have hs := txt_size l
  by_cases h : l.length ≤ 40
  · rw [if_pos h, if_pos h]
    have t1 : decide ((40 : Int) < (l.length : Int)) = false := by simp; omega
    go_enter Try.func47, Try.ntmps47
    go_wp2
    go_ret2
    exact ⟨rfl, rfl⟩
  · rw [if_neg h, if_neg h]
    have t1 : decide ((40 : Int) < (l.length : Int)) = true := by simp; omega
    go_enter Try.func47, Try.ntmps47
    go_wp2
    go_ret2
    exact ⟨rfl, rfl⟩
end Go.Proofs.Ytepopepafdjjlaa
