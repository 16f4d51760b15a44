/-
  MORE LAWS OF WORDS, given the program's own contracts: the law returns true.
-/
import Derived.Test.YtepopepafdjjlaaWdl
import Derived.Test.YtepopepafdjjlaaWdu
namespace Go.Proofs.Ytepopepafdjjlaa
open Go.ChangeShapes Go.WideShapes Go.ChangeAt Go.RowKit
open Wd
theorem drewN_below {B : Nat} {w w1 : World} (h : ∃ n, w1 = w.drewN n) : Below B w w1 := by
  obtain ⟨n, rfl⟩ := h
  exact ⟨rfl, rfl, rfl, Nat.le_refl _, fun _ _ => rfl⟩
theorem same_below {B : Nat} {w w1 : World} (h : w = w1) : Below B w w1 := h ▸ Below.refl _ _
theorem law_ValidWord (hI : ∀ (l : List UInt8), l.length ≤ 4000000 → ∀ w, Calls Try.prog 16 #[.string (txt l)] w fun e w' => e = .returned (.bool (wordB l)) ∧ Below w.heap.size w w') (l : List UInt8) (w : World) :
    Calls Try.prog 3 #[.string (txt l)] w fun e w' => e = .returned (.bool true) ∧ Below w.heap.size w w' := by
  have hs := txt_size l
  by_cases hm : l.length ≤ 1048576
  · have hm' : (l.length : Int) ≤ 1048576 := by omega
    have t1 : decide ((1048576 : Int) < (l.length : Int)) = false := by simp; omega
    have h1 := Lib.hid (hI l (by omega))
    have h2 := Lib.hid (valid_any l (by omega))
    clear hI
    generalize wordB l = b at h1 h2
    go_enter Try.func3, Try.ntmps3
    go_wp2_with (first | (go_at_call 15; refine (h2.out _).mono ?_; rintro e w' ⟨rfl, rfl⟩) | (go_at_call 16; refine (h1.out _).mono ?_; rintro e w2 ⟨rfl, B2⟩))
    cases b <;> (go_wp2; go_ret; exact ⟨rfl, B2⟩)
  · have t1 : decide ((1048576 : Int) < (l.length : Int)) = true := by simp; omega
    clear hI
    go_enter Try.func3, Try.ntmps3
    go_wp2
    go_ret
    exact ⟨rfl, Below.refl _ _⟩
theorem law_CommonStart (hI : ∀ (u v : List UInt8), u.length ≤ 4000000 → v.length ≤ 4000000 → ∀ w, Calls Try.prog 28 #[.string (txt u), .string (txt v)] w (fun e w' => e = .returned (.tuple #[.int .i64 (if wordB u && wordB v then (comL u v : Int) else 0), .int .i64 (if wordB u && wordB v then 0 else 1)]) ∧ Below w.heap.size w w')) (u v : List UInt8) (w : World) :
    Calls Try.prog 9 #[.string (txt u), .string (txt v)] w fun e w' => e = .returned (.bool true) ∧ Below w.heap.size w w' := by
  have hsu := txt_size u
  have hsv := txt_size v
  by_cases hm : u.length ≤ 1048576
  · have t1 : decide ((1048576 : Int) < (u.length : Int)) = false := by simp; omega
    by_cases hn : v.length ≤ 1048576
    · have t2 : decide ((1048576 : Int) < (v.length : Int)) = false := by simp; omega
      have hSp : Hid (∃ R C : Value, (∃ r c : Int, R = .int .i64 r ∧ C = .int .i64 c) ∧ ∀ w, Calls Try.prog 27 #[.string (txt u), .string (txt v)] w (fun e w' => e = .returned (.tuple #[R, C]) ∧ Below w.heap.size w w') ∧ Calls Try.prog 28 #[.string (txt u), .string (txt v)] w (fun e w' => e = .returned (.tuple #[R, C]) ∧ Below w.heap.size w w')) := Lib.hid ⟨_, _, ⟨_, _, rfl, rfl⟩, fun w => ⟨(common_any u v (by omega) (by omega) w).mono fun e w' h => ⟨h.1, drewN_below h.2⟩, hI u v (by omega) (by omega) w⟩⟩
      obtain ⟨R, C, ⟨r, c, rfl, rfl⟩, hRC⟩ := hSp.out
      have HRC := Lib.hid hRC
      clear hRC hSp hI
      go_enter Try.func9, Try.ntmps9
      go_wp2_with (first | (go_at_call 27; refine (HRC.out _).1.mono ?_; rintro e w1 ⟨rfl, B1⟩) | (go_at_call 28; refine (HRC.out _).2.mono ?_; rintro e w2 ⟨rfl, B2⟩))
      go_ret
      exact ⟨rfl, B1.trans (B2.mono B1.size)⟩
    · have t2 : decide ((1048576 : Int) < (v.length : Int)) = true := by simp; omega
      clear hI
      go_enter Try.func9, Try.ntmps9
      go_wp2
      go_ret
      exact ⟨rfl, Below.refl _ _⟩
  · have t1 : decide ((1048576 : Int) < (u.length : Int)) = true := by simp; omega
    clear hI
    go_enter Try.func9, Try.ntmps9
    go_wp2
    go_ret
    exact ⟨rfl, Below.refl _ _⟩
theorem law_CompareWords (hI : ∀ (u v : List UInt8), u.length ≤ 4000000 → v.length ≤ 4000000 → ∀ w, Calls Try.prog 30 #[.string (txt u), .string (txt v)] w (fun e w' => e = .returned (.tuple #[.int .i64 (if wordB u && wordB v then cmpW u v else 0), .int .i64 (if wordB u && wordB v then 0 else 1)]) ∧ Below w.heap.size w w')) (u v : List UInt8) (w : World) :
    Calls Try.prog 10 #[.string (txt u), .string (txt v)] w fun e w' => e = .returned (.bool true) ∧ Below w.heap.size w w' := by
  have hsu := txt_size u
  have hsv := txt_size v
  by_cases hm : u.length ≤ 1048576
  · have t1 : decide ((1048576 : Int) < (u.length : Int)) = false := by simp; omega
    by_cases hn : v.length ≤ 1048576
    · have t2 : decide ((1048576 : Int) < (v.length : Int)) = false := by simp; omega
      have hSp : Hid (∃ R C : Value, (∃ r c : Int, R = .int .i64 r ∧ C = .int .i64 c) ∧ ∀ w, Calls Try.prog 29 #[.string (txt u), .string (txt v)] w (fun e w' => e = .returned (.tuple #[R, C]) ∧ Below w.heap.size w w') ∧ Calls Try.prog 30 #[.string (txt u), .string (txt v)] w (fun e w' => e = .returned (.tuple #[R, C]) ∧ Below w.heap.size w w')) := Lib.hid ⟨_, _, ⟨_, _, rfl, rfl⟩, fun w => ⟨(compwords_any u v (by omega) (by omega) w).mono fun e w' h => ⟨h.1, drewN_below h.2⟩, hI u v (by omega) (by omega) w⟩⟩
      obtain ⟨R, C, ⟨r, c, rfl, rfl⟩, hRC⟩ := hSp.out
      have HRC := Lib.hid hRC
      clear hRC hSp hI
      go_enter Try.func10, Try.ntmps10
      go_wp2_with (first | (go_at_call 29; refine (HRC.out _).1.mono ?_; rintro e w1 ⟨rfl, B1⟩) | (go_at_call 30; refine (HRC.out _).2.mono ?_; rintro e w2 ⟨rfl, B2⟩))
      go_ret
      exact ⟨rfl, B1.trans (B2.mono B1.size)⟩
    · have t2 : decide ((1048576 : Int) < (v.length : Int)) = true := by simp; omega
      clear hI
      go_enter Try.func10, Try.ntmps10
      go_wp2
      go_ret
      exact ⟨rfl, Below.refl _ _⟩
  · have t1 : decide ((1048576 : Int) < (u.length : Int)) = true := by simp; omega
    clear hI
    go_enter Try.func10, Try.ntmps10
    go_wp2
    go_ret
    exact ⟨rfl, Below.refl _ _⟩
theorem law_JoinReduced (hI : ∀ (u v : List UInt8), u.length ≤ 4000000 → v.length ≤ 4000000 → ∀ w, Calls Try.prog 24 #[.string (txt u), .string (txt v)] w (TextPost (if wordB u && wordB v then (if (red (u ++ v)).length ≤ 40 then red (u ++ v) else []) else []) (if wordB u && wordB v then (if (red (u ++ v)).length ≤ 40 then 0 else 3) else 1) w)) (u v : List UInt8) (w : World) :
    Calls Try.prog 7 #[.string (txt u), .string (txt v)] w fun e w' => e = .returned (.bool true) ∧ Below w.heap.size w w' := by
  have hsu := txt_size u
  have hsv := txt_size v
  by_cases hm : u.length ≤ 1048576
  · have t1 : decide ((1048576 : Int) < (u.length : Int)) = false := by simp; omega
    by_cases hn : v.length ≤ 1048576
    · have t2 : decide ((1048576 : Int) < (v.length : Int)) = false := by simp; omega
      have hSp : Hid (∃ R C : Value, (∃ (r : ByteArray) (c : Int), R = .string r ∧ C = .int .i64 c) ∧ ∀ w, Calls Try.prog 23 #[.string (txt u), .string (txt v)] w (fun e w' => e = .returned (.tuple #[R, C]) ∧ Below w.heap.size w w') ∧ Calls Try.prog 24 #[.string (txt u), .string (txt v)] w (fun e w' => e = .returned (.tuple #[R, C]) ∧ Below w.heap.size w w')) := Lib.hid ⟨_, _, ⟨_, _, rfl, rfl⟩, fun w => ⟨join_any u v (by omega) (by omega) w, hI u v (by omega) (by omega) w⟩⟩
      obtain ⟨R, C, ⟨r, c, rfl, rfl⟩, hRC⟩ := hSp.out
      have HRC := Lib.hid hRC
      clear hRC hSp hI
      go_enter Try.func7, Try.ntmps7
      go_wp2_with (first | (go_at_call 23; refine (HRC.out _).1.mono ?_; rintro e w1 ⟨rfl, B1⟩) | (go_at_call 24; refine (HRC.out _).2.mono ?_; rintro e w2 ⟨rfl, B2⟩))
      go_ret
      exact ⟨rfl, B1.trans (B2.mono B1.size)⟩
    · have t2 : decide ((1048576 : Int) < (v.length : Int)) = true := by simp; omega
      clear hI
      go_enter Try.func7, Try.ntmps7
      go_wp2
      go_ret
      exact ⟨rfl, Below.refl _ _⟩
  · have t1 : decide ((1048576 : Int) < (u.length : Int)) = true := by simp; omega
    clear hI
    go_enter Try.func7, Try.ntmps7
    go_wp2
    go_ret
    exact ⟨rfl, Below.refl _ _⟩
end Go.Proofs.Ytepopepafdjjlaa
