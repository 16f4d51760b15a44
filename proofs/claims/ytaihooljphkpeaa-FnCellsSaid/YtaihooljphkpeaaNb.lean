/-
  THE CELLS AROUND A CELL: the specification's and the program's.
-/
import Derived.Test.YtaihooljphkpeaaCell
namespace Go.Proofs.Ytaihooljphkpeaa
open Go.ChangeShapes Go.WideShapes Go.ChangeAt Go.RowKit
/-- a number of a cell has neighbours -/
def nbB (a : Int) : Bool := decide (-1073741824 < a) && decide (a < 1073741824)
theorem ret_boolC {a b : Bool} (h : a = b) : Ending.returned (.bool a) = .returned (.bool b) := by rw [h]
theorem hasNb_any (a : Int) (w : World) :
    Calls Try.prog 22 #[.int .i32 a] w fun e w' => e = .returned (.bool (nbB a)) ∧ w = w' := by
  cases t1 : decide ((-1073741824 : Int) < a) <;> cases t2 : decide (a < (1073741824 : Int))
  all_goals
    have T : Hid (nbB a = (decide ((-1073741824 : Int) < a) && decide (a < (1073741824 : Int)))) := Lib.hid rfl
    go_enter Try.func22, Try.ntmps22
    go_wp2
    go_ret
    exact ⟨ret_boolC (by rw [T.out, t1, t2]; rfl), rfl⟩
theorem l00In_any (n l h : Int) (w : World) :
    Calls Try.prog 31 #[.int .i64 n, .int .i64 l, .int .i64 h] w fun e w' => e = .returned (.bool (decide (l ≤ n) && decide (n ≤ h))) ∧ w = w' := by
  cases t1 : decide (l ≤ n) <;> cases t2 : decide (n ≤ h)
  all_goals
    go_enter Try.func31, Try.ntmps31
    go_wp2
    go_ret
    exact ⟨rfl, rfl⟩
theorem nbB_eq (a : Int) : (decide (-1073741823 ≤ a) && decide (a ≤ 1073741823)) = nbB a := by
  unfold nbB
  rw [Bool.eq_iff_iff]; simp; omega
theorem l00In_nb (a : Int) (w : World) :
    Calls Try.prog 31 #[.int .i64 a, .int .i64 (-1073741823), .int .i64 1073741823] w fun e w' => e = .returned (.bool (nbB a)) ∧ w = w' := by
  rw [← nbB_eq]; exact l00In_any a _ _ w
theorem inCell_any (a b : Int) (ha : -2147483648 ≤ a ∧ a ≤ 2147483647) (hb : -2147483648 ≤ b ∧ b ≤ 2147483647) (w : World) :
    Calls Try.prog 23 #[.agg #[.int .i32 a, .int .i32 b], .int .i64 1073741823] w fun e w' => e = .returned (.bool (nbB a && nbB b)) ∧ Below w.heap.size w w' := by
  obtain ⟨ha1, ha2⟩ := ha
  obtain ⟨hb1, hb2⟩ := hb
  cases t1 : nbB a
  all_goals
    go_enter Try.func23, Try.ntmps23
    go_wp2_with (go_at_call 31; refine (l00In_nb _ _).mono ?_; rintro e w' ⟨rfl, rfl⟩)
    go_ret
    exact ⟨rfl, (Below.refl _ _).alloc (Nat.le_refl _) _⟩
def nbL (a b : Int) : List Value := [] ++ two (a - 1) (b - 1) ++ two (a - 1) b ++ two (a - 1) (b + 1) ++ two a (b - 1) ++ two a (b + 1) ++ two (a + 1) (b - 1) ++ two (a + 1) b ++ two (a + 1) (b + 1)
def NoRow (e : Ending) : Prop := ∃ x, e = .returned (.tuple #[.slice x 0 0, .int .i64 2])
def RowOf (base : Nat) (xs : List Value) (n : Nat) (e : Ending) (w' : World) : Prop := ∃ v, e = .returned (.tuple #[v, .int .i64 0]) ∧ w'.ownsRow base 29 2 v n xs
set_option maxRecDepth 8000 in
theorem specNb_out (a b : Int) (ha : -2147483648 ≤ a ∧ a ≤ 2147483647) (hb : -2147483648 ≤ b ∧ b ≤ 2147483647) (h : (nbB a && nbB b) = false) (w : World) :
    Calls Try.prog 11 #[.agg #[.int .i32 a, .int .i32 b]] w fun e w' => NoRow e ∧ Below w.heap.size w w' := by
  have HC := Lib.hid (inCell_any a b ha hb)
  rw [h] at HC
  clear ha hb h
  go_enter Try.func11, Try.ntmps11
  go_wp2_with fail
  refine (HC.out _).mono ?_
  rintro e w1 ⟨rfl, b1⟩
  have B1 := Lib.hid b1
  clear b1
  go_wp2
  go_ret2
  have := B1.out.size
  simp at this
  exact ⟨⟨_, rfl⟩, ((((Below.refl _ _).alloc (Nat.le_refl _) _).trans (B1.out.mono (by simp))).alloc (by omega) _)⟩
set_option maxRecDepth 8000 in
theorem implNb_out (a b : Int) (h : (nbB a && nbB b) = false) (w : World) :
    Calls Try.prog 10 #[.agg #[.int .i32 a, .int .i32 b]] w fun e w' => NoRow e ∧ Below w.heap.size w w' := by
  cases t1 : nbB a <;> cases t2 : nbB b <;> rw [t1, t2] at h <;> simp only [Bool.and_self, Bool.and_true, Bool.and_false, Bool.true_and, Bool.false_and, Bool.true_eq_false] at h
  all_goals
    go_enter Try.func10, Try.ntmps10
    go_wp2_with (go_at_call 22; refine (hasNb_any _ _).mono ?_; rintro e w' ⟨rfl, rfl⟩)
    go_ret2
    exact ⟨⟨_, rfl⟩, (Below.refl _ _).alloc (Nat.le_refl _) _⟩
end Go.Proofs.Ytaihooljphkpeaa
