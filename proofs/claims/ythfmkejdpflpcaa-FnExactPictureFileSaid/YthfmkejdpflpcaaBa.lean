/-
  CONTRACTS: the block of a cell, on both sides.
-/
import Derived.Test.YthfmkejdpflpcaaGpc
import Derived.RegionTactic
import Derived.ChangeAlike
import Derived.BigRegion
namespace Go.Proofs.Ythfmkejdpflpcaa
open Go.ChangeShapes Go.WideShapes Go.ChangeAt Go.RowKit
theorem l00In_at (n l h : Int) (w : World) :
    Calls Try.prog 92 #[.int .i64 n, .int .i64 l, .int .i64 h] w fun e w' => e = .returned (.bool (decide (l ≤ n) && decide (n ≤ h))) ∧ w = w' := by
  cases t1 : decide (l ≤ n) <;> cases t2 : decide (n ≤ h)
  all_goals
    go_enter Try.func92, Try.ntmps92
    go_wp2
    go_ret
    exact ⟨rfl, rfl⟩
/-- is it a column? -/
def colB (n : Int) : Bool := decide (-1000000 ≤ n) && decide (n ≤ 1000000)
theorem colB_yes {n : Int} (h : colB n = true) : -1000000 ≤ n ∧ n ≤ 1000000 := by simpa [colB] using h
theorem colB_mk {n : Int} (h : -1000000 ≤ n ∧ n ≤ 1000000) : colB n = true := by simpa [colB] using h
theorem isCol_any (n : Int) (w : World) : Calls Try.prog 95 #[.int .i64 n] w fun e w' => e = .returned (.bool (colB n)) ∧ w = w' := by
  cases t1 : decide (-1000000 ≤ n) <;> cases t2 : decide (n ≤ 1000000)
  all_goals
    have T : Hid (colB n = (decide (-1000000 ≤ n) && decide (n ≤ 1000000))) := Lib.hid rfl
    go_enter Try.func95, Try.ntmps95
    go_wp2
    go_ret
    exact ⟨mret_bool (by rw [T.out, t1, t2]; rfl), rfl⟩
theorem isPCell_any (x y : Int) (w : World) : Calls Try.prog 56 #[.int .i64 x, .int .i64 y] w fun e w' => e = .returned (.bool (colB x && colB y)) ∧ w = w' := by
  have A := Lib.hid (isCol_any x)
  have B := Lib.hid (isCol_any y)
  generalize colB x = a at A ⊢
  generalize colB y = b at B ⊢
  cases a
  all_goals
    go_enter Try.func56, Try.ntmps56
    go_wp2_with (first | ((with_reducible refine (A.out _).mono ?_); rintro e w' ⟨rfl, rfl⟩) | ((with_reducible refine (B.out _).mono ?_); rintro e w' ⟨rfl, rfl⟩))
    go_ret
    exact ⟨rfl, rfl⟩
theorem l07Cell_any (x y : Int) (w : World) : Calls Try.prog 52 #[.int .i64 x, .int .i64 y] w fun e w' => e = .returned (.bool (colB x && colB y)) ∧ w = w' := by
  have A : Hid (∀ w, Calls Try.prog 92 #[.int .i64 x, .int .i64 (-1000000), .int .i64 1000000] w fun e w' => e = .returned (.bool (colB x)) ∧ w = w') := Lib.hid (l00In_at x (-1000000) 1000000)
  have B : Hid (∀ w, Calls Try.prog 92 #[.int .i64 y, .int .i64 (-1000000), .int .i64 1000000] w fun e w' => e = .returned (.bool (colB y)) ∧ w = w') := Lib.hid (l00In_at y (-1000000) 1000000)
  generalize colB x = a at A ⊢
  generalize colB y = b at B ⊢
  cases a
  all_goals
    go_enter Try.func52, Try.ntmps52
    go_wp2_with (first | ((with_reducible refine (A.out _).mono ?_); rintro e w' ⟨rfl, rfl⟩) | ((with_reducible refine (B.out _).mono ?_); rintro e w' ⟨rfl, rfl⟩))
    go_ret
    exact ⟨rfl, rfl⟩
theorem l07Low_any (n : Int) (h : colB n = true) (w : World) : Calls Try.prog 93 #[.int .i64 n] w fun e w' => e = .returned (.int .i64 (n / 16)) ∧ w = w' := by
  obtain ⟨h0, h1⟩ := colB_yes h
  go_enter Try.func93, Try.ntmps93
  go_wp2
  go_ret
  exact ⟨mret_int (by omega), rfl⟩
theorem i32_in {a : Int} (h : -2147483648 ≤ a ∧ a ≤ 2147483647) : IntKind.i32.wrap a = a := by simp [IntKind.wrap, IntKind.bits, IntKind.signed]; omega
/-- the corner of the block of a cell -/
abbrev CO : TypeId := 46
abbrev atA (x y : Int) : Array Value := #[Value.int .i32 (x / 16), .int .i32 (y / 16)]
theorem l07Corner_any (x y : Int) (hx : colB x = true) (hy : colB y = true) (w : World) :
    Calls Try.prog 94 #[.int .i64 x, .int .i64 y] w fun e w' => e = .returned (.agg (atA x y)) ∧ Below w.heap.size w w' := by
  obtain ⟨x0, x1⟩ := colB_yes hx
  obtain ⟨y0, y1⟩ := colB_yes hy
  have A := Lib.hid (l07Low_any x hx)
  have B := Lib.hid (l07Low_any y hy)
  have ex := i32_in (a := x / 16) (by omega)
  have ey := i32_in (a := y / 16) (by omega)
  unfold atA
  generalize x / 16 = a at A ex ⊢
  generalize y / 16 = b at B ey ⊢
  go_enter Try.func94, Try.ntmps94
  go_wp2_with (first | ((with_reducible refine (A.out _).mono ?_); rintro e w' ⟨rfl, rfl⟩) | ((with_reducible refine (B.out _).mono ?_); rintro e w' ⟨rfl, rfl⟩))
  refine bodyPost_ret (v := .agg #[.int .i32 a, .int .i32 b]) (by simp [results, Try.results94, go_sem]) rfl ⟨rfl, ?_⟩
  exact (Below.refl _ _).alloc (Nat.le_refl _) _
theorem and15_i32 (a : Int) (h : -2147483648 ≤ a ∧ a ≤ 2147483647) : bits .and .i32 a 15 = a % 16 := by
  have h1 : (BitVec.ofInt 32 a).toNat = (a % 4294967296).toNat := by
    rw [BitVec.toNat_ofInt]; rfl
  have h2 : (BitVec.ofInt 32 15).toNat = 15 := rfl
  show IntKind.i32.wrap ((BitVec.ofInt 32 a &&& BitVec.ofInt 32 15).toNat : Int) = _
  rw [BitVec.toNat_and, h1, h2, show (15 : Nat) = 2 ^ 4 - 1 from rfl, Nat.and_two_pow_sub_one_eq_mod]
  have h3 : (((a % 4294967296).toNat % 2 ^ 4 : Nat) : Int) = a % 16 := by omega
  rw [h3]
  exact i32_in (by omega)
set_option maxRecDepth 20000 in
set_option maxHeartbeats 2000000 in
theorem inBlock_any (a b : Int) (ha : -2147483648 ≤ a ∧ a ≤ 2147483647) (hb : -2147483648 ≤ b ∧ b ≤ 2147483647) (w : World) :
    Calls Try.prog 113 #[.agg #[.int .i32 a, .int .i32 b]] w fun e w' => e = .returned (.tuple #[.agg (atA a b), .int .i64 (a % 16), .int .i64 (b % 16)]) ∧ Below w.heap.size w w' := by
  have ea := and15_i32 a ha
  have eb := and15_i32 b hb
  unfold atA
  go_enter Try.func113, Try.ntmps113
  go_wp2
  go_region
  go_wp2
  refine bodyPost_ret (v := .tuple #[.agg #[.int .i32 (a / 16), .int .i32 (b / 16)], .int .i64 (a % 16), .int .i64 (b % 16)]) (by simp [results, Try.results113, go_sem]) rfl ⟨rfl, ?_⟩
  exact ((((Below.refl _ _).alloc (Nat.le_refl _) _).alloc (by simp) _).alloc (by simp; omega) _).drew
/-- what BlockAt answers -/
def BaPost (x y : Int) (w : World) (e : Ending) (w' : World) : Prop :=
  e = .returned (.tuple #[.agg (if colB x && colB y then atA x y else #[.int .i32 0, .int .i32 0]), .int .i64 (if colB x && colB y then x % 16 else 0), .int .i64 (if colB x && colB y then y % 16 else 0), .int .i64 (if colB x && colB y then 0 else 2)]) ∧ Below w.heap.size w w'
theorem belowB {B n : Nat} {a w : World} (h : Below B a w) : Below B a (w.drewN n) := ⟨h.os, h.tape, h.output, h.size, h.block⟩
theorem eqCo_same (a b : Int) (w : World) :
    Calls Try.prog 40 #[.agg #[.int .i32 a, .int .i32 b], .agg #[.int .i32 a, .int .i32 b]] w fun e w' => e = .returned (.bool true) ∧ Below w.heap.size w w' := by
  go_enter Try.func40, Try.ntmps40
  go_wp2
  refine wp_loop_rounds 3 ?_
  rw [rounds_succ]
  go_wp2
  go_quiet (fail)
  go_wp2
  rw [rounds_succ]
  go_wp2
  go_quiet (fail)
  go_wp2
  rw [rounds_succ]
  go_wp2
  go_ret
  exact ⟨rfl, by repeat (first | exact Below.refl _ _ | apply belowB | refine Below.alloc ?_ (by first | exact Nat.le_refl _ | (simp; done) | (simp; omega)) _)⟩
end Go.Proofs.Ythfmkejdpflpcaa
