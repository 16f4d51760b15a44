/-
  CONTRACTS: the block of a cell, on both sides.
-/
import Derived.Test.YtmanikfnigpjgaaMh
import Derived.RegionTactic
import Derived.ChangeAlike
import Derived.BigRegion
namespace Go.Proofs.Ytmanikfnigpjgaa
open Go.ChangeShapes Go.WideShapes Go.ChangeAt Go.RowKit
theorem l00In_at (n l h : Int) (w : World) :
    Calls Try.prog 101 #[.int .i64 n, .int .i64 l, .int .i64 h] w fun e w' => e = .returned (.bool (decide (l ≤ n) && decide (n ≤ h))) ∧ w = w' := by
  cases t1 : decide (l ≤ n) <;> cases t2 : decide (n ≤ h)
  all_goals
    go_enter Try.func101, Try.ntmps101
    go_wp2
    go_ret
    exact ⟨rfl, rfl⟩
/-- is it a column? -/
def colB (n : Int) : Bool := decide (-1000000 ≤ n) && decide (n ≤ 1000000)
theorem colB_yes {n : Int} (h : colB n = true) : -1000000 ≤ n ∧ n ≤ 1000000 := by simpa [colB] using h
theorem colB_mk {n : Int} (h : -1000000 ≤ n ∧ n ≤ 1000000) : colB n = true := by simpa [colB] using h
theorem isCol_any (n : Int) (w : World) : Calls Try.prog 102 #[.int .i64 n] w fun e w' => e = .returned (.bool (colB n)) ∧ w = w' := by
  cases t1 : decide (-1000000 ≤ n) <;> cases t2 : decide (n ≤ 1000000)
  all_goals
    have T : Hid (colB n = (decide (-1000000 ≤ n) && decide (n ≤ 1000000))) := Lib.hid rfl
    go_enter Try.func102, Try.ntmps102
    go_wp2
    go_ret
    exact ⟨mret_bool (by rw [T.out, t1, t2]; rfl), rfl⟩
theorem isPCell_any (x y : Int) (w : World) : Calls Try.prog 67 #[.int .i64 x, .int .i64 y] w fun e w' => e = .returned (.bool (colB x && colB y)) ∧ w = w' := by
  have A := Lib.hid (isCol_any x)
  have B := Lib.hid (isCol_any y)
  generalize colB x = a at A ⊢
  generalize colB y = b at B ⊢
  cases a
  all_goals
    go_enter Try.func67, Try.ntmps67
    go_wp2_with (first | ((with_reducible refine (A.out _).mono ?_); rintro e w' ⟨rfl, rfl⟩) | ((with_reducible refine (B.out _).mono ?_); rintro e w' ⟨rfl, rfl⟩))
    go_ret
    exact ⟨rfl, rfl⟩
theorem l07Cell_any (x y : Int) (w : World) : Calls Try.prog 64 #[.int .i64 x, .int .i64 y] w fun e w' => e = .returned (.bool (colB x && colB y)) ∧ w = w' := by
  have A : Hid (∀ w, Calls Try.prog 101 #[.int .i64 x, .int .i64 (-1000000), .int .i64 1000000] w fun e w' => e = .returned (.bool (colB x)) ∧ w = w') := Lib.hid (l00In_at x (-1000000) 1000000)
  have B : Hid (∀ w, Calls Try.prog 101 #[.int .i64 y, .int .i64 (-1000000), .int .i64 1000000] w fun e w' => e = .returned (.bool (colB y)) ∧ w = w') := Lib.hid (l00In_at y (-1000000) 1000000)
  generalize colB x = a at A ⊢
  generalize colB y = b at B ⊢
  cases a
  all_goals
    go_enter Try.func64, Try.ntmps64
    go_wp2_with (first | ((with_reducible refine (A.out _).mono ?_); rintro e w' ⟨rfl, rfl⟩) | ((with_reducible refine (B.out _).mono ?_); rintro e w' ⟨rfl, rfl⟩))
    go_ret
    exact ⟨rfl, rfl⟩
theorem l07Low_any (n : Int) (h : colB n = true) (w : World) : Calls Try.prog 66 #[.int .i64 n] w fun e w' => e = .returned (.int .i64 (n / 16)) ∧ w = w' := by
  obtain ⟨h0, h1⟩ := colB_yes h
  go_enter Try.func66, Try.ntmps66
  go_wp2
  go_ret
  exact ⟨mret_int (by omega), rfl⟩
theorem i32_in {a : Int} (h : -2147483648 ≤ a ∧ a ≤ 2147483647) : IntKind.i32.wrap a = a := by simp [IntKind.wrap, IntKind.bits, IntKind.signed]; omega
/-- the corner of the block of a cell -/
abbrev CO : TypeId := 39
abbrev atA (x y : Int) : Array Value := #[Value.int .i32 (x / 16), .int .i32 (y / 16)]
theorem l07Corner_any (x y : Int) (hx : colB x = true) (hy : colB y = true) (w : World) :
    Calls Try.prog 65 #[.int .i64 x, .int .i64 y] w fun e w' => e = .returned (.agg (atA x y)) ∧ Below w.heap.size w w' := by
  obtain ⟨x0, x1⟩ := colB_yes hx
  obtain ⟨y0, y1⟩ := colB_yes hy
  have A := Lib.hid (l07Low_any x hx)
  have B := Lib.hid (l07Low_any y hy)
  have ex := i32_in (a := x / 16) (by omega)
  have ey := i32_in (a := y / 16) (by omega)
  unfold atA
  generalize x / 16 = a at A ex ⊢
  generalize y / 16 = b at B ey ⊢
  go_enter Try.func65, Try.ntmps65
  go_wp2_with (first | ((with_reducible refine (A.out _).mono ?_); rintro e w' ⟨rfl, rfl⟩) | ((with_reducible refine (B.out _).mono ?_); rintro e w' ⟨rfl, rfl⟩))
  refine bodyPost_ret (v := .agg #[.int .i32 a, .int .i32 b]) (by simp [results, Try.results65, go_sem]) rfl ⟨rfl, ?_⟩
  exact (Below.refl _ _).alloc (Nat.le_refl _) _
theorem and15_i32 (a : Int) (h : -2147483648 ≤ a ∧ a ≤ 2147483647) : bits .and .i32 a 15 = a % 16 := by
  have h1 : (BitVec.ofInt 32 a).toNat = (a % 4294967296).toNat := by
    rw [BitVec.toNat_ofInt]; rfl
  have h2 : (BitVec.ofInt 32 15).toNat = 15 := rfl
  show IntKind.i32.wrap ((BitVec.ofInt 32 a &&& BitVec.ofInt 32 15).toNat : Int) = _
  rw [BitVec.toNat_and, h1, h2, show (15 : Nat) = 2 ^ 4 - 1 from rfl, Nat.and_two_pow_sub_one_eq_mod]
  have h3 : (((a % 4294967296).toNat % 2 ^ 4 : Nat) : Int) = a % 16 := by omega
  rw [h3]
  exact i32_in (by omega)
set_option maxRecDepth 20000 in
set_option maxHeartbeats 2000000 in
theorem inBlock_any (a b : Int) (ha : -2147483648 ≤ a ∧ a ≤ 2147483647) (hb : -2147483648 ≤ b ∧ b ≤ 2147483647) (w : World) :
    Calls Try.prog 68 #[.agg #[.int .i32 a, .int .i32 b]] w fun e w' => e = .returned (.tuple #[.agg (atA a b), .int .i64 (a % 16), .int .i64 (b % 16)]) ∧ Below w.heap.size w w' := by
  have ea := and15_i32 a ha
  have eb := and15_i32 b hb
  unfold atA
  go_enter Try.func68, Try.ntmps68
  go_wp2
  go_region
  go_wp2
  refine bodyPost_ret (v := .tuple #[.agg #[.int .i32 (a / 16), .int .i32 (b / 16)], .int .i64 (a % 16), .int .i64 (b % 16)]) (by simp [results, Try.results68, go_sem]) rfl ⟨rfl, ?_⟩
  exact ((((Below.refl _ _).alloc (Nat.le_refl _) _).alloc (by simp) _).alloc (by simp; omega) _).drew
/-- what BlockAt answers -/
def BaPost (x y : Int) (w : World) (e : Ending) (w' : World) : Prop :=
  e = .returned (.tuple #[.agg (if colB x && colB y then atA x y else #[.int .i32 0, .int .i32 0]), .int .i64 (if colB x && colB y then x % 16 else 0), .int .i64 (if colB x && colB y then y % 16 else 0), .int .i64 (if colB x && colB y then 0 else 2)]) ∧ Below w.heap.size w w'
set_option maxRecDepth 20000 in
set_option maxHeartbeats 2000000 in
theorem sBlockAt_any (x y : Int) (w : World) : Calls Try.prog 27 #[.int .i64 x, .int .i64 y] w (BaPost x y w) := by
  unfold BaPost
  have L := Lib.hid (l07Cell_any x y)
  cases hb : (colB x && colB y)
  · rw [hb] at L
    simp only [Bool.false_eq_true, if_false]
    clear hb
    go_enter Try.func27, Try.ntmps27
    go_wp2_with ((with_reducible refine (L.out _).mono ?_); rintro e w' ⟨rfl, rfl⟩)
    refine bodyPost_ret (v := .tuple #[.agg #[.int .i32 0, .int .i32 0], .int .i64 0, .int .i64 0, .int .i64 2]) (by simp [results, Try.results27, go_sem]) rfl ⟨rfl, ?_⟩
    exact (Below.refl _ _).alloc (Nat.le_refl _) _
  · rw [hb] at L
    simp only [if_true]
    rw [Bool.and_eq_true] at hb
    obtain ⟨hx, hy⟩ := hb
    obtain ⟨x0, x1⟩ := colB_yes hx
    obtain ⟨y0, y1⟩ := colB_yes hy
    have A := Lib.hid (l07Low_any x hx)
    have B := Lib.hid (l07Low_any y hy)
    have C := Lib.hid (l07Corner_any x y hx hy)
    have EX : Hid (x - 16 * (x / 16) = x % 16) := Lib.hid (by omega)
    have EY : Hid (y - 16 * (y / 16) = y % 16) := Lib.hid (by omega)
    unfold atA at C ⊢
    obtain ⟨a, ha⟩ : ∃ a, x / 16 = a := ⟨_, rfl⟩
    obtain ⟨b, hb⟩ : ∃ b, y / 16 = b := ⟨_, rfl⟩
    have a0 : -62500 ≤ a ∧ a ≤ 62500 := by omega
    have b0 : -62500 ≤ b ∧ b ≤ 62500 := by omega
    obtain ⟨a1, a2⟩ := a0
    obtain ⟨b1, b2⟩ := b0
    rw [ha] at A C EX ⊢
    rw [hb] at B C EY ⊢
    clear ha hb hx hy
    go_enter Try.func27, Try.ntmps27
    go_wp2_with ((with_reducible refine (L.out _).mono ?_); rintro e w' ⟨rfl, rfl⟩)
    have B0 : Hid (Below w.heap.size w (w.alloc (.cells #[.int .i32 0, .int .i32 0] CO))) := Lib.hid ((Below.refl _ w).alloc (Nat.le_refl _) _)
    have N0 : Hid ((w.alloc (.cells #[.int .i32 0, .int .i32 0] CO)).heap[w.heap.size]? = some (.cells #[.int .i32 0, .int .i32 0] CO (0, 0))) := Lib.hid (World.alloc_heap_new w _)
    have Z0 : Hid (w.heap.size < (w.alloc (.cells #[.int .i32 0, .int .i32 0] CO)).heap.size) := Lib.hid (by simp)
    generalize w.alloc (.cells #[.int .i32 0, .int .i32 0] CO) = w1 at B0 N0 Z0 ⊢
    refine (C.out _).mono ?_
    rintro e w2 ⟨rfl, b2'⟩
    have B2 := Lib.hid (B0.out.trans (b2'.mono (Nat.le_of_lt Z0.out)))
    have N2 := Lib.hid ((b2'.block _ Z0.out).trans N0.out)
    have c0 : w2.cell? ⟨w.heap.size, 0, none⟩ = some (.int .i32 0) := Lib.cell_of_heap N2.out 0
    have c1 : w2.cell? ⟨w.heap.size, 1, none⟩ = some (.int .i32 0) := Lib.cell_of_heap N2.out 1
    have f0 : w2.frozen? ⟨w.heap.size, 0, none⟩ = false := Lib.frozen_of_heap N2.out 0
    have f1 : w2.frozen? ⟨w.heap.size, 1, none⟩ = false := Lib.frozen_of_heap N2.out 1
    clear b2' B0 N0 Z0
    go_wp2_with (first | ((with_reducible refine (A.out _).mono ?_); rintro e w' ⟨rfl, rfl⟩) | ((with_reducible refine (B.out _).mono ?_); rintro e w' ⟨rfl, rfl⟩))
    refine bodyPost_ret (v := .tuple #[.agg #[.int .i32 a, .int .i32 b], .int .i64 (x - 16 * a), .int .i64 (y - 16 * b), .int .i64 0]) ?_ rfl ⟨?_, ?_⟩
    · simp [results, Try.results27, go_sem, c0, c1]
    · rw [EX.out, EY.out]
    · exact (B2.out.setCell (p := ⟨w.heap.size, _, none⟩) (by simp) _).setCell (p := ⟨w.heap.size, _, none⟩) (by simp) _
set_option maxRecDepth 20000 in
set_option maxHeartbeats 2000000 in
theorem iBlockAt_any (x y : Int) (w : World) : Calls Try.prog 28 #[.int .i64 x, .int .i64 y] w (BaPost x y w) := by
  unfold BaPost
  have L := Lib.hid (isPCell_any x y)
  cases hb : (colB x && colB y)
  · rw [hb] at L
    simp only [Bool.false_eq_true, if_false]
    clear hb
    go_enter Try.func28, Try.ntmps28
    go_wp2_with ((with_reducible refine (L.out _).mono ?_); rintro e w' ⟨rfl, rfl⟩)
    refine bodyPost_ret (v := .tuple #[.agg #[.int .i32 0, .int .i32 0], .int .i64 0, .int .i64 0, .int .i64 2]) (by simp [results, Try.results28, go_sem]) rfl ⟨rfl, ?_⟩
    exact (Below.refl _ _).alloc (Nat.le_refl _) _
  · rw [hb] at L
    simp only [if_true]
    rw [Bool.and_eq_true] at hb
    obtain ⟨hx, hy⟩ := hb
    obtain ⟨x0, x1⟩ := colB_yes hx
    obtain ⟨y0, y1⟩ := colB_yes hy
    have C := Lib.hid (inBlock_any x y (by omega) (by omega))
    have ex := i32_in (a := x) (by omega)
    have ey := i32_in (a := y) (by omega)
    unfold atA at C ⊢
    generalize x / 16 = a at C ⊢
    generalize y / 16 = b at C ⊢
    generalize x % 16 = c at C ⊢
    generalize y % 16 = d at C ⊢
    clear hx hy
    go_enter Try.func28, Try.ntmps28
    go_wp2_with ((with_reducible refine (L.out _).mono ?_); rintro e w' ⟨rfl, rfl⟩)
    have B0 : Hid (Below w.heap.size w (w.alloc (.cells #[.int .i32 0, .int .i32 0] CO))) := Lib.hid ((Below.refl _ w).alloc (Nat.le_refl _) _)
    have N0 : Hid ((w.alloc (.cells #[.int .i32 0, .int .i32 0] CO)).heap[w.heap.size]? = some (.cells #[.int .i32 0, .int .i32 0] CO (0, 0))) := Lib.hid (World.alloc_heap_new w _)
    have Z0 : Hid (w.heap.size < (w.alloc (.cells #[.int .i32 0, .int .i32 0] CO)).heap.size) := Lib.hid (by simp)
    generalize w.alloc (.cells #[.int .i32 0, .int .i32 0] CO) = w1 at B0 N0 Z0 ⊢
    refine (C.out _).mono ?_
    rintro e w2 ⟨rfl, b2'⟩
    have B2 := Lib.hid (B0.out.trans (b2'.mono (Nat.le_of_lt Z0.out)))
    have N2 := Lib.hid ((b2'.block _ Z0.out).trans N0.out)
    have Z2 := Lib.hid (Nat.lt_of_lt_of_le Z0.out b2'.size)
    have z2 := Z2.out
    have c0 : w2.cell? ⟨w.heap.size, 0, none⟩ = some (.int .i32 0) := Lib.cell_of_heap N2.out 0
    have c1 : w2.cell? ⟨w.heap.size, 1, none⟩ = some (.int .i32 0) := Lib.cell_of_heap N2.out 1
    have f0 : w2.frozen? ⟨w.heap.size, 0, none⟩ = false := Lib.frozen_of_heap N2.out 0
    have f1 : w2.frozen? ⟨w.heap.size, 1, none⟩ = false := Lib.frozen_of_heap N2.out 1
    clear b2' B0 N0 Z0
    go_wp2
    refine bodyPost_ret (v := .tuple #[.agg #[.int .i32 a, .int .i32 b], .int .i64 c, .int .i64 d, .int .i64 0]) ?_ rfl ⟨?_, ?_⟩
    · simp [results, Try.results28, go_sem, c0, c1, z2]
    · rfl
    · exact ((B2.out.setCell (p := ⟨w.heap.size, _, none⟩) (by simp) _).setCell (p := ⟨w.heap.size, _, none⟩) (by simp) _).alloc (by simp; omega) _
theorem belowB {B n : Nat} {a w : World} (h : Below B a w) : Below B a (w.drewN n) := ⟨h.os, h.tape, h.output, h.size, h.block⟩
theorem eqCo_same (a b : Int) (w : World) :
    Calls Try.prog 29 #[.agg #[.int .i32 a, .int .i32 b], .agg #[.int .i32 a, .int .i32 b]] w fun e w' => e = .returned (.bool true) ∧ Below w.heap.size w w' := by
  go_enter Try.func29, Try.ntmps29
  go_wp2
  refine wp_loop_rounds 3 ?_
  rw [rounds_succ]
  go_wp2
  go_quiet (fail)
  go_wp2
  rw [rounds_succ]
  go_wp2
  go_quiet (fail)
  go_wp2
  rw [rounds_succ]
  go_wp2
  go_ret
  exact ⟨rfl, by repeat (first | exact Below.refl _ _ | apply belowB | refine Below.alloc ?_ (by first | exact Nat.le_refl _ | (simp; done) | (simp; omega)) _)⟩
end Go.Proofs.Ytmanikfnigpjgaa
