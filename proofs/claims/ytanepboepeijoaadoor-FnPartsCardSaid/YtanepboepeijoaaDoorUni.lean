import Derived.Test.YtanepboepeijoaaDoorJn
import Derived.Test.YtanepboepeijoaaDoorOrd
namespace Go.Proofs.YtanepboepeijoaaDoor
open Go.ChangeShapes Go.WideShapes Go.ChangeAt Go.RowKit
open Fl Ieee Go.Deep
theorem expo_range (a : Nat) (hf : kd a < 3) : -149 ≤ expo a ∧ expo a ≤ 104 := by
  have hs : sz a < 2139095040 := by
    unfold kd at hf
    repeat (split at hf <;> try omega)
  unfold expo
  split <;> omega
theorem keptBits_exact {V : Nat} (h : V / 2 ^ (lastBit V - 1) % 2 = 0) : keptBits V = V / 2 ^ lastBit V := by
  have hl : lastBit V = lastBit V - 1 + 1 := by unfold lastBit; omega
  unfold keptBits
  rw [h]
  conv => rhs; rw [hl, Nat.pow_succ, ← Nat.div_div_eq_div_mul]
  simp
theorem word_false (r : Nat) : single.word false r = r := by unfold Format.word; simp
theorem unit_lt {e : Int} (p : Nat) (hp : e + 640 = p) (h0 : -149 ≤ e) (h1 : e ≤ 104) : wordE (1 * 2 ^ p) < 2139095040 := by
  have hl : (1 * 2 ^ p).log2 = p := by rw [Nat.one_mul, Nat.log2_two_pow]
  have hd : 1 * 2 ^ p / 2 ^ lastBit (1 * 2 ^ p) ≤ 8388608 := by
    have hq : p ≤ 23 + lastBit (1 * 2 ^ p) := by unfold lastBit; rw [hl]; omega
    have : 1 * 2 ^ p ≤ 8388608 * 2 ^ lastBit (1 * 2 ^ p) := by
      generalize lastBit (1 * 2 ^ p) = q at hq ⊢
      rw [show (8388608 : Nat) = 2 ^ 23 from rfl, ← Nat.pow_add, Nat.one_mul]
      exact Nat.pow_le_pow_right (n := 2) (by omega) hq
    exact Nat.div_le_of_le_mul (Nat.le_trans this (Nat.le_of_eq (Nat.mul_comm _ _)))
  have hb : lastBit (1 * 2 ^ p) ≤ 721 := by unfold lastBit; rw [hl]; omega
  unfold wordE sizeZ
  omega
theorem implUnit_fin (a p : Nat) (h : W32 a) (hf : kd a < 3) (hp : expo a + 640 = p) (w : World) :
    Calls Tryd.prog 27 #[.float .f32 a] w fun e w' => e = .returned (.tuple #[.float .f32 (wordE (1 * 2 ^ p)), .int .i64 0]) ∧ Below w.heap.size w w' := by
  obtain ⟨h0, h1⟩ := expo_range a hf
  have hj := joinParts_x false 1 p (expo a) (by omega) hp (by omega) (by omega)
  have HJ := Lib.hid hj
  clear hj hp
  go_enter Tryd.func27, Tryd.ntmps27
  go_wp2_with (first | (go_at_call 25; refine (implSplit_fin _ h hf _).mono ?_; rintro e w' ⟨rfl, rfl⟩) | (go_at_call 49; refine (HJ.out _).mono ?_; rintro e w1 ⟨rfl, b1⟩; have B1 := Lib.hid b1; clear b1))
  exact bodyPost_ret (v := .tuple #[.float .f32 (wordE (1 * 2 ^ p)), .int .i64 0]) (by simp [results, Tryd.results27, go_sem]) rfl ⟨rfl, B1.out⟩
theorem implUnit_odd (a : Nat) (h : W32 a) (hf : 3 ≤ kd a) (w : World) :
    Calls Tryd.prog 27 #[.float .f32 a] w fun e w' => e = .returned (.tuple #[.float .f32 0, .int .i64 2]) ∧ w = w' := by
  go_enter Tryd.func27, Tryd.ntmps27
  go_wp2_with (go_at_call 25; refine (implSplit_odd _ h hf _).mono ?_; rintro e w' ⟨rfl, rfl⟩)
  exact bodyPost_ret (v := .tuple #[.float .f32 0, .int .i64 2]) (by simp [results, Tryd.results27, go_sem]) rfl ⟨rfl, rfl⟩
theorem kd_unit {e : Int} (p : Nat) (hp : e + 640 = p) (h0 : -149 ≤ e) (h1 : e ≤ 104) : kd (wordE (1 * 2 ^ p)) ≠ 4 := by
  have h := unit_lt p hp h0 h1
  generalize wordE (1 * 2 ^ p) = r at h
  have hs : sz r = r := Nat.mod_eq_of_lt (by omega)
  unfold kd
  rw [hs]
  repeat (split <;> try omega)
end Go.Proofs.YtanepboepeijoaaDoor
