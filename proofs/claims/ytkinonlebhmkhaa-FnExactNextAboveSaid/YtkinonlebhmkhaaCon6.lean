/-
  CONTRACTS: the next numbers; numbers without subnormal ones.
-/
import Derived.Test.YtkinonlebhmkhaaCon5
namespace Go.Proofs.Ytkinonlebhmkhaa
open Go.ChangeShapes Go.WideShapes Go.ChangeAt Go.RowKit
open Fl

/-- the next number above -/
def above (a : Nat) : Nat := if kd a = 4 then a else if key a = 2139095040 then a else if kd a = 0 then fromKey 1 else fromKey (key a + 1)
theorem kd_zero_sz (a : Nat) : kd a = 0 ↔ sz a = 0 := by
  unfold kd
  split
  · simp [*]
  · rename_i h; simp only [h, iff_false]
    repeat' split
    all_goals decide
theorem kd_le (a : Nat) (h : kd a ≠ 4) : sz a ≤ 2139095040 := by
  rcases Nat.lt_or_ge 2139095040 (sz a) with hc | hc
  · exact absurd (by unfold kd; rw [if_neg (by omega), if_neg (by omega), if_neg (by omega), if_neg (by omega)]) h
  · exact hc
theorem above_place (a : Nat) (h1 : kd a ≠ 4) (h2 : key a ≠ 2139095040) : Place (key a + 1) := by
  have := kd_le a h1
  unfold key at h2
  unfold Place key
  cases hn : neg a
  · rw [hn] at h2; simp only [Bool.false_eq_true, ↓reduceIte] at h2 ⊢; omega
  · simp only [↓reduceIte]; omega
theorem place_one : Place 1 := by unfold Place; omega
theorem zero_test (a : Nat) (h : kd a ≠ 4) : (FloatKind.f32.format.order a 0 == some .eq) = decide (kd a = 0) := by
  rw [show FloatKind.f32.format.order a 0 = Ieee.single.order a 0 from rfl, order32_zero_eq (by rw [nan_kd]; simpa using h)]
  unfold zero32
  rw [decide_eq_decide, kd_zero_sz]; rfl
theorem NextAbove_any (a : Nat) (h : W32 a) (w : World) :
    Calls Try.prog 29 #[.float .f32 a] w fun e w' => e = .returned (.float .f32 (above a)) ∧ w = w' := by
  by_cases hk : kd a = 4
  · go_enter Try.func29, Try.ntmps29
    go_wp2_with (first | (go_at_call 44; refine (kindOf_any _ h _).mono ?_; rintro e w' ⟨rfl, rfl⟩) | (go_at_call 46; refine (isNaN_any _ _).mono ?_; rintro e w' ⟨rfl, rfl⟩))
    go_ret
    exact ⟨ret_float (by unfold above; rw [if_pos hk]), rfl⟩
  · by_cases hi : key a = 2139095040
    · have hb : (key a == 2139095040) = true := by simpa using hi
      have hab : above a = a := by unfold above; rw [if_neg hk, if_pos hi]
      clear hi
      go_enter Try.func29, Try.ntmps29
      go_wp2_with (first | (go_at_call 44; refine (kindOf_any _ h _).mono ?_; rintro e w' ⟨rfl, rfl⟩) | (go_at_call 46; refine (isNaN_any _ _).mono ?_; rintro e w' ⟨rfl, rfl⟩) | (go_at_call 50; refine (placeOf_any _ h _).mono ?_; rintro e w' ⟨rfl, rfl⟩))
      go_ret
      exact ⟨ret_float hab.symm, rfl⟩
    · have hb : (key a == 2139095040) = false := by simpa using hi
      have hz := zero_test a hk
      have hp := above_place a hk hi
      have hp' := hp
      unfold Place at hp'
      obtain ⟨p1, p2⟩ := hp'
      by_cases h0 : kd a = 0
      · have hab : above a = fromKey 1 := by unfold above; rw [if_neg hk, if_neg hi, if_pos h0]
        have hz' : (FloatKind.f32.format.order a 0 == some .eq) = true := by rw [hz]; simpa using h0
        clear hz hi h0
        have hab := Lib.hid hab
        go_enter Try.func29, Try.ntmps29
        go_wp2_with (first | (go_at_call 44; refine (kindOf_any _ h _).mono ?_; rintro e w' ⟨rfl, rfl⟩) | (go_at_call 46; refine (isNaN_any _ _).mono ?_; rintro e w' ⟨rfl, rfl⟩) | (go_at_call 50; refine (placeOf_any _ h _).mono ?_; rintro e w' ⟨rfl, rfl⟩) | (go_at_call 52; refine (atPlace_any _ place_one _).mono ?_; rintro e w' ⟨rfl, rfl⟩))
        go_ret
        exact ⟨ret_float hab.out.symm, rfl⟩
      · have hab : above a = fromKey (key a + 1) := by unfold above; rw [if_neg hk, if_neg hi, if_neg h0]
        have hz' : (FloatKind.f32.format.order a 0 == some .eq) = false := by rw [hz]; simpa using h0
        clear hz hi h0
        have hab := Lib.hid hab
        go_enter Try.func29, Try.ntmps29
        go_wp2_with (first | (go_at_call 44; refine (kindOf_any _ h _).mono ?_; rintro e w' ⟨rfl, rfl⟩) | (go_at_call 46; refine (isNaN_any _ _).mono ?_; rintro e w' ⟨rfl, rfl⟩) | (go_at_call 50; refine (placeOf_any _ h _).mono ?_; rintro e w' ⟨rfl, rfl⟩) | (go_at_call 52; refine (atPlace_any _ hp _).mono ?_; rintro e w' ⟨rfl, rfl⟩))
        go_ret
        exact ⟨ret_float hab.out.symm, rfl⟩
theorem key_zero (a : Nat) (h : kd a = 0) : key a = if neg a then -1 else 0 := by
  have := (kd_zero_sz a).1 h
  unfold key; rw [this]; cases neg a <;> rfl
theorem key_one (a : Nat) (h : kd a ≠ 0) : key a ≠ -1 := by
  have : sz a ≠ 0 := fun hc => h ((kd_zero_sz a).2 hc)
  unfold key; cases neg a
  · simp only [Bool.false_eq_true, ↓reduceIte]; omega
  · simp only [↓reduceIte]; omega
theorem l01Above_any (a : Nat) (h : W32 a) (w : World) :
    Calls Try.prog 53 #[.float .f32 a] w fun e w' => e = .returned (.float .f32 (above a)) ∧ w = w' := by
  by_cases hk : kd a = 4
  · go_enter Try.func53, Try.ntmps53
    go_wp2_with (go_at_call 42; refine (l01NaN_any _ _).mono ?_; rintro e w' ⟨rfl, rfl⟩)
    go_ret
    exact ⟨ret_float (by unfold above; rw [if_pos hk]), rfl⟩
  · by_cases h0 : kd a = 0
    · have hkz := key_zero a h0
      have hab : above a = fromKey 1 := by
        unfold above; rw [if_neg hk, if_neg (by rw [hkz]; split <;> omega), if_pos h0]
      have hab := Lib.hid hab
      cases hn : neg a
      all_goals
        rw [hn] at hkz
        simp only [Bool.false_eq_true, ↓reduceIte] at hkz
        go_enter Try.func53, Try.ntmps53
        go_wp2_with (first | (go_at_call 42; refine (l01NaN_any _ _).mono ?_; rintro e w' ⟨rfl, rfl⟩) | (go_at_call 49; refine (l01Key_any _ h _).mono ?_; rintro e w' ⟨rfl, rfl⟩) | (go_at_call 51; refine (l01FromKey_any _ place_one _).mono ?_; rintro e w' ⟨rfl, rfl⟩))
        go_ret
        exact ⟨ret_float hab.out.symm, rfl⟩
    · have h1 : (key a == -1) = false := by simpa using key_one a h0
      by_cases hi : key a = 2139095040
      · have hb : (key a == 2139095040) = true := by simpa using hi
        have hab : above a = a := by unfold above; rw [if_neg hk, if_pos hi]
        clear hi
        go_enter Try.func53, Try.ntmps53
        go_wp2_with (first | (go_at_call 42; refine (l01NaN_any _ _).mono ?_; rintro e w' ⟨rfl, rfl⟩) | (go_at_call 49; refine (l01Key_any _ h _).mono ?_; rintro e w' ⟨rfl, rfl⟩))
        go_ret
        exact ⟨ret_float hab.symm, rfl⟩
      · have hb : (key a == 2139095040) = false := by simpa using hi
        have hp := above_place a hk hi
        have hp' := hp
        unfold Place at hp'
        obtain ⟨p1, p2⟩ := hp'
        have hab : above a = fromKey (key a + 1) := by unfold above; rw [if_neg hk, if_neg hi, if_neg h0]
        have hab := Lib.hid hab
        clear hi h0
        go_enter Try.func53, Try.ntmps53
        go_wp2_with (first | (go_at_call 42; refine (l01NaN_any _ _).mono ?_; rintro e w' ⟨rfl, rfl⟩) | (go_at_call 49; refine (l01Key_any _ h _).mono ?_; rintro e w' ⟨rfl, rfl⟩) | (go_at_call 51; refine (l01FromKey_any _ hp _).mono ?_; rintro e w' ⟨rfl, rfl⟩))
        go_ret
        exact ⟨ret_float hab.out.symm, rfl⟩
end Go.Proofs.Ytkinonlebhmkhaa
