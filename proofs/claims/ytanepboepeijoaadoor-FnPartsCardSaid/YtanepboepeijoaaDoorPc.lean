import Derived.Test.YtanepboepeijoaaDoorTk
namespace Go.Proofs.YtanepboepeijoaaDoor
open Go.ChangeShapes Go.WideShapes Go.ChangeAt Go.RowKit
open Fl
theorem nat_beq_int (a b : Nat) : ((a : Int) == (b : Int)) = (a == b) := by
  rw [Bool.eq_iff_iff]; simp; omega
/-- are two numbers the same? -/
def same (a b : Nat) : Bool := if kd a = 4 then decide (kd b = 4) else a == b
theorem implSame_any (a b : Nat) (ha : W32 a) (hb : W32 b) (w : World) :
    Calls Tryd.prog 20 #[.float .f32 a, .float .f32 b] w fun e w' => e = .returned (.bool (same a b)) ∧ w = w' := by
  by_cases hk : kd a = 4
  all_goals
    go_enter Tryd.func20, Tryd.ntmps20
    go_wp2_with (first | (go_at_call 30; refine (kindOf_any _ (by assumption) _).mono ?_; rintro e w' ⟨rfl, rfl⟩) | (go_at_call 31; refine (isNaN_any _ _).mono ?_; rintro e w' ⟨rfl, rfl⟩))
    go_ret
    exact ⟨ret_bool (by simp [same, hk, nat_beq_int]), rfl⟩
theorem l01Same_any (a b : Nat) (ha : W32 a) (hb : W32 b) (w : World) :
    Calls Tryd.prog 42 #[.float .f32 a, .float .f32 b] w fun e w' => e = .returned (.bool (same a b)) ∧ w = w' := by
  by_cases hk : kd a = 4 <;> by_cases hl : kd b = 4
  all_goals
    go_enter Tryd.func42, Tryd.ntmps42
    go_wp2_with (go_at_call 43; refine (l01NaN_any _ _).mono ?_; rintro e w' ⟨rfl, rfl⟩)
    go_ret
    exact ⟨ret_bool (by first | (simp [same, hk, hl, nat_beq_int]; done) | (simp [same, hk, hl, nat_beq_int]; intro hab; subst hab; exact hk hl)), rfl⟩
theorem specSame_any (a b : Nat) (ha : W32 a) (hb : W32 b) (w : World) :
    Calls Tryd.prog 18 #[.float .f32 a, .float .f32 b] w fun e w' => e = .returned (.bool (same a b)) ∧ w = w' := by
  go_enter Tryd.func18, Tryd.ntmps18
  go_wp2_with (go_at_call 42; refine (l01Same_any _ _ ha hb _).mono ?_; rintro e w' ⟨rfl, rfl⟩)
  go_ret
  exact ⟨rfl, rfl⟩
theorem isNegative_any (a : Nat) (h : W32 a) (w : World) :
    Calls Tryd.prog 48 #[.float .f32 a] w fun e w' => e = .returned (.bool (neg a)) ∧ w = w' := by
  have hm := and_sign a h
  cases hn : neg a
  all_goals
    rw [hn] at hm
    simp only [Bool.false_eq_true, ↓reduceIte] at hm
    go_enter Tryd.func48, Tryd.ntmps48
    go_wp2
    go_ret
    exact ⟨rfl, rfl⟩
theorem opposite_any (a : Nat) (h : W32 a) (w : World) :
    Calls Tryd.prog 47 #[.float .f32 a] w fun e w' => e = .returned (.float .f32 (opp a)) ∧ w = w' := by
  have hm := xor_sign a h
  go_enter Tryd.func47, Tryd.ntmps47
  go_wp2
  go_ret
  exact ⟨rfl, rfl⟩
theorem fin_kd (a : Nat) : fin32 a = decide (kd a < 3) := by
  unfold fin32 kd sz
  by_cases h1 : a % 2147483648 = 0
  · simp [h1]
  · by_cases h2 : a % 2147483648 < 8388608
    · simp [h1, h2]; omega
    · by_cases h3 : a % 2147483648 < 2139095040
      · simp [h1, h2, h3]
      · by_cases h4 : a % 2147483648 = 2139095040
        · simp [h4]
        · simp [h1, h2, h3, h4]
theorem order32_zero : (FloatKind.f32.format.order 0 0 == some .eq) = true := by decide
theorem l01Finite_fin (a : Nat) (hf : kd a < 3) (w : World) :
    Calls Tryd.prog 44 #[.float .f32 a] w fun e w' => e = .returned (.bool true) ∧ w = w' := by
  have hop : ∀ t w, (binOp .sub t (.float .f32 a) (.float .f32 a)).run Tryd.prog w = .ok (.float .f32 0) w := fun t w => run_float_arith w .sub t .f32 a a 0 (sub_self_fin (by rw [fin_kd]; simpa using hf))
  have h0 := order32_zero
  go_enter Tryd.func44, Tryd.ntmps44
  go_wp2_with (simp only [hop])
  go_ret
  exact ⟨rfl, rfl⟩
theorem l01Finite_odd (a : Nat) (hf : 3 ≤ kd a) (w : World) :
    Calls Tryd.prog 44 #[.float .f32 a] w fun e w' => e = .returned (.bool false) ∧ w.drew = w' := by
  have hop : ∀ t w, (binOp .sub t (.float .f32 a) (.float .f32 a)).run Tryd.prog w = .ok (.float .f32 (nanS a a w)) w.drew := fun t w => run_arith_nan32 w .sub t a a (by simp) (sub_self_odd (by rw [fin_kd]; simpa using hf))
  have h0 : ∀ w, (FloatKind.f32.format.order (nanS a a w) 0 == some .eq) = false := fun w => by rw [show FloatKind.f32.format.order (nanS a a w) 0 = none from order32_nanL 0 (nanS_nan a a w)]; rfl
  go_enter Tryd.func44, Tryd.ntmps44
  go_wp2_with (simp only [hop])
  go_ret
  exact ⟨rfl, rfl⟩
theorem specKindOf_any (a : Nat) (h : W32 a) (w : World) :
    Calls Tryd.prog 19 #[.float .f32 a] w fun e w' => e = .returned (.int .i64 (kd a)) ∧ (w = w' ∨ w.drew = w') := by
  have hm := and_mask a h
  rcases cls a with ⟨hk, h1⟩ | ⟨hk, h1, h2⟩ | ⟨hk, h1, h2, h3⟩ | ⟨hk, h1, h2, h3, h4⟩ | ⟨hk, h1, h2, h3, h4⟩
  all_goals
    go_enter Tryd.func19, Tryd.ntmps19
    go_wp2_with (first | (go_at_call 43; refine (l01NaN_any _ _).mono ?_; rintro e w' ⟨rfl, rfl⟩) | (go_at_call 44; first | (refine (l01Finite_fin _ (by rw [hk]; decide) _).mono ?_; rintro e w' ⟨rfl, rfl⟩) | (refine (l01Finite_odd _ (by rw [hk]; decide) _).mono ?_; rintro e w' ⟨rfl, rfl⟩)))
    go_ret
    first | exact ⟨by rw [hk]; rfl, .inl rfl⟩ | exact ⟨by rw [hk]; rfl, .inr rfl⟩
theorem implKindOf_any (a : Nat) (h : W32 a) (w : World) :
    Calls Tryd.prog 17 #[.float .f32 a] w fun e w' => e = .returned (.int .i64 (kd a)) ∧ w = w' := by
  go_enter Tryd.func17, Tryd.ntmps17
  go_wp2_with (go_at_call 30; refine (kindOf_any _ h _).mono ?_; rintro e w' ⟨rfl, rfl⟩)
  go_ret
  exact ⟨rfl, rfl⟩
theorem placeOf_any (a : Nat) (h : W32 a) (w : World) :
    Calls Tryd.prog 45 #[.float .f32 a] w fun e w' => e = .returned (.int .i64 (key a)) ∧ w = w' := by
  have hm := and_mask a h
  have hl : sz a ≤ 2147483647 := by have := sz_lt a; omega
  cases hn : neg a
  all_goals
    go_enter Tryd.func45, Tryd.ntmps45
    go_wp2_with (go_at_call 48; refine (isNegative_any _ h _).mono ?_; rintro e w' ⟨rfl, rfl⟩)
    go_ret
    exact ⟨ret_int (by simp [key, hn]), rfl⟩
/-- a place that there is -/
def Place (k : Int) : Prop := -2139095041 ≤ k ∧ k ≤ 2139095040
theorem or_place (k : Int) (h : Place k) (hn : k < 0) : (bits BinOp.or IntKind.u32 (-1 - k) 2147483648).toNat = fromKey k := by
  unfold Place at h
  obtain ⟨n, hk⟩ : ∃ n : Nat, -1 - k = (n : Int) := ⟨(-1 - k).toNat, by omega⟩
  have hb : n < 2147483648 := by omega
  rw [hk, show (2147483648 : Int) = ((2147483648 : Nat) : Int) from rfl, u32_or_nat n _ (by omega) (by omega), or_sign n hb]
  unfold fromKey
  rw [if_pos hn, hk]
  omega
theorem atPlace_any (k : Int) (h : Place k) (w : World) :
    Calls Tryd.prog 46 #[.int .i64 k] w fun e w' => e = .returned (.float .f32 (fromKey k)) ∧ w = w' := by
  obtain ⟨h1, h2⟩ := id h
  by_cases hn : k < 0
  · have ho := or_place k h hn
    go_enter Tryd.func46, Tryd.ntmps46
    go_wp2
    go_ret
    exact ⟨rfl, rfl⟩
  · go_enter Tryd.func46, Tryd.ntmps46
    go_wp2
    go_ret
    exact ⟨ret_float (by unfold fromKey; rw [if_neg (by omega)]), rfl⟩
theorem implOrderKey_num (a : Nat) (h : W32 a) (hk : kd a ≠ 4) (w : World) :
    Calls Tryd.prog 21 #[.float .f32 a] w fun e w' => e = .returned (.tuple #[.int .i64 (key a), .int .i64 0]) ∧ w = w' := by
  go_enter Tryd.func21, Tryd.ntmps21
  go_wp2_with (first | (go_at_call 30; refine (kindOf_any _ h _).mono ?_; rintro e w' ⟨rfl, rfl⟩) | (go_at_call 31; refine (isNaN_any _ _).mono ?_; rintro e w' ⟨rfl, rfl⟩) | (go_at_call 45; refine (placeOf_any _ h _).mono ?_; rintro e w' ⟨rfl, rfl⟩))
  go_ret2
  exact ⟨rfl, rfl⟩
theorem implOrderKey_nan (a : Nat) (h : W32 a) (hk : kd a = 4) (w : World) :
    Calls Tryd.prog 21 #[.float .f32 a] w fun e w' => e = .returned (.tuple #[.int .i64 0, .int .i64 2]) ∧ w = w' := by
  go_enter Tryd.func21, Tryd.ntmps21
  go_wp2_with (first | (go_at_call 30; refine (kindOf_any _ h _).mono ?_; rintro e w' ⟨rfl, rfl⟩) | (go_at_call 31; refine (isNaN_any _ _).mono ?_; rintro e w' ⟨rfl, rfl⟩))
  go_ret2
  exact ⟨rfl, rfl⟩
theorem implFromOrderKey_yes (k : Int) (h : Place k) (w : World) :
    Calls Tryd.prog 24 #[.int .i64 k] w fun e w' => e = .returned (.tuple #[.float .f32 (fromKey k), .int .i64 0]) ∧ w = w' := by
  have hp := h
  unfold Place at hp
  have g1 : decide (k < -2139095041) = false := by simp; omega
  have g2 : decide (2139095040 < k) = false := by simp; omega
  clear hp
  go_enter Tryd.func24, Tryd.ntmps24
  go_wp2_with (go_at_call 46; refine (atPlace_any _ h _).mono ?_; rintro e w' ⟨rfl, rfl⟩)
  go_ret2
  exact ⟨rfl, rfl⟩
theorem kd_fromKey (k : Int) (h : Place k) : kd (fromKey k) ≠ 4 := by
  unfold Place at h
  have hs : sz (fromKey k) ≤ 2139095040 := by
    unfold fromKey sz
    by_cases hn : k < 0
    · rw [if_pos hn]; omega
    · rw [if_neg hn]; omega
  unfold kd
  split
  · decide
  · split
    · decide
    · split
      · decide
      · split
        · decide
        · omega
theorem kd_0 : kd 0 = 0 := rfl
/-- the next number above -/
def above (a : Nat) : Nat := if kd a = 4 then a else if key a = 2139095040 then a else if kd a = 0 then fromKey 1 else fromKey (key a + 1)
theorem kd_zero_sz (a : Nat) : kd a = 0 ↔ sz a = 0 := by
  unfold kd
  split
  · simp [*]
  · rename_i h; simp only [h, iff_false]
    repeat' split
    all_goals decide
theorem kd_le (a : Nat) (h : kd a ≠ 4) : sz a ≤ 2139095040 := by
  rcases Nat.lt_or_ge 2139095040 (sz a) with hc | hc
  · exact absurd (by unfold kd; rw [if_neg (by omega), if_neg (by omega), if_neg (by omega), if_neg (by omega)]) h
  · exact hc
theorem above_place (a : Nat) (h1 : kd a ≠ 4) (h2 : key a ≠ 2139095040) : Place (key a + 1) := by
  have := kd_le a h1
  unfold key at h2
  unfold Place key
  cases hn : neg a
  · rw [hn] at h2; simp only [Bool.false_eq_true, ↓reduceIte] at h2 ⊢; omega
  · simp only [↓reduceIte]; omega
theorem place_one : Place 1 := by unfold Place; omega
theorem zero_test (a : Nat) (h : kd a ≠ 4) : (FloatKind.f32.format.order a 0 == some .eq) = decide (kd a = 0) := by
  rw [show FloatKind.f32.format.order a 0 = Ieee.single.order a 0 from rfl, order32_zero_eq (by rw [nan_kd]; simpa using h)]
  unfold zero32
  rw [decide_eq_decide, kd_zero_sz]; rfl
theorem NextAbove_any (a : Nat) (h : W32 a) (w : World) :
    Calls Tryd.prog 22 #[.float .f32 a] w fun e w' => e = .returned (.float .f32 (above a)) ∧ w = w' := by
  by_cases hk : kd a = 4
  · go_enter Tryd.func22, Tryd.ntmps22
    go_wp2_with (first | (go_at_call 30; refine (kindOf_any _ h _).mono ?_; rintro e w' ⟨rfl, rfl⟩) | (go_at_call 31; refine (isNaN_any _ _).mono ?_; rintro e w' ⟨rfl, rfl⟩))
    go_ret
    exact ⟨ret_float (by unfold above; rw [if_pos hk]), rfl⟩
  · by_cases hi : key a = 2139095040
    · have hb : (key a == 2139095040) = true := by simpa using hi
      have hab : above a = a := by unfold above; rw [if_neg hk, if_pos hi]
      clear hi
      go_enter Tryd.func22, Tryd.ntmps22
      go_wp2_with (first | (go_at_call 30; refine (kindOf_any _ h _).mono ?_; rintro e w' ⟨rfl, rfl⟩) | (go_at_call 31; refine (isNaN_any _ _).mono ?_; rintro e w' ⟨rfl, rfl⟩) | (go_at_call 45; refine (placeOf_any _ h _).mono ?_; rintro e w' ⟨rfl, rfl⟩))
      go_ret
      exact ⟨ret_float hab.symm, rfl⟩
    · have hb : (key a == 2139095040) = false := by simpa using hi
      have hz := zero_test a hk
      have hp := above_place a hk hi
      have hp' := hp
      unfold Place at hp'
      obtain ⟨p1, p2⟩ := hp'
      by_cases h0 : kd a = 0
      · have hab : above a = fromKey 1 := by unfold above; rw [if_neg hk, if_neg hi, if_pos h0]
        have hz' : (FloatKind.f32.format.order a 0 == some .eq) = true := by rw [hz]; simpa using h0
        clear hz hi h0
        have hab := Lib.hid hab
        go_enter Tryd.func22, Tryd.ntmps22
        go_wp2_with (first | (go_at_call 30; refine (kindOf_any _ h _).mono ?_; rintro e w' ⟨rfl, rfl⟩) | (go_at_call 31; refine (isNaN_any _ _).mono ?_; rintro e w' ⟨rfl, rfl⟩) | (go_at_call 45; refine (placeOf_any _ h _).mono ?_; rintro e w' ⟨rfl, rfl⟩) | (go_at_call 46; refine (atPlace_any _ place_one _).mono ?_; rintro e w' ⟨rfl, rfl⟩))
        go_ret
        exact ⟨ret_float hab.out.symm, rfl⟩
      · have hab : above a = fromKey (key a + 1) := by unfold above; rw [if_neg hk, if_neg hi, if_neg h0]
        have hz' : (FloatKind.f32.format.order a 0 == some .eq) = false := by rw [hz]; simpa using h0
        clear hz hi h0
        have hab := Lib.hid hab
        go_enter Tryd.func22, Tryd.ntmps22
        go_wp2_with (first | (go_at_call 30; refine (kindOf_any _ h _).mono ?_; rintro e w' ⟨rfl, rfl⟩) | (go_at_call 31; refine (isNaN_any _ _).mono ?_; rintro e w' ⟨rfl, rfl⟩) | (go_at_call 45; refine (placeOf_any _ h _).mono ?_; rintro e w' ⟨rfl, rfl⟩) | (go_at_call 46; refine (atPlace_any _ hp _).mono ?_; rintro e w' ⟨rfl, rfl⟩))
        go_ret
        exact ⟨ret_float hab.out.symm, rfl⟩
theorem key_zero (a : Nat) (h : kd a = 0) : key a = if neg a then -1 else 0 := by
  have := (kd_zero_sz a).1 h
  unfold key; rw [this]; cases neg a <;> rfl
theorem key_one (a : Nat) (h : kd a ≠ 0) : key a ≠ -1 := by
  have : sz a ≠ 0 := fun hc => h ((kd_zero_sz a).2 hc)
  unfold key; cases neg a
  · simp only [Bool.false_eq_true, ↓reduceIte]; omega
  · simp only [↓reduceIte]; omega
theorem fromKey_W32 (k : Int) (h : Place k) : W32 (fromKey k) := by
  unfold Place at h; unfold W32 fromKey; split <;> omega
theorem above_W32 (a : Nat) (h : W32 a) : W32 (above a) := by
  unfold above
  split
  · exact h
  · rename_i h1; split
    · exact h
    · rename_i h2; split
      · exact fromKey_W32 1 place_one
      · exact fromKey_W32 _ (above_place a h1 h2)
theorem kd_above (a : Nat) : kd (above a) = 4 ↔ kd a = 4 := by
  unfold above
  split
  · simp [*]
  · rename_i h1; split
    · rfl
    · rename_i h2; split
      · exact ⟨fun h => absurd h (kd_fromKey 1 place_one), fun h => absurd h h1⟩
      · exact ⟨fun h => absurd h (kd_fromKey _ (above_place a h1 h2)), fun h => absurd h h1⟩
def below (a : Nat) : Nat := opp (above (opp a))
theorem below_W32 (a : Nat) : W32 (below a) := opp_W32 _
theorem kd_below (a : Nat) : kd (below a) = 4 ↔ kd a = 4 := by
  unfold below; rw [opp_kd, kd_above, opp_kd]
theorem implNextBelow_any (a : Nat) (h : W32 a) (w : World) :
    Calls Tryd.prog 23 #[.float .f32 a] w fun e w' => e = .returned (.float .f32 (below a)) ∧ w = w' := by
  go_enter Tryd.func23, Tryd.ntmps23
  go_wp2_with fail
  refine (opposite_any _ h _).mono ?_; rintro e w' ⟨rfl, rfl⟩
  go_wp2_with fail
  refine (NextAbove_any _ (opp_W32 a) _).mono ?_; rintro e w' ⟨rfl, rfl⟩
  go_wp2_with fail
  refine (opposite_any _ (above_W32 _ (opp_W32 a)) _).mono ?_; rintro e w' ⟨rfl, rfl⟩
  go_wp2_with fail
  go_ret
  exact ⟨rfl, rfl⟩
def flush (a : Nat) : Nat := if kd a = 1 then (if neg a then 2147483648 else 0) else a
theorem withSign_any (s : Bool) (a : Nat) (h : W32 a) (w : World) :
    Calls Tryd.prog 50 #[.bool s, .float .f32 a] w fun e w' => e = .returned (.float .f32 (if s then opp a else a)) ∧ w = w' := by
  cases s
  · go_enter Tryd.func50, Tryd.ntmps50
    go_wp2
    go_ret
    exact ⟨rfl, rfl⟩
  · go_enter Tryd.func50, Tryd.ntmps50
    go_wp2_with (go_at_call 47; refine (opposite_any _ h _).mono ?_; rintro e w' ⟨rfl, rfl⟩)
    go_ret
    exact ⟨rfl, rfl⟩
theorem implFlush_any (a : Nat) (h : W32 a) (w : World) :
    Calls Tryd.prog 28 #[.float .f32 a] w fun e w' => e = .returned (.float .f32 (flush a)) ∧ w = w' := by
  by_cases hk : kd a = 1
  · cases hn : neg a
    all_goals
      go_enter Tryd.func28, Tryd.ntmps28
      go_wp2_with (first | (go_at_call 30; refine (kindOf_any _ h _).mono ?_; rintro e w' ⟨rfl, rfl⟩) | (go_at_call 48; refine (isNegative_any _ h _).mono ?_; rintro e w' ⟨rfl, rfl⟩) | (go_at_call 50; refine (withSign_any _ 0 (by unfold W32; omega) _).mono ?_; rintro e w' ⟨rfl, rfl⟩))
      go_ret
      exact ⟨ret_float (by unfold flush; rw [if_pos hk, hn]; rfl), rfl⟩
  · have hb : (kd a == 1) = false := by simpa using hk
    go_enter Tryd.func28, Tryd.ntmps28
    go_wp2_with (go_at_call 30; refine (kindOf_any _ h _).mono ?_; rintro e w' ⟨rfl, rfl⟩)
    go_ret
    exact ⟨ret_float (by unfold flush; rw [if_neg hk]), rfl⟩
theorem frac_sub (a : Nat) (h : kd a = 0 ∨ kd a = 1) : sz a < 8388608 := by
  rcases Nat.lt_or_ge (sz a) 8388608 with hc | hc
  · exact hc
  · exfalso
    unfold kd at h
    rw [if_neg (by omega), if_neg (by omega)] at h
    split at h
    · omega
    · split at h <;> omega
theorem frac_nor (a : Nat) (h : kd a = 2) : 8388608 ≤ sz a ∧ sz a < 2139095040 := by
  unfold kd at h
  split at h
  · omega
  · split at h
    · omega
    · split at h
      · omega
      · split at h <;> omega
theorem field_test (a : Nat) : ((sz a / 8388608 : Nat) : Int) = 0 ↔ sz a < 8388608 := by omega
theorem implSplit_odd (a : Nat) (h : W32 a) (hf : 3 ≤ kd a) (w : World) :
    Calls Tryd.prog 25 #[.float .f32 a] w fun e w' => e = .returned (.tuple #[.bool false, .int .i64 0, .int .i64 0, .int .i64 2]) ∧ w = w' := by
  have hm := and_mask a h
  have g0 : (kd a == 0) = false := by simp; omega
  have g1 : (kd a == 1) = false := by simp; omega
  have g2 : (kd a == 2) = false := by simp; omega
  go_enter Tryd.func25, Tryd.ntmps25
  go_wp2_with (go_at_call 30; refine (kindOf_any _ h _).mono ?_; rintro e w' ⟨rfl, rfl⟩)
  exact bodyPost_ret (v := .tuple #[.bool false, .int .i64 0, .int .i64 0, .int .i64 2]) (by simp [results, Tryd.results25, go_sem]) rfl ⟨rfl, rfl⟩
theorem implSplit_fin (a : Nat) (h : W32 a) (hf : kd a < 3) (w : World) :
    Calls Tryd.prog 25 #[.float .f32 a] w fun e w' => e = .returned (.tuple #[.bool (neg a), .int .i64 (frac a), .int .i64 (expo a), .int .i64 0]) ∧ w = w' := by
  have hm := and_mask a h
  have hl : (sz a : Int) ≤ 2147483647 := by have := sz_lt a; omega
  have hl0 : (0 : Int) ≤ (sz a : Int) := by omega
  rcases cls a with ⟨hk, _⟩ | ⟨hk, _⟩ | ⟨hk, _⟩ | ⟨hk, _⟩ | ⟨hk, _⟩
  · have hs := frac_sub a (.inl hk)
    have e1 : frac a = sz a := by unfold frac; rw [if_pos hs]
    have e2 : expo a = -149 := by unfold expo; rw [if_pos hs]
    rw [e1, e2]
    clear e1 e2 hs hf
    go_enter Tryd.func25, Tryd.ntmps25
    go_wp2_with (first | (go_at_call 30; refine (kindOf_any _ h _).mono ?_; rintro e w' ⟨rfl, rfl⟩) | (go_at_call 48; refine (isNegative_any _ h _).mono ?_; rintro e w' ⟨rfl, rfl⟩))
    exact bodyPost_ret (v := .tuple #[.bool (neg a), .int .i64 (sz a), .int .i64 (-149), .int .i64 0]) (by simp [results, Tryd.results25, go_sem]) rfl ⟨rfl, rfl⟩
  · have hs := frac_sub a (.inr hk)
    have e1 : frac a = sz a := by unfold frac; rw [if_pos hs]
    have e2 : expo a = -149 := by unfold expo; rw [if_pos hs]
    rw [e1, e2]
    clear e1 e2 hs hf
    go_enter Tryd.func25, Tryd.ntmps25
    go_wp2_with (first | (go_at_call 30; refine (kindOf_any _ h _).mono ?_; rintro e w' ⟨rfl, rfl⟩) | (go_at_call 48; refine (isNegative_any _ h _).mono ?_; rintro e w' ⟨rfl, rfl⟩))
    exact bodyPost_ret (v := .tuple #[.bool (neg a), .int .i64 (sz a), .int .i64 (-149), .int .i64 0]) (by simp [results, Tryd.results25, go_sem]) rfl ⟨rfl, rfl⟩
  · have hs := frac_nor a hk
    have l1 := low23' a
    have l2 : bits .or .i64 ((sz a : Int) % 8388608) 8388608 = 8388608 + (sz a : Int) % 8388608 := by
      rw [show ((sz a : Int) % 8388608) = ((sz a % 8388608 : Nat) : Int) from by omega, hid23 (sz a)]; omega
    have e1 : (frac a : Int) = 8388608 + (sz a : Int) % 8388608 := by unfold frac; rw [if_neg (by omega)]; omega
    have e2 : expo a = (sz a : Int) / 8388608 - 1 + -149 := by unfold expo; rw [if_neg (by omega)]; omega
    have b1 : (1 : Int) ≤ (sz a : Int) / 8388608 := by omega
    have b2 : (sz a : Int) / 8388608 ≤ 255 := by omega
    rw [e1, e2]
    clear e1 e2 hs hf
    go_enter Tryd.func25, Tryd.ntmps25
    go_wp2_with (first | (go_at_call 30; refine (kindOf_any _ h _).mono ?_; rintro e w' ⟨rfl, rfl⟩) | (go_at_call 48; refine (isNegative_any _ h _).mono ?_; rintro e w' ⟨rfl, rfl⟩))
    exact bodyPost_ret (v := .tuple #[.bool (neg a), .int .i64 (8388608 + (sz a : Int) % 8388608), .int .i64 ((sz a : Int) / 8388608 - 1 + -149), .int .i64 0]) (by simp [results, Tryd.results25, go_sem]) rfl ⟨rfl, rfl⟩
  · omega
  · omega
end Go.Proofs.YtanepboepeijoaaDoor
