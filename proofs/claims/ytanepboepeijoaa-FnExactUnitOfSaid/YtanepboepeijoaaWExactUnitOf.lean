import Derived.Test.YtanepboepeijoaaJn
namespace Go.Proofs.Ytanepboepeijoaa
open Go.ChangeShapes Go.WideShapes Go.ChangeAt Go.RowKit Go.Deep
open Fl Ieee
theorem expo_range (a : Nat) (hf : kd a < 3) : -149 ≤ expo a ∧ expo a ≤ 104 := by
  have hs : sz a < 2139095040 := by
    unfold kd at hf
    repeat (split at hf <;> try omega)
  unfold expo
  split <;> omega
/-- the word of 2 to a power, wide -/
def powW (e : Int) : Nat := ((e + 1023) * 4503599627370496).toNat
theorem powW_read {e : Int} (h0 : -149 ≤ e) (h1 : e ≤ 104) : double.read (powW e) = .number false 4503599627370496 (e - 52) := by
  obtain ⟨n, hn⟩ : ∃ n : Nat, e + 1023 = n := ⟨(e + 1023).toNat, by omega⟩
  have e1 : powW e = n * 4503599627370496 := by unfold powW; omega
  have e2 : e = (n : Int) - 1023 := by omega
  rw [read64, e1, if_neg (by omega), if_pos (by omega)]
  have a1 : (n * 4503599627370496 / 9223372036854775808 % 2 == 1) = false := by simp; omega
  have a2 : 4503599627370496 + n * 4503599627370496 % 9223372036854775808 % 4503599627370496 = 4503599627370496 := by omega
  have a3 : -1074 + ((n * 4503599627370496 % 9223372036854775808 / 4503599627370496 - 1 : Nat) : Int) = e - 52 := by omega
  rw [a1, a2, a3]
theorem keptBits_exact {V : Nat} (h : V / 2 ^ (lastBit V - 1) % 2 = 0) : keptBits V = V / 2 ^ lastBit V := by
  have hl : lastBit V = lastBit V - 1 + 1 := by unfold lastBit; omega
  unfold keptBits
  rw [h]
  conv => rhs; rw [hl, Nat.pow_succ, ← Nat.div_div_eq_div_mul]
  simp
theorem word_false (r : Nat) : single.word false r = r := by unfold Format.word; simp
theorem unit_lt {e : Int} (p : Nat) (hp : e + 640 = p) (h0 : -149 ≤ e) (h1 : e ≤ 104) : wordE (1 * 2 ^ p) < 2139095040 := by
  have hl : (1 * 2 ^ p).log2 = p := by rw [Nat.one_mul, Nat.log2_two_pow]
  have hd : 1 * 2 ^ p / 2 ^ lastBit (1 * 2 ^ p) ≤ 8388608 := by
    have hq : p ≤ 23 + lastBit (1 * 2 ^ p) := by unfold lastBit; rw [hl]; omega
    have : 1 * 2 ^ p ≤ 8388608 * 2 ^ lastBit (1 * 2 ^ p) := by
      generalize lastBit (1 * 2 ^ p) = q at hq ⊢
      rw [show (8388608 : Nat) = 2 ^ 23 from rfl, ← Nat.pow_add, Nat.one_mul]
      exact Nat.pow_le_pow_right (n := 2) (by omega) hq
    exact Nat.div_le_of_le_mul (Nat.le_trans this (Nat.le_of_eq (Nat.mul_comm _ _)))
  have hb : lastBit (1 * 2 ^ p) ≤ 721 := by unfold lastBit; rw [hl]; omega
  unfold wordE sizeZ
  omega
theorem powW_narrow {e : Int} (p : Nat) (hp : e + 640 = p) (h0 : -149 ≤ e) (h1 : e ≤ 104) : floatToFloatBits .f64 (powW e) .f32 = some (wordE (1 * 2 ^ p)) := by
  have hx := exact_one (fr := 1) (p := p) (by omega) (by omega) (by omega)
  have hV : 1 * 2 ^ p ≠ 0 := by have := Nat.two_pow_pos p; omega
  have hn : single.nearest false 4503599627370496 (e - 52) = wordE (1 * 2 ^ p) := by
    have a1 := nearest_scale single false 1 e 52
    have a2 := nearest_scale single false 1 e p
    rw [show (1 * 2 ^ 52 : Nat) = 4503599627370496 from rfl, show e - ((52 : Nat) : Int) = e - 52 from rfl] at a1
    rw [show e - (p : Int) = -640 from by omega] at a2
    rw [a1, ← a2, nearest_limbs _ _ hV, keptBits_exact hx.even, word_false]
    unfold wordE sizeZ
    rw [Nat.add_comm]
  have hlt := unit_lt p hp h0 h1
  have hr : (single.read (single.nearest false 4503599627370496 (e - 52))).isInfinity = false := by
    rw [hn, read32]
    generalize wordE (1 * 2 ^ p) = r at hlt
    by_cases h : r % 2147483648 < 8388608
    · rw [if_pos h]; rfl
    · rw [if_neg h, if_pos (by omega)]; rfl
  unfold floatToFloatBits
  rw [if_neg (by decide)]
  show (match double.read (powW e) with | .nan _ _ => none | .infinity s => some (FloatKind.f32.encode (.infinity s)) | .number s m e => if (FloatKind.f32.decode (FloatKind.f32.encode (.number s m e))).isInfinity then none else some (FloatKind.f32.encode (.number s m e))) = _
  rw [powW_read h0 h1]
  show (if (single.read (single.nearest false 4503599627370496 (e - 52))).isInfinity then none else some (single.nearest false 4503599627370496 (e - 52))) = _
  rw [hr, hn]; rfl
theorem l01Power_any (k : Int) (h0 : -149 ≤ k) (h1 : k ≤ 104) (w : World) :
    Calls Try.prog 30 #[.int .i64 k] w fun e w' => e = .returned (.float .f64 (powW k)) ∧ w = w' := by
  go_enter Try.func30, Try.ntmps30
  go_wp2
  go_ret
  exact ⟨rfl, rfl⟩
theorem specUnit_fin (a p : Nat) (h : W32 a) (hf : kd a < 3) (hp : expo a + 640 = p) (w : World) :
    Calls Try.prog 19 #[.float .f32 a] w fun e w' => e = .returned (.tuple #[.float .f32 (wordE (1 * 2 ^ p)), .int .i64 0]) ∧ w = w' := by
  obtain ⟨h0, h1⟩ := expo_range a hf
  have hz : ∀ w, (convert 39 35 (.float .f64 (powW (expo a)))).run Try.prog w = .ok (.float .f32 (wordE (1 * 2 ^ p))) w := fun w =>
    run_convert_float_float w 39 35 .f64 .f32 _ _ (by rw [Try.underlying39]; rfl) Try.underlying35 (powW_narrow p hp h0 h1)
  have HP := Lib.hid hp
  clear hp
  go_enter Try.func19, Try.ntmps19
  go_wp2_with (first | (go_at_call 28; refine (l01Finite_fin _ hf _).mono ?_; rintro e w' ⟨rfl, rfl⟩) | (go_at_call 29; refine (l01Parts_any _ h _).mono ?_; rintro e w' ⟨rfl, rfl⟩) | (go_at_call 30; refine (l01Power_any _ h0 h1 _).mono ?_; rintro e w' ⟨rfl, rfl⟩))
  exact bodyPost_ret (v := .tuple #[.float .f32 (wordE (1 * 2 ^ p)), .int .i64 0]) (by simp [results, Try.results19, go_sem]) rfl ⟨rfl, rfl⟩
theorem specUnit_odd (a : Nat) (hf : 3 ≤ kd a) (w : World) :
    Calls Try.prog 19 #[.float .f32 a] w fun e w' => e = .returned (.tuple #[.float .f32 0, .int .i64 2]) ∧ w.drew = w' := by
  go_enter Try.func19, Try.ntmps19
  go_wp2_with (go_at_call 28; refine (l01Finite_odd _ hf _).mono ?_; rintro e w' ⟨rfl, rfl⟩)
  exact bodyPost_ret (v := .tuple #[.float .f32 0, .int .i64 2]) (by simp [results, Try.results19, go_sem]) rfl ⟨rfl, rfl⟩
theorem implUnit_fin (a p : Nat) (h : W32 a) (hf : kd a < 3) (hp : expo a + 640 = p) (w : World) :
    Calls Try.prog 20 #[.float .f32 a] w fun e w' => e = .returned (.tuple #[.float .f32 (wordE (1 * 2 ^ p)), .int .i64 0]) ∧ Below w.heap.size w w' := by
  obtain ⟨h0, h1⟩ := expo_range a hf
  have hj := joinParts_x false 1 p (expo a) (by omega) hp (by omega) (by omega)
  have HJ := Lib.hid hj
  clear hj hp
  go_enter Try.func20, Try.ntmps20
  go_wp2_with (first | (go_at_call 31; refine (implSplit_fin _ h hf _).mono ?_; rintro e w' ⟨rfl, rfl⟩) | (go_at_call 32; refine (HJ.out _).mono ?_; rintro e w1 ⟨rfl, b1⟩; have B1 := Lib.hid b1; clear b1))
  exact bodyPost_ret (v := .tuple #[.float .f32 (wordE (1 * 2 ^ p)), .int .i64 0]) (by simp [results, Try.results20, go_sem]) rfl ⟨rfl, B1.out⟩
theorem implUnit_odd (a : Nat) (h : W32 a) (hf : 3 ≤ kd a) (w : World) :
    Calls Try.prog 20 #[.float .f32 a] w fun e w' => e = .returned (.tuple #[.float .f32 0, .int .i64 2]) ∧ w = w' := by
  go_enter Try.func20, Try.ntmps20
  go_wp2_with (go_at_call 31; refine (implSplit_odd _ h hf _).mono ?_; rintro e w' ⟨rfl, rfl⟩)
  exact bodyPost_ret (v := .tuple #[.float .f32 0, .int .i64 2]) (by simp [results, Try.results20, go_sem]) rfl ⟨rfl, rfl⟩
theorem kd_unit {e : Int} (p : Nat) (hp : e + 640 = p) (h0 : -149 ≤ e) (h1 : e ≤ 104) : kd (wordE (1 * 2 ^ p)) ≠ 4 := by
  have h := unit_lt p hp h0 h1
  generalize wordE (1 * 2 ^ p) = r at h
  have hs : sz r = r := Nat.mod_eq_of_lt (by omega)
  unfold kd
  rw [hs]
  repeat (split <;> try omega)
set_option maxRecDepth 8000 in
theorem fnExactUnitOf_walk (a0 : Nat) (w0 : (Lit.float .f32 a0).wf = true) (w : World) :
    Calls Try.prog 6 #[.float .f32 a0] w fun e w' => e = .returned (.bool true) ∧ Below w.heap.size w w' := by
  have h0 := W32.of_wf w0
  clear w0
  by_cases hf : kd a0 < 3
  · obtain ⟨r0, r1⟩ := expo_range a0 hf
    obtain ⟨p, hp⟩ : ∃ p : Nat, expo a0 + 640 = p := ⟨(expo a0 + 640).toNat, by omega⟩
    have hs := specUnit_fin a0 p h0 hf hp
    have hi := implUnit_fin a0 p h0 hf hp
    have hk := kd_unit p hp r0 r1
    generalize wordE (1 * 2 ^ p) = U at hs hi hk
    have HS := Lib.hid hs
    have HI := Lib.hid hi
    clear hs hi
    have hc := conv_num _ hk
    have HF := Lib.hid (sameFloat_same _ (widen_num _ hk))
    clear hp r0 r1 hk
    go_enter Try.func6, Try.ntmps6
    go_wp2_with (first | (go_at_call 19; refine (HS.out _).mono ?_; rintro e w' ⟨rfl, rfl⟩) | (go_at_call 20; refine (HI.out _).mono ?_; rintro e w1 ⟨rfl, b1⟩; have B1 := Lib.hid b1; clear b1) | (go_at_call 21; refine (HF.out _).mono ?_; rintro e w' ⟨rfl, rfl⟩))
    go_ret
    exact ⟨rfl, B1.out⟩
  · have hf : 3 ≤ kd a0 := by omega
    have hc := conv_num 0 (by decide)
    have HF := Lib.hid (sameFloat_same _ (widen_num 0 (by decide)))
    go_enter Try.func6, Try.ntmps6
    go_wp2_with (first | (go_at_call 19; refine (specUnit_odd _ hf _).mono ?_; rintro e w' ⟨rfl, rfl⟩) | (go_at_call 20; refine (implUnit_odd _ h0 hf _).mono ?_; rintro e w' ⟨rfl, rfl⟩) | (go_at_call 21; refine (HF.out _).mono ?_; rintro e w' ⟨rfl, rfl⟩))
    go_ret
    exact ⟨rfl, (Below.refl _ _).drew⟩
end Go.Proofs.Ytanepboepeijoaa
