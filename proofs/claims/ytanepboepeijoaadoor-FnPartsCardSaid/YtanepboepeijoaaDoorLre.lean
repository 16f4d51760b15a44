import Derived.Test.YtanepboepeijoaaDoorBel
import Derived.Test.YtanepboepeijoaaDoorRnd
import Derived.Test.YtanepboepeijoaaDoorPc
import Derived.Deep.Cut
namespace Go.Proofs.YtanepboepeijoaaDoor
open Go.ChangeShapes Go.WideShapes Go.ChangeAt Go.RowKit Go.Deep
open Fl
/-- a call's own block, the first it made, holds the limbs -/
structure LR (w0 : World) (f : Nat → Nat) (w1 : World) : Prop where
  row : w1.heap[w0.heap.size]? = some (.cells (limbC f) 96 (0, 0))
  size : w0.heap.size < w1.heap.size
  below : Below w0.heap.size w0 w1
theorem LR.start (w : World) (f : Nat → Nat) : LR w f (w.alloc (.cells (limbC f) 96)) :=
  ⟨heap_alloc_new _ _, by simp, (Below.refl _ _).alloc (Nat.le_refl _) _⟩
theorem LR.step {w0 w1 w2 : World} {f : Nat → Nat} (h : LR w0 f w1) (hb : Below w1.heap.size w1 w2) : LR w0 f w2 :=
  ⟨by rw [hb.block _ h.size]; exact h.row, Nat.lt_of_lt_of_le h.size hb.size, h.below.trans ⟨hb.os, hb.tape, hb.output, hb.size, fun k hk => hb.block k (Nat.lt_trans hk h.size)⟩⟩
theorem LR.drew {w0 w1 : World} {f : Nat → Nat} (h : LR w0 f w1) : LR w0 f w1.drew := ⟨h.row, h.size, h.below.drew⟩
theorem isNeg_b (f : Nat → Nat) (w : World) :
    Calls Tryd.prog 105 #[.agg (limbC f)] w fun e w' => e = .returned (.bool (decide (9223372036854775808 ≤ f 23))) ∧ Below w.heap.size w w' :=
  (isNeg_any f w).mono fun e w' ⟨he, hw⟩ => ⟨he, by rw [← hw]; exact (Below.refl _ _).alloc (Nat.le_refl _) _⟩
theorem topPlace_b (f : Nat → Nat) (w : World) (hf : ∀ i, f i < B64) :
    Calls Tryd.prog 107 #[.agg (limbC f)] w fun e w' => e = .returned (.int .i64 (topB (pv f 24))) ∧ Below w.heap.size w w' :=
  (topPlace_any f w hf).mono fun e w' ⟨he, hw⟩ => ⟨he, by rw [← hw]; exact (Below.refl _ _).alloc (Nat.le_refl _) _⟩
theorem topPlace_v (f : Nat → Nat) (V : Nat) (w : World) (hf : ∀ i, f i < B64) (hv : pv f 24 = V) :
    Calls Tryd.prog 107 #[.agg (limbC f)] w fun e w' => e = .returned (.int .i64 (topB V)) ∧ Below w.heap.size w w' := by
  rw [← hv]; exact topPlace_b f w hf
theorem or_window {f : Nat → Nat} (hf : ∀ i, f i < B64) (q s : Nat) (hs : s < 64) :
    bits BinOp.or IntKind.u64 ((f q : Int) / 2 ^ s) (IntKind.u64.wrap ((f (q + 1) : Int) * 2 ^ (64 - s))) = (((f q / 2 ^ s + f (q + 1) * 2 ^ (64 - s)) % B64 : Nat) : Int) := by
  have hp := Nat.two_pow_pos s
  have hp2 := Nat.two_pow_pos (64 - s)
  have e0 : B64 = 2 ^ s * 2 ^ (64 - s) := by rw [← Nat.pow_add, show s + (64 - s) = 64 from by omega]; rfl
  have ea : (f q : Int) / 2 ^ s = ((f q / 2 ^ s : Nat) : Int) := by rw [Int.natCast_ediv, Int.natCast_pow]; rfl
  have eb : IntKind.u64.wrap ((f (q + 1) : Int) * 2 ^ (64 - s)) = ((f (q + 1) * 2 ^ (64 - s) % B64 : Nat) : Int) := by
    rw [IntKind.wrap_u64]
    unfold B64
    rw [Int.natCast_emod, Int.natCast_mul, Int.natCast_pow]; rfl
  have ha : f q / 2 ^ s < 2 ^ (64 - s) := by
    rw [Nat.div_lt_iff_lt_mul hp, Nat.mul_comm, ← e0]; exact hf q
  have hc : f (q + 1) * 2 ^ (64 - s) % B64 = (f (q + 1) % 2 ^ s) * 2 ^ (64 - s) := by
    rw [e0, Nat.mul_mod_mul_right]
  have hcl : f (q + 1) % 2 ^ s < 2 ^ s := Nat.mod_lt _ hp
  have hB : f q / 2 ^ s < 18446744073709551616 := by
    have : f q / 2 ^ s ≤ f q := Nat.div_le_self _ _
    have h2 := hf q
    unfold B64 at h2
    omega
  have hB2 : f (q + 1) * 2 ^ (64 - s) % B64 < 18446744073709551616 := Nat.mod_lt _ B64_pos
  have hlt : f q / 2 ^ s + f (q + 1) % 2 ^ s * 2 ^ (64 - s) < B64 := by
    have h3 : (f (q + 1) % 2 ^ s + 1) * 2 ^ (64 - s) ≤ 2 ^ s * 2 ^ (64 - s) := Nat.mul_le_mul_right _ hcl
    rw [Nat.add_mul, Nat.one_mul, ← e0] at h3
    omega
  rw [ea, eb, bits_or_u64_nat _ _ hB hB2]
  congr 1
  rw [Nat.add_mod, hc, Nat.mod_eq_of_lt (a := f q / 2 ^ s) (by unfold B64; exact hB), Nat.mod_eq_of_lt hlt, Nat.or_comm]
  have := Nat.shiftLeft_add_eq_or_of_lt ha (f (q + 1) % 2 ^ s)
  rw [Nat.shiftLeft_eq] at this
  rw [← this, Nat.add_comm]
theorem kept_lt (V h : Nat) (hh : lastBit V = h + 1) : V / 2 ^ h < 33554432 := by
  have h1 : V < 2 ^ (V.log2 + 1) := Nat.lt_log2_self
  have h2 : V.log2 + 1 ≤ h + 25 := by unfold lastBit at hh; omega
  have h3 : 2 ^ (V.log2 + 1) ≤ 2 ^ (h + 25) := Nat.pow_le_pow_right (by omega) h2
  rw [Nat.div_lt_iff_lt_mul (Nat.two_pow_pos h)]
  rw [Nat.pow_add 2 h 25, Nat.mul_comm (2 ^ h)] at h3
  rw [show (33554432 : Nat) = 2 ^ 25 from rfl]
  exact Nat.lt_of_lt_of_le h1 h3
def sizeZ (m D : Nat) : Nat := min (m + D * 8388608) 2139095040
theorem sizeZ_min (m D : Nat) : min ((m : Int) + (D : Int) * 8388608) 2139095040 = ((sizeZ m D : Nat) : Int) := by unfold sizeZ; omega
theorem sizeZ_le (m D : Nat) : ((sizeZ m D : Nat) : Int) ≤ 2139095040 := by unfold sizeZ; omega
/-- the word of a number of which no bit is lost -/
def wordE (V : Nat) : Nat := sizeZ (V / 2 ^ lastBit V) (lastBit V - 491)
theorem wordE_eq {V K h L D m : Nat} (hK : V / 2 ^ h = K) (hL : h + 1 = L) (hh : lastBit V = L) (hD : L = D + 491) (hm : K / 2 = m) : wordE V = sizeZ m D := by
  unfold wordE
  rw [hh, ← hm, ← hK, ← hL, Nat.pow_succ, Nat.div_div_eq_div_mul, show h + 1 - 491 = D from by omega]
/-- places of a sum's terms lie below it -/
def bigE : Nat := 1400
theorem B64_ge (i n : Nat) (h : n ≤ 64 * i) : 2 ^ n ≤ B64 ^ i := by rw [B64_pow]; exact Nat.pow_le_pow_right (by omega) h
theorem top_pos {f : Nat → Nat} (hV : pv f 24 < 2 ^ bigE) : decide (9223372036854775808 ≤ f 23) = false := by
  have h1 : pv f 24 = pv f 23 + B64 ^ 23 * f 23 := by
    have e := pv_split f 23 1
    have e2 : pv (fun j => f (23 + j)) 1 = f 23 := by show 0 + f (23 + 0) * B64 ^ 0 = f 23; simp
    rw [e2] at e
    exact e
  simp only [decide_eq_false_iff_not]
  intro h
  have h2 : B64 ^ 23 * 1 ≤ B64 ^ 23 * f 23 := Nat.mul_le_mul_left _ (by omega)
  have h3 := B64_ge 23 bigE (by unfold bigE; omega)
  rw [Nat.mul_one] at h2
  generalize B64 ^ 23 = X at h1 h2 h3
  generalize (2 : Nat) ^ bigE = Y at hV h3
  generalize X * f 23 = Z at h1 h2
  omega
theorem top_lt {V : Nat} (hV : V < 2 ^ bigE) : -1 ≤ topB V ∧ topB V < 1400 := by
  unfold topB
  split
  · omega
  · rename_i h
    have := (Nat.log2_lt h).2 hV
    unfold bigE at this
    omega
attribute [-go_sem] call_f32from in
set_option maxRecDepth 8000 in
theorem lrd_exact (f : Nat → Nat) (V : Nat) (w : World) (hf : ∀ i, f i < B64) (hpv : pv f 24 = V) (hneg : decide (9223372036854775808 ≤ f 23) = false) (hV1 : -1 ≤ topB V) (hV0 : topB V < 1400) (hex : V / 2 ^ (lastBit V - 1) % 2 = 0)
    (hwin : ∀ q s, q < 22 → s < 64 → (f q / 2 ^ s + f (q + 1) * 2 ^ (64 - s)) % B64 = V / 2 ^ (64 * q + s) % B64) :
    Calls Tryd.prog 90 #[.agg (limbC f)] w fun e w' => e = .returned (.float .f32 (wordE V)) ∧ Below w.heap.size w w' := by
  have HF := Lib.hid hf
  have HX := Lib.hid hex
  have HP := Lib.hid hpv
  have HWN := Lib.hid hwin
  clear hex hpv hwin
  clear hf
  have HS := Lib.hid (LR.start w f)
  go_enter Tryd.func90, Tryd.ntmps90
  go_wp2_with (first | (refine wpList_load_row rfl 96 _ rfl w.heap.size rfl 96 _ _ _ (by first | exact HL.out.row | exact HS.out.row) Tryd.underlying96 rfl (limb_info _) ?_) | (go_at_call 105; refine (isNeg_b f _).mono ?_; rintro e w1 ⟨rfl, hb1⟩; rw [hneg]; have HL := Lib.hid (HS.out.step hb1); clear hb1 HS) | (go_at_call 107; refine (topPlace_v f V _ HF.out HP.out).mono ?_; rintro e w2 ⟨rfl, hb2⟩; have HL := Lib.hid (HL.out.step hb2); clear hb2))
  have hl : max (topB (V) - 23) 491 = ((lastBit (V) : Nat) : Int) := by
    unfold lastBit topB
    split
    · rename_i h; rw [h]; decide
    · omega
  have hl0 : 491 ≤ lastBit (V) := by unfold lastBit; omega
  have hl1 : lastBit (V) < 1400 := by
    have : ((lastBit (V) : Nat) : Int) < 1400 := by rw [← hl]; omega
    omega
  rw [hl]
  clear hl hV0 hV1
  obtain ⟨h, hh⟩ : ∃ h, lastBit (V) = h + 1 := ⟨lastBit (V) - 1, by omega⟩
  rw [hh] at hl0 hl1 ⊢
  rw [show ((h + 1 : Nat) : Int) - 1 = (h : Int) from by omega, show (h : Int) / 64 = ((h / 64 : Nat) : Int) from by omega, show (h : Int) % 64 = ((h % 64 : Nat) : Int) from by omega]
  have hq1 : h / 64 < 22 := by omega
  have hs1 : h % 64 < 64 := by omega
  obtain ⟨q, hq⟩ : ∃ q, h / 64 = q := ⟨_, rfl⟩
  obtain ⟨s, hs⟩ : ∃ s, h % 64 = s := ⟨_, rfl⟩
  have HH : Hid (h = 64 * q + s) := Lib.hid (by omega)
  rw [hq, hs]
  rw [hq] at hq1
  rw [hs] at hs1
  have hq2 : (q : Int) < 22 := by omega
  have hq3 : (q : Int) + 1 < 24 := by omega
  have hs2 : (s : Int) < 64 := by omega
  have c1 := limbC_get f q (by omega)
  have c2 := limbC_get f (q + 1) (by omega)
  have g1 : w2.drew.cell? ⟨w.heap.size, q, none⟩ = some (.int .u64 (f q : Nat)) := by show w2.cell? _ = _; simp [World.cell?, HL.out.row, c1]
  have g2 : w2.drew.cell? ⟨w.heap.size, q + 1, none⟩ = some (.int .u64 (f (q + 1) : Nat)) := by show w2.cell? _ = _; simp [World.cell?, HL.out.row, c2]
  clear c1 c2
  replace HL := Lib.hid HL.out.drew
  go_region
  have hkept : bits BinOp.or IntKind.u64 ((f q : Int) / 2 ^ s) (IntKind.u64.wrap ((f (q + 1) : Int) * 2 ^ (64 - s))) = ((V / 2 ^ h : Nat) : Int) := by
    rw [or_window HF.out q s hs1, HWN.out q s hq1 hs1, ← HH.out, Nat.mod_eq_of_lt]
    have := kept_lt _ _ hh
    unfold B64
    omega
  have hk0 := kept_lt _ _ hh
  rw [hkept]
  clear hkept HWN hq2 hq3 hs2 g1 g2
  obtain ⟨K, hK⟩ : ∃ K, V / 2 ^ h = K := ⟨_, rfl⟩
  rw [hK] at hk0 ⊢
  have HKK := Lib.hid hK
  clear hK
  generalize w2.drew = w3 at HL ⊢
  have HK0 := Lib.hid hk0
  have b1 : bits BinOp.and IntKind.u64 (K : Int) 1 = ((K % 2 : Nat) : Int) := by
    rw [and_one_u64 _ (by omega) (by omega)]; omega
  clear hk0
  obtain ⟨L, hL⟩ : ∃ L, h + 1 = L := ⟨_, rfl⟩
  rw [hL] at hl0 hl1 hh ⊢
  obtain ⟨D, hD⟩ : ∃ D, L = D + 491 := ⟨L - 491, by omega⟩
  have hd : (L : Int) - 491 = (D : Int) := by omega
  have hd1 : (D : Int) ≤ 909 := by omega
  have hh0 : 490 ≤ (h : Int) := by omega
  have hh1 : (h : Int) ≤ 1399 := by omega
  have HL1 := Lib.hid hL
  have HD := Lib.hid hD
  clear hL hD hl0 hl1
  have r0 : K % 2 = 0 := by
    have := HX.out
    rw [hh, ← HL1.out, Nat.add_sub_cancel, HKK.out] at this
    exact this
  rw [r0, Int.natCast_zero] at b1
  obtain ⟨m, hm⟩ : ∃ m, K / 2 = m := ⟨_, rfl⟩
  have hm1 : (K : Int) / 2 = (m : Int) := by omega
  have hm3 : (m : Int) ≤ 16777215 := by have := HK0.out; omega
  have HW := Lib.hid (wordE_eq HKK.out HL1.out hh HD.out hm)
  have b2 : bits BinOp.and IntKind.u64 (m : Int) 1 = ((m % 2 : Nat) : Int) := by
    rw [and_one_u64 _ (by omega) (by omega)]; omega
  clear r0 hm HX HKK HL1 HD hh HK0
  have hZ1 := sizeZ_min m D
  have hZ2 := sizeZ_le m D
  generalize sizeZ m D = Z at hZ1 hZ2 HW
  go_upto_region 13 with (fail)
  obtain ⟨X, hX⟩ : ∃ X : Int, (m : Int) + (D : Int) * 8388608 = X := ⟨_, rfl⟩
  rw [hX] at hZ1 ⊢
  have hX0 : 0 ≤ X := by omega
  clear hX
  go_wp2
  rw [call_f32from, Int.toNat_natCast]
  go_wp2
  go_ret
  refine ⟨?_, HL.out.below⟩
  rw [HW.out]; rfl
end Go.Proofs.YtanepboepeijoaaDoor
