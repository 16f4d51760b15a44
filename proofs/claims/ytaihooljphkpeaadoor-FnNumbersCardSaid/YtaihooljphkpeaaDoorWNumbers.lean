/-
  THE WALK of the law FnNumbers, whole.
-/
import Derived.Test.YtaihooljphkpeaaDoorQi
import Derived.Test.YtaihooljphkpeaaDoorQd
import Derived.Test.YtaihooljphkpeaaDoorNm
import Derived.Test.YtaihooljphkpeaaDoorSrc
namespace Go.Proofs.YtaihooljphkpeaaDoor
open Go.ChangeShapes Go.WideShapes Go.ChangeAt Go.RowKit
open Fl
def PickP (n : Nat) (w : World) (e : Ending) (w' : World) : Prop := ∃ k : Nat, k < n ∧ e = .returned (.int .i64 (k : Int)) ∧ Below w.heap.size w w'
theorem p6pick_any (len cap n : Nat) (a : Option Addr) (hn : 2 ≤ n) (hn2 : n ≤ 65536) (hl : len ≤ 4096) (w : World) (h : BRow w.heap.size w a len) :
    Calls Tryd.prog 6 #[.slice a len cap, .int .i64 (n : Nat)] w (PickP n w) := by
  have H := Lib.hid h
  clear h
  go_enter Tryd.func6, Tryd.ntmps6
  go_wp2_with fail
  refine (from_any len cap a _ H.out).mono ?_
  rintro e w1 ⟨⟨rfl, hs⟩, hb⟩
  have S := Lib.hid hs
  have B1 := Lib.hid hb
  clear hs hb
  go_wp2_with fail
  refine (pick_any _ _ len cap 0 a (n : Nat) (by omega) (by omega) hl (by omega) _ S.out).mono ?_
  rintro e w2 ⟨⟨x, j, hx0, hx1, rfl, _, _, _⟩, ho⟩
  obtain ⟨k, rfl⟩ : ∃ k : Nat, x = k := ⟨x.toNat, by omega⟩
  have R : Hid (PickP n w (.returned (.int .i64 (k : Int))) w2) := Lib.hid ⟨k, by omega, rfl, B1.out.trans (ho.below (Nat.le_refl _) B1.out.size)⟩
  clear ho hx0 hx1
  go_wp2
  go_ret
  exact R.out
theorem big_any (len cap : Nat) (a : Option Addr) (w : World) :
    Calls Tryd.prog 5 #[.slice a len cap] w fun e w' => e = .returned (.bool (decide ((4096 : Int) < (len : Int)))) ∧ w = w' := by
  go_enter Tryd.func5, Tryd.ntmps5
  go_wp2
  go_ret
  exact ⟨rfl, rfl⟩
/-- the numbers of the three texts -/
theorem num1 {n : Nat} (h : n < 1000000) : numV (splitL 47) (Lib.decDigits n) = some (floatOfInt .f32 (n : Int)) := by
  have hn : isNeg (Lib.decDigits n) = false := by
    unfold isNeg
    cases hd : Lib.decDigits n with
    | nil => rfl
    | cons x r =>
      have := (dec_ne n x (by rw [hd]; simp)).2
      simpa using this
  unfold numV rest
  rw [hn, if_neg (by simp), parts_one (fun x hx => (dec_ne n x hx).1), small_dec h]
  show quoB (n : Int) 0 = _
  exact quo_one _ (by omega)
theorem num2 {n k : Nat} (h : n < 1000000) (h1 : 1 ≤ k) (h2 : k ≤ 10) : numV (splitL 47) (45 :: (Lib.decDigits n ++ 47 :: Lib.decDigits (2 ^ k))) = quoB (-(n : Int)) k := by
  unfold numV rest
  rw [show isNeg (45 :: (Lib.decDigits n ++ 47 :: Lib.decDigits (2 ^ k))) = true from rfl, if_pos rfl, List.drop_one, List.tail_cons, parts_two (fun x hx => (dec_ne n x hx).1), small_dec h, show byV (Lib.decDigits (2 ^ k)) = some k from byV_iff h1 h2 rfl]
  rfl
theorem num3 {n k : Nat} (h1 : 1 ≤ k) (h2 : k ≤ 10) : numV (splitL 47) (Lib.decDigits n ++ 47 :: Lib.decDigits (2 ^ k + 1)) = none := by
  have hn : isNeg (Lib.decDigits n ++ 47 :: Lib.decDigits (2 ^ k + 1)) = false := by
    unfold isNeg
    cases hd : Lib.decDigits n with
    | nil => rfl
    | cons x r =>
      have := (dec_ne n x (by rw [hd]; simp)).2
      simpa using this
  unfold numV rest
  rw [hn, if_neg (by simp), parts_two (fun x hx => (dec_ne n x hx).1), byV_next k h1 h2]
  cases smallV (Lib.decDigits n) <;> rfl
theorem bsz (t : ByteArray) : t.size = t.data.toList.length := by rw [Array.length_toList]; rfl
theorem brow_mono {B B' : Nat} {w : World} {a : Option Addr} {len : Nat} (h : BRow B w a len) (hB : B ≤ B') : BRow B' w a len := by
  rcases h with h | ⟨b, off, h1, h2, h3⟩
  · exact .inl h
  · exact .inr ⟨b, off, h1, by omega, h3⟩
def NegOf (m f : Nat) : Prop := FloatKind.f32.format.order m (opp f) = some .eq
theorem opp_nearest {n : Nat} : opp (Ieee.single.nearest false n 0) = Ieee.single.nearest true n 0 := by
  have key : ∀ r : Nat, r < 2147483648 → opp (Ieee.single.word false r) = Ieee.single.word true r := fun r hr => by
    have e : Ieee.single.signWeight = 2147483648 := by decide
    unfold opp neg sz Ieee.Format.word
    simp only [e, if_true, if_false, Bool.false_eq_true]
    rw [if_neg (by simp; omega)]
    omega
  unfold Ieee.Format.nearest
  by_cases h0 : n = 0
  · rw [if_pos h0, if_pos h0]; exact key 0 (by decide)
  · rw [if_neg h0, if_neg h0]
    refine key _ (Nat.lt_of_le_of_lt (Nat.min_le_right _ _) (by decide))
theorem quo_neg (n k : Nat) (h : n < 16777216) (hk : k ≤ 10) : ∃ r m, quoB (-(n : Int)) k = some r ∧ Ieee.single.mul r (floatOfInt .f32 ((2 ^ k : Nat) : Int)) = some m ∧ NegOf m (floatOfInt .f32 (n : Int)) := by
  by_cases h0 : n = 0
  · subst h0
    obtain ⟨q1, q2⟩ := quo_zero k hk
    exact ⟨0, 0, q1, q2, by unfold NegOf; decide +kernel⟩
  · obtain ⟨r, q1, q2⟩ := quo_back (-(n : Int)) (by omega) (by omega) k hk
    refine ⟨r, _, q1, q2, ?_⟩
    unfold NegOf
    have e1 : floatOfInt .f32 (n : Int) = Ieee.single.nearest false n 0 := by
      show Ieee.single.nearest (decide ((n : Int) < 0)) (n : Int).natAbs 0 = _
      rw [decide_eq_false (by omega)]; rfl
    have e2 : floatOfInt .f32 (-(n : Int)) = Ieee.single.nearest true n 0 := by
      show Ieee.single.nearest (decide (-(n : Int) < 0)) (-(n : Int)).natAbs 0 = _
      rw [decide_eq_true (by omega), Int.natAbs_neg]; rfl
    rw [e1, opp_nearest, ← e2]
    have hkd : kd (floatOfInt .f32 (-(n : Int))) ≠ 4 := kd_nearest _ _ _
    exact order32_self (by rw [nan_kd]; simpa using hkd)
set_option maxRecDepth 8000 in
set_option maxHeartbeats 4000000 in
theorem fnNumbers_walk (len0 cap0 : Nat) (a0 : Option Addr) (len1 cap1 : Nat) (a1 : Option Addr) (w : World) (h0 : BRow w.heap.size w a0 len0) (h1 : BRow w.heap.size w a1 len1) (hT : Pow w) (hG : 1 < w.heap.size) :
    Calls Tryd.prog 3 #[.slice a0 len0 cap0, .slice a1 len1 cap1] w fun e w' => e = .returned (.bool true) ∧ Below w.heap.size w w' := by
  have HBg := Lib.hid big_any
  by_cases hb0 : 4096 < len0
  · have hb : decide ((4096 : Int) < (len0 : Int)) = true := by simp; omega
    go_enter Tryd.func3, Tryd.ntmps3
    go_wp2_with fail
    refine (HBg.out len0 cap0 a0 w).mono ?_
    rintro e w' ⟨rfl, rfl⟩
    rw [hb]
    go_wp2
    go_ret
    exact ⟨rfl, Below.refl _ _⟩
  by_cases hb1 : 4096 < len1
  · have hb : decide ((4096 : Int) < (len0 : Int)) = false := by simp; omega
    have hb' : decide ((4096 : Int) < (len1 : Int)) = true := by simp; omega
    go_enter Tryd.func3, Tryd.ntmps3
    go_wp2_with fail
    refine (HBg.out len0 cap0 a0 w).mono ?_
    rintro e w' ⟨rfl, rfl⟩
    rw [hb]
    go_wp2_with fail
    refine (HBg.out len1 cap1 a1 w).mono ?_
    rintro e w' ⟨rfl, rfl⟩
    rw [hb']
    go_wp2
    go_ret
    exact ⟨rfl, Below.refl _ _⟩
  have hb : decide ((4096 : Int) < (len0 : Int)) = false := by simp; omega
  have hb' : decide ((4096 : Int) < (len1 : Int)) = false := by simp; omega
  have PK := Lib.hid p6pick_any
  have DE := Lib.hid decimal_any
  have IM := Lib.hid implNumber_any
  have R0 := Lib.hid h0
  have R1 := Lib.hid h1
  have HT := Lib.hid hT
  have HG := Lib.hid hG
  have HL0 : Hid (len0 ≤ 4096) := Lib.hid (by omega)
  have HL1 : Hid (len1 ≤ 4096) := Lib.hid (by omega)
  have SH : Hid (∀ k : Nat, k ≤ 10 → wrap64 ((2 : Int) ^ k) = ((2 ^ k : Nat) : Int)) := Lib.hid fun k hk => by
    have key : ∀ a : Fin 11, wrap64 ((2 : Int) ^ a.val) = ((2 ^ a.val : Nat) : Int) := by decide +kernel
    exact key ⟨k, by omega⟩
  clear hT hG h0 h1 hb0 hb1
  go_enter Tryd.func3, Tryd.ntmps3
  go_wp2_with fail
  refine (HBg.out len0 cap0 a0 w).mono ?_
  rintro e w' ⟨rfl, rfl⟩
  rw [hb]
  go_wp2_with fail
  refine (HBg.out len1 cap1 a1 w).mono ?_
  rintro e w' ⟨rfl, rfl⟩
  rw [hb']
  go_wp2_with fail
  refine (PK.out len0 cap0 30000 a0 (by omega) (by omega) HL0.out w R0.out).mono ?_
  rintro e w1 ⟨n, hn, rfl, b1⟩
  have B1 := Lib.hid b1
  have R11 : Hid (BRow w1.heap.size w1 a1 len1) := Lib.hid (brow_mono ((R1.out).below b1) b1.size)
  clear b1
  go_wp2_with fail
  refine (PK.out len1 cap1 10 a1 (by omega) (by omega) HL1.out w1 R11.out).mono ?_
  rintro e w2 ⟨k, hk, rfl, b2⟩
  have B2 := Lib.hid (B1.out.trans (b2.mono B1.out.size))
  clear b2 R11 B1
  have tk0 : (0 : Int) ≤ (k : Int) := by omega
  have tk1 : (k : Int) < 10 := by omega
  have SHk := SH.out (1 + k) (by omega)
  have hp1 : (2 : Nat) ^ (1 + k) ≤ 2 ^ 10 := Nat.pow_le_pow_right (by decide) (by omega)
  have hp2 : (2 : Nat) ^ 1 ≤ 2 ^ (1 + k) := Nat.pow_le_pow_right (by decide) (by omega)
  have hp3 : (2 : Nat) ^ 10 = 1024 := by decide
  have hdn := dec_len (n := n) (k := 4) (by omega)
  have hdp := dec_len (n := 2 ^ (1 + k)) (k := 3) (by omega)
  have hdq := dec_len (n := 2 ^ (1 + k) + 1) (k := 3) (by omega)
  have n1 := num1 (n := n) (by omega)
  have n2 := num2 (n := n) (k := 1 + k) (by omega) (by omega) (by omega)
  have n3 := num3 (n := n) (k := 1 + k) (by omega) (by omega)
  have dn := fun w => DE.out n (by omega) w
  have dp := fun w => DE.out (2 ^ (1 + k)) (by omega) w
  have dq := fun w => DE.out (2 ^ (1 + k) + 1) (by omega) w
  have QB : Hid (∃ r m, quoB (-(n : Int)) (1 + k) = some r ∧ Ieee.single.mul r (floatOfInt .f32 ((2 ^ (1 + k) : Nat) : Int)) = some m ∧ NegOf m (floatOfInt .f32 (n : Int))) := Lib.hid (quo_neg n (1 + k) (by omega) (by omega))
  obtain ⟨p, hp⟩ : ∃ p, (2 ^ (1 + k) : Nat) = p := ⟨_, rfl⟩
  rw [hp] at SHk hp1 hp2 hdp hdq n2 n3 dp dq QB
  obtain ⟨r, m, hr, hm, hneg⟩ := QB.out
  rw [hr] at n2
  have sT : ∀ l : List UInt8, (⟨l.toArray⟩ : ByteArray).size = l.length := fun l => by show l.toArray.size = _; simp
  have i1 := fun w => IM.out ⟨(Lib.decDigits n).toArray⟩ (by rw [sT]; omega) w
  have e2 : (((⟨#[45]⟩ : ByteArray) ++ ⟨(Lib.decDigits n).toArray⟩ ++ ⟨#[47]⟩ ++ ⟨(Lib.decDigits p).toArray⟩ : ByteArray)).data.toList = 45 :: (Lib.decDigits n ++ 47 :: Lib.decDigits p) := by simp
  have e3 : (((⟨(Lib.decDigits n).toArray⟩ : ByteArray) ++ ⟨#[47]⟩ ++ ⟨(Lib.decDigits (p + 1)).toArray⟩ : ByteArray)).data.toList = Lib.decDigits n ++ 47 :: Lib.decDigits (p + 1) := by simp
  have s2 : (((⟨#[45]⟩ : ByteArray) ++ ⟨(Lib.decDigits n).toArray⟩ ++ ⟨#[47]⟩ ++ ⟨(Lib.decDigits p).toArray⟩ : ByteArray)).size ≤ 1048576 := by
    rw [bsz, e2]; simp; omega
  have s3 : (((⟨(Lib.decDigits n).toArray⟩ : ByteArray) ++ ⟨#[47]⟩ ++ ⟨(Lib.decDigits (p + 1)).toArray⟩ : ByteArray)).size ≤ 1048576 := by
    rw [bsz, e3]; simp; omega
  have i2 := fun w => IM.out _ s2 w
  have i3 := fun w => IM.out _ s3 w
  rw [e2, n2] at i2
  rw [e3, n3] at i3
  rw [show ((⟨(Lib.decDigits n).toArray⟩ : ByteArray)).data.toList = Lib.decDigits n by simp, n1] at i1
  have z1 : (⟨(Lib.decDigits n).toArray⟩ : ByteArray).size ≤ 5 := by rw [sT]; omega
  have z2 : (⟨(Lib.decDigits p).toArray⟩ : ByteArray).size ≤ 4 := by rw [sT]; omega
  have z3 : (⟨(Lib.decDigits (p + 1)).toArray⟩ : ByteArray).size ≤ 4 := by rw [sT]; omega
  clear n1 n2 n3 e2 e3 s2 s3 sT hdn hdp hdq QB DE IM hr hp3 PK HBg hp
  generalize (⟨(Lib.decDigits n).toArray⟩ : ByteArray) = T1 at dn i1 i2 i3 z1
  generalize (⟨(Lib.decDigits p).toArray⟩ : ByteArray) = T2 at dp i2 z2
  generalize (⟨(Lib.decDigits (p + 1)).toArray⟩ : ByteArray) = T3 at dq i3 z3
  have DN := Lib.hid dn
  have DP := Lib.hid dp
  have DQ := Lib.hid dq
  have I1 := Lib.hid i1
  have I2 := Lib.hid i2
  have I3 := Lib.hid i3
  clear dn dp dq i1 i2 i3
  have PW : Hid (∀ w', Below w.heap.size w w' → Pow w') := Lib.hid fun w' h => HT.out.below h HG.out
  have GW : Hid (∀ w', Below w.heap.size w w' → 1 < w'.heap.size) := Lib.hid fun w' h => Nat.lt_of_lt_of_le HG.out h.size
  have y1 : ¬ (9223372036854775807 : Nat) < 1 + T1.size := by omega
  have y2 : ¬ (9223372036854775807 : Nat) < 1 + T1.size + 1 := by omega
  have y3 : ¬ (9223372036854775807 : Nat) < 1 + T1.size + 1 + T2.size := by omega
  have y4 : ¬ (9223372036854775807 : Nat) < T1.size + 1 := by omega
  have y5 : ¬ (9223372036854775807 : Nat) < T1.size + 1 + T3.size := by omega
  have tp0 : (0 : Int) ≤ (p : Int) := by omega
  have tp1 : (p : Int) ≤ 1024 := by omega
  go_wp2_with fail
  rw [SHk]
  refine (DN.out w2).mono ?_
  rintro e w3 ⟨rfl, b3⟩
  have B3 := Lib.hid (B2.out.trans (b3.mono B2.out.size))
  clear b3
  go_wp2_with fail
  refine (I1.out w3 (PW.out _ B3.out) (GW.out _ B3.out)).mono ?_
  rintro e w4 ⟨rfl, b4⟩
  have B4 := Lib.hid (B3.out.trans (b4.mono B3.out.size))
  clear b4
  simp only [numR]
  go_wp2_with fail
  refine (DN.out w4).mono ?_
  rintro e w5 ⟨rfl, b5⟩
  have B5 := Lib.hid (B4.out.trans (b5.mono B4.out.size))
  clear b5
  go_wp2_with fail
  refine (DP.out w5).mono ?_
  rintro e w6 ⟨rfl, b6⟩
  have B6 := Lib.hid (B5.out.trans (b6.mono B5.out.size))
  clear b6
  go_wp2_with fail
  refine (I2.out w6 (PW.out _ B6.out) (GW.out _ B6.out)).mono ?_
  rintro e w7 ⟨rfl, b7⟩
  have B7 := Lib.hid (B6.out.trans (b7.mono B6.out.size))
  clear b7
  simp only [numR]
  go_wp2_with fail
  refine (DN.out w7).mono ?_
  rintro e w8 ⟨rfl, b8⟩
  have B8 := Lib.hid (B7.out.trans (b8.mono B7.out.size))
  clear b8
  go_wp2_with fail
  refine (DQ.out w8).mono ?_
  rintro e w9 ⟨rfl, b9⟩
  have B9 := Lib.hid (B8.out.trans (b9.mono B8.out.size))
  clear b9
  go_wp2_with fail
  refine (I3.out w9 (PW.out _ B9.out) (GW.out _ B9.out)).mono ?_
  rintro e w10 ⟨rfl, b10⟩
  have B10 := Lib.hid (B9.out.trans (b10.mono B9.out.size))
  clear b10
  simp only [numR]
  have feq : FloatKind.f32.format.order (floatOfInt .f32 (n : Int)) (floatOfInt .f32 (n : Int)) = some .eq := by
    have hk : kd (floatOfInt .f32 (n : Int)) ≠ 4 := kd_nearest _ _ _
    exact order32_self (by rw [nan_kd]; simpa using hk)
  have hmul : ∀ w, (binOp .mul 26 (.float .f32 r) (.float .f32 (floatOfInt .f32 (p : Int)))).run Tryd.prog w = .ok (.float .f32 m) w := fun w => run_float_arith w .mul 26 .f32 _ _ m hm
  have hng : ∀ w, (Op.unary .neg (.float .f32 (floatOfInt .f32 (n : Int)))).run Tryd.prog w = .ok (.float .f32 (opp (floatOfInt .f32 (n : Int)))) w := fun w => by
    have hw : W32 (floatOfInt .f32 (n : Int)) := Ieee.Format.nearest_lt Ieee.single _ _ _
    show Result.ok (Value.float .f32 (Op.negFloat .f32 (floatOfInt .f32 (n : Int)))) w = _
    rw [show Op.negFloat .f32 (floatOfInt .f32 (n : Int)) = opp (floatOfInt .f32 (n : Int)) from xor_sign_nat _ hw]
  have heq2 : FloatKind.f32.format.order m (opp (floatOfInt .f32 (n : Int))) = some .eq := hneg
  clear hm SHk hneg
  go_wp2
  go_ret
  exact ⟨rfl, B10.out⟩
end Go.Proofs.YtaihooljphkpeaaDoor
