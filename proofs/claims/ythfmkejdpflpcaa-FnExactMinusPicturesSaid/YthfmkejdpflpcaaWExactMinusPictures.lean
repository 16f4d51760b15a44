/-
  THE WALK of the law, whole.
-/
import Derived.Test.YthfmkejdpflpcaaNuc
import Derived.Test.YthfmkejdpflpcaaNy
import Derived.Test.YthfmkejdpflpcaaNz
namespace Go.Proofs.Ythfmkejdpflpcaa
open Go.ChangeShapes Go.WideShapes Go.ChangeAt Go.RowKit
theorem kExMinus {f g : Nat → Int} {n m : Nat} (hf : BlF n f) (hg : BlF m g) : ∃ K, bbV f n g m = true → PicK (GF MinusMasksG (shF f n) (shF g m)) K := by
  by_cases h : bbV f n g m = true
  · have h2 := h
    unfold bbV at h2
    rw [Bool.and_eq_true] at h2
    obtain ⟨K, hK⟩ := exO .andNot andNot_zeroL h2.1 hf hg n (Nat.le_refl _)
    exact ⟨K, fun _ => hK⟩
  · exact ⟨[], fun h2 => absurd h2 h⟩
set_option maxRecDepth 20000 in
set_option maxHeartbeats 8000000 in
theorem fnExactMinusPictures_walk (n m : Nat) (f g : Nat → Int) (hn : n ≤ maxLen) (hm : m ≤ maxLen) (hf : BlF n f) (hg : BlF m g) (a0 a1 : Option Addr) (c0 c1 : Nat) (w : World) (h0 : BlR w.heap.size w a0 n f) (h1 : BlR w.heap.size w a1 m g) :
    Calls Try.prog 8 #[.slice a0 n c0, .slice a1 m c1] w fun e w' => e = .returned (.bool true) ∧ Below w.heap.size w w' := by
  have SZ := Lib.hid szB_any
  by_cases hn1 : 1048576 < n
  · go_enter Try.func8, Try.ntmps8
    go_wp2_with fail
    refine (SZ.out a0 n c0 1048576 (Nat.le_refl _) hn w).mono ?_
    rintro e w' ⟨rfl, rfl⟩
    rw [if_pos hn1]
    go_wp2
    go_ret
    exact ⟨rfl, Below.refl _ _⟩
  by_cases hm1 : 1048576 - n < m
  · go_enter Try.func8, Try.ntmps8
    go_wp2_with fail
    refine (SZ.out a0 n c0 1048576 (Nat.le_refl _) hn w).mono ?_
    rintro e w' ⟨rfl, rfl⟩
    rw [if_neg hn1]
    have k1 : ((1048576 - n : Nat) : Int) < 0 ↔ False := by simp
    go_wp2_with fail
    refine (SZ.out a1 m c1 (1048576 - n) (by omega) hm w).mono ?_
    rintro e w' ⟨rfl, rfl⟩
    rw [if_pos hm1]
    go_wp2
    go_ret
    exact ⟨rfl, Below.refl _ _⟩
  have hn2 : n ≤ 1048576 := by omega
  have hm2 : m ≤ 1048576 := by omega
  have HN := Lib.hid hn2
  have HM := Lib.hid hm2
  have HN1 := Lib.hid hn1
  have HM1 := Lib.hid hm1
  have NL := Lib.hid hn
  have ML := Lib.hid hm
  have H0 := Lib.hid h0
  have H1 := Lib.hid h1
  have TO := Lib.hid toBS_any
  have TW := Lib.hid toBW_any
  have EQ := Lib.hid eqBS_any
  have MBN : Hid (∀ g cap w, WrB g (18 * n) w → Calls Try.prog 21 #[.slice (some ⟨g, 0, none⟩) n cap, .int .i64 1] w fun e w' => e = .returned (.int .i64 ((1 + 18 * n : Nat) : Int)) ∧ Onl g w w') := Lib.hid fun g cap w h => markBS_any g cap n hn2 w h
  have MBM : Hid (∀ g cap w, WrB g (18 * m) w → Calls Try.prog 21 #[.slice (some ⟨g, 0, none⟩) m cap, .int .i64 ((1 + 18 * n : Nat) : Int)] w fun e w' => e = .returned (.int .i64 (((1 + 18 * n) + 18 * m : Nat) : Int)) ∧ Onl g w w') := Lib.hid fun g cap w h => markBT_any g cap m (1 + 18 * n) hm2 (by omega) w h
  obtain ⟨K0, hK0⟩ := kExMinus hf hg
  have SP : Hid (∀ (ga gb ca cb : Nat) (w : World), BlR w.heap.size w (some ⟨ga, 0, none⟩) n f → BlR w.heap.size w (some ⟨gb, 0, none⟩) m g → Calls Try.prog 34 #[.slice (some ⟨ga, 0, none⟩) n ca, .slice (some ⟨gb, 0, none⟩) m cb] w fun e w' => ∃ v, e = .returned (.tuple #[v, .int .i64 (bbC f n g m K0)]) ∧ PR 18 w.heap.size w'.heap.size w' v (bbK f n g m K0).length (bcell (flB (GF MinusMasksG (shF f n) (shF g m)) (bbK f n g m K0))) ∧ Below w.heap.size w w') := Lib.hid fun ga gb ca cb w ha hb => (sMinusPic_any ga gb n m ca cb f g K0 w hn2 hm2 ha hb hf hg hK0).mono fun e w' ⟨v, he, h4, h5⟩ => ⟨v, he, PR.ob h4, h5⟩
  have IM : Hid (∀ (ga gb ca cb : Nat) (w : World), BlR w.heap.size w (some ⟨ga, 0, none⟩) n f → BlR w.heap.size w (some ⟨gb, 0, none⟩) m g → Calls Try.prog 35 #[.slice (some ⟨ga, 0, none⟩) n ca, .slice (some ⟨gb, 0, none⟩) m cb] w fun e w' => ∃ v, e = .returned (.tuple #[v, .int .i64 (bbC f n g m K0)]) ∧ PR 18 w.heap.size w'.heap.size w' v (bbK f n g m K0).length (bcell (flB (GF MinusMasksG (shF f n) (shF g m)) (bbK f n g m K0))) ∧ Below w.heap.size w w') := Lib.hid fun ga gb ca cb w ha hb => (iMinusPic_any sortsB _ _ n m ca cb f g K0 w hn2 hm2 ha hb hf hg hK0).mono fun e w' ⟨v, he, h4, h5⟩ => ⟨v, he, PR.ob h4, h5⟩
  have hl : Hid ((bbK f n g m K0).length ≤ 64) := Lib.hid (bbK_len f n g m K0)
  clear hK0 hf hg h0 h1 hn hm hn1 hm1 hn2 hm2
  generalize bbC f n g m K0 = cc at SP IM
  generalize flB (GF MinusMasksG (shF f n) (shF g m)) (bbK f n g m K0) = G at SP IM
  generalize (bbK f n g m K0).length = NN at SP IM hl
  have hl2 : Hid (NN ≤ 1000000) := Lib.hid (by have := hl.out; omega)
  go_enter Try.func8, Try.ntmps8
  go_wp2_with fail
  refine (SZ.out a0 n c0 1048576 (Nat.le_refl _) NL.out w).mono ?_
  rintro e w' ⟨rfl, rfl⟩
  rw [if_neg HN1.out]
  have k1 : ((1048576 - n : Nat) : Int) < 0 ↔ False := by simp
  go_wp2_with fail
  refine (SZ.out a1 m c1 (1048576 - n) (by omega) ML.out w).mono ?_
  rintro e w2x ⟨rfl, rfl⟩
  rw [if_neg HM1.out]
  have k2 : ((1048576 - n - m : Nat) : Int) < 0 ↔ False := by simp
  have km : decide (((1 + 18 * n + 18 * m : Nat) : Int) < 0) = false := by simp; omega
  have tn : decide (((1 + 18 * NN : Nat) : Int) < 0) = false := by simp; omega
  go_wp2_with fail
  refine (TO.out a0 c0 n f w.heap.size w (Nat.le_refl _) (H0.out.below (Below.refl _ _) (Nat.le_refl _)) HN.out).mono ?_
  rintro e w1 ⟨rfl, q, b, sz⟩
  have Z1 : Hid (w.heap.size ≤ w1.heap.size) := Lib.hid b.size
  have BB1 : Hid (Below w.heap.size w w1) := Lib.hid (b.mono (Nat.le_refl _))
  have S1 : Hid (BlR w1.heap.size w1 (some ⟨w.heap.size, 0, none⟩) n f) := Lib.hid (q.mono' sz)
  clear q b sz
  go_wp2_with fail
  refine (TO.out a1 c1 m g w.heap.size w1 (BB1.out.size) (H1.out.below BB1.out (Nat.le_refl _)) HM.out).mono ?_
  rintro e w2 ⟨rfl, q, b, sz⟩
  have Z2 : Hid (w1.heap.size ≤ w2.heap.size) := Lib.hid b.size
  have BB2 : Hid (Below w.heap.size w w2) := Lib.hid (BB1.out.trans (b.mono (by have := Z1.out; omega)))
  have S2 : Hid (BlR w2.heap.size w2 (some ⟨w.heap.size, 0, none⟩) n f) := Lib.hid ((S1.out.below b (Nat.le_refl _)).mono' b.size)
  have U2 : Hid (BlR w2.heap.size w2 (some ⟨w1.heap.size, 0, none⟩) m g) := Lib.hid (q.mono' sz)
  clear q b sz
  go_wp2_with fail
  refine (SP.out _ _ _ _ w2 S2.out U2.out).mono ?_
  rintro e w3 ⟨v0, rfl, r, b⟩
  have Z3 : Hid (w2.heap.size ≤ w3.heap.size) := Lib.hid b.size
  have BB3 : Hid (Below w.heap.size w w3) := Lib.hid (BB2.out.trans (b.mono (by have := Z1.out; have := Z2.out; omega)))
  have S3 : Hid (BlR w3.heap.size w3 (some ⟨w.heap.size, 0, none⟩) n f) := Lib.hid ((S2.out.below b (Nat.le_refl _)).mono' b.size)
  have U3 : Hid (BlR w3.heap.size w3 (some ⟨w1.heap.size, 0, none⟩) m g) := Lib.hid ((U2.out.below b (Nat.le_refl _)).mono' b.size)
  have R3 := Lib.hid r
  clear r b
  go_wp2_with fail
  refine (TW.out a0 c0 n f w.heap.size w3 (BB3.out.size) (H0.out.below BB3.out (Nat.le_refl _)) HN.out).mono ?_
  rintro e w4 ⟨rfl, q, b, sz, wr⟩
  have Z4 : Hid (w3.heap.size ≤ w4.heap.size) := Lib.hid b.size
  have BB4 : Hid (Below w.heap.size w w4) := Lib.hid (BB3.out.trans (b.mono (by have := Z1.out; have := Z2.out; have := Z3.out; omega)))
  have R4 : Hid (PR 18 w2.heap.size w3.heap.size w4 v0 NN (bcell G)) := Lib.hid (R3.out.below b (by have := Z1.out; have := Z2.out; have := Z3.out; omega))
  have X4 : Hid (BlR w4.heap.size w4 (some ⟨w3.heap.size, 0, none⟩) n f) := Lib.hid (q.mono' sz)
  have WX4 := Lib.hid wr
  have XL : Hid (w3.heap.size < w4.heap.size) := Lib.hid sz
  clear q b sz wr
  go_wp2_with fail
  refine (TW.out a1 c1 m g w.heap.size w4 (BB4.out.size) (H1.out.below BB4.out (Nat.le_refl _)) HM.out).mono ?_
  rintro e w5 ⟨rfl, q, b, sz, wr⟩
  have Z5 : Hid (w4.heap.size ≤ w5.heap.size) := Lib.hid b.size
  have BB5 : Hid (Below w.heap.size w w5) := Lib.hid (BB4.out.trans (b.mono (by have := Z1.out; have := Z2.out; have := Z3.out; have := Z4.out; omega)))
  have R5 : Hid (PR 18 w2.heap.size w3.heap.size w5 v0 NN (bcell G)) := Lib.hid (R4.out.below b (by have := Z1.out; have := Z2.out; have := Z3.out; have := Z4.out; omega))
  have X5 : Hid (BlR w5.heap.size w5 (some ⟨w3.heap.size, 0, none⟩) n f) := Lib.hid ((X4.out.below b (Nat.le_refl _)).mono' b.size)
  have WX5 : Hid (WrB w3.heap.size (18 * n) w5) := Lib.hid (WX4.out.below b (by have := XL.out; have := Z1.out; have := Z2.out; have := Z3.out; have := Z4.out; omega))
  have Y5 : Hid (BlR w5.heap.size w5 (some ⟨w4.heap.size, 0, none⟩) m g) := Lib.hid (q.mono' sz)
  have WY5 := Lib.hid wr
  have YL : Hid (w4.heap.size < w5.heap.size) := Lib.hid sz
  clear q b sz wr
  go_wp2_with fail
  refine (IM.out _ _ _ _ w5 X5.out Y5.out).mono ?_
  rintro e w6 ⟨v1, rfl, r, b⟩
  have Z6 : Hid (w5.heap.size ≤ w6.heap.size) := Lib.hid b.size
  have BB6 : Hid (Below w.heap.size w w6) := Lib.hid (BB5.out.trans (b.mono (by have := Z1.out; have := Z2.out; have := Z3.out; have := Z4.out; have := Z5.out; omega)))
  have R6 : Hid (PR 18 w2.heap.size w3.heap.size w6 v0 NN (bcell G)) := Lib.hid (R5.out.below b (by have := Z1.out; have := Z2.out; have := Z3.out; have := Z4.out; have := Z5.out; omega))
  have X6 : Hid (BlR w6.heap.size w6 (some ⟨w3.heap.size, 0, none⟩) n f) := Lib.hid ((X5.out.below b (Nat.le_refl _)).mono' b.size)
  have WX6 : Hid (WrB w3.heap.size (18 * n) w6) := Lib.hid (WX5.out.below b (by have := XL.out; have := Z1.out; have := Z2.out; have := Z3.out; have := Z4.out; have := Z5.out; omega))
  have Y6 : Hid (BlR w6.heap.size w6 (some ⟨w4.heap.size, 0, none⟩) m g) := Lib.hid ((Y5.out.below b (Nat.le_refl _)).mono' b.size)
  have WY6 : Hid (WrB w4.heap.size (18 * m) w6) := Lib.hid (WY5.out.below b (by have := YL.out; have := Z1.out; have := Z2.out; have := Z3.out; have := Z4.out; have := Z5.out; omega))
  have T6 := Lib.hid r
  clear r b
  go_wp2_with fail
  refine (eqB_any hl2.out T6.out R6.out).mono ?_
  rintro e w7 ⟨rfl, b⟩
  have Z7 : Hid (w6.heap.size ≤ w7.heap.size) := Lib.hid b.size
  have BB7 : Hid (Below w.heap.size w w7) := Lib.hid (BB6.out.trans (b.mono (by have := Z1.out; have := Z2.out; have := Z3.out; have := Z4.out; have := Z5.out; have := Z6.out; omega)))
  have R7 : Hid (PR 18 w2.heap.size w3.heap.size w7 v0 NN (bcell G)) := Lib.hid (R6.out.below b (by have := Z1.out; have := Z2.out; have := Z3.out; have := Z4.out; have := Z5.out; have := Z6.out; omega))
  have X7 : Hid (BlR w7.heap.size w7 (some ⟨w3.heap.size, 0, none⟩) n f) := Lib.hid ((X6.out.below b (Nat.le_refl _)).mono' b.size)
  have WX7 : Hid (WrB w3.heap.size (18 * n) w7) := Lib.hid (WX6.out.below b (by have := XL.out; have := Z1.out; have := Z2.out; have := Z3.out; have := Z4.out; have := Z5.out; have := Z6.out; omega))
  have Y7 : Hid (BlR w7.heap.size w7 (some ⟨w4.heap.size, 0, none⟩) m g) := Lib.hid ((Y6.out.below b (Nat.le_refl _)).mono' b.size)
  have WY7 : Hid (WrB w4.heap.size (18 * m) w7) := Lib.hid (WY6.out.below b (by have := YL.out; have := Z1.out; have := Z2.out; have := Z3.out; have := Z4.out; have := Z5.out; have := Z6.out; omega))
  have T7 : Hid (PR 18 w5.heap.size w6.heap.size w7 v1 NN (bcell G)) := Lib.hid (T6.out.below b (by have := Z1.out; have := Z2.out; have := Z3.out; have := Z4.out; have := Z5.out; have := Z6.out; omega))
  clear b
  go_wp2_with fail
  refine (TO.out a0 c0 n f w.heap.size w7 (BB7.out.size) (H0.out.below BB7.out (Nat.le_refl _)) HN.out).mono ?_
  rintro e w8 ⟨rfl, q, b, sz⟩
  have Z8 : Hid (w7.heap.size ≤ w8.heap.size) := Lib.hid b.size
  have BB8 : Hid (Below w.heap.size w w8) := Lib.hid (BB7.out.trans (b.mono (by have := Z1.out; have := Z2.out; have := Z3.out; have := Z4.out; have := Z5.out; have := Z6.out; have := Z7.out; omega)))
  have R8 : Hid (PR 18 w2.heap.size w3.heap.size w8 v0 NN (bcell G)) := Lib.hid (R7.out.below b (by have := Z1.out; have := Z2.out; have := Z3.out; have := Z4.out; have := Z5.out; have := Z6.out; have := Z7.out; omega))
  have X8 : Hid (BlR w8.heap.size w8 (some ⟨w3.heap.size, 0, none⟩) n f) := Lib.hid ((X7.out.below b (Nat.le_refl _)).mono' b.size)
  have WX8 : Hid (WrB w3.heap.size (18 * n) w8) := Lib.hid (WX7.out.below b (by have := XL.out; have := Z1.out; have := Z2.out; have := Z3.out; have := Z4.out; have := Z5.out; have := Z6.out; have := Z7.out; omega))
  have Y8 : Hid (BlR w8.heap.size w8 (some ⟨w4.heap.size, 0, none⟩) m g) := Lib.hid ((Y7.out.below b (Nat.le_refl _)).mono' b.size)
  have WY8 : Hid (WrB w4.heap.size (18 * m) w8) := Lib.hid (WY7.out.below b (by have := YL.out; have := Z1.out; have := Z2.out; have := Z3.out; have := Z4.out; have := Z5.out; have := Z6.out; have := Z7.out; omega))
  have T8 : Hid (PR 18 w5.heap.size w6.heap.size w8 v1 NN (bcell G)) := Lib.hid (T7.out.below b (by have := Z1.out; have := Z2.out; have := Z3.out; have := Z4.out; have := Z5.out; have := Z6.out; have := Z7.out; omega))
  have S8 : Hid (BlR w8.heap.size w8 (some ⟨w7.heap.size, 0, none⟩) n f) := Lib.hid (q.mono' sz)
  clear q b sz
  go_wp2_with fail
  refine (EQ.out _ _ n _ _ f w8.heap.size w8 (Nat.le_refl _) HN.out X8.out S8.out).mono ?_
  rintro e w9 ⟨rfl, b⟩
  have Z9 : Hid (w8.heap.size ≤ w9.heap.size) := Lib.hid b.size
  have BB9 : Hid (Below w.heap.size w w9) := Lib.hid (BB8.out.trans (b.mono (by have := Z1.out; have := Z2.out; have := Z3.out; have := Z4.out; have := Z5.out; have := Z6.out; have := Z7.out; have := Z8.out; omega)))
  have R9 : Hid (PR 18 w2.heap.size w3.heap.size w9 v0 NN (bcell G)) := Lib.hid (R8.out.below b (by have := Z1.out; have := Z2.out; have := Z3.out; have := Z4.out; have := Z5.out; have := Z6.out; have := Z7.out; have := Z8.out; omega))
  have X9 : Hid (BlR w9.heap.size w9 (some ⟨w3.heap.size, 0, none⟩) n f) := Lib.hid ((X8.out.below b (Nat.le_refl _)).mono' b.size)
  have WX9 : Hid (WrB w3.heap.size (18 * n) w9) := Lib.hid (WX8.out.below b (by have := XL.out; have := Z1.out; have := Z2.out; have := Z3.out; have := Z4.out; have := Z5.out; have := Z6.out; have := Z7.out; have := Z8.out; omega))
  have Y9 : Hid (BlR w9.heap.size w9 (some ⟨w4.heap.size, 0, none⟩) m g) := Lib.hid ((Y8.out.below b (Nat.le_refl _)).mono' b.size)
  have WY9 : Hid (WrB w4.heap.size (18 * m) w9) := Lib.hid (WY8.out.below b (by have := YL.out; have := Z1.out; have := Z2.out; have := Z3.out; have := Z4.out; have := Z5.out; have := Z6.out; have := Z7.out; have := Z8.out; omega))
  have T9 : Hid (PR 18 w5.heap.size w6.heap.size w9 v1 NN (bcell G)) := Lib.hid (T8.out.below b (by have := Z1.out; have := Z2.out; have := Z3.out; have := Z4.out; have := Z5.out; have := Z6.out; have := Z7.out; have := Z8.out; omega))
  have S9 : Hid (BlR w9.heap.size w9 (some ⟨w7.heap.size, 0, none⟩) n f) := Lib.hid ((S8.out.below b (Nat.le_refl _)).mono' b.size)
  clear b
  go_wp2_with fail
  refine (TO.out a1 c1 m g w.heap.size w9 (BB9.out.size) (H1.out.below BB9.out (Nat.le_refl _)) HM.out).mono ?_
  rintro e w10 ⟨rfl, q, b, sz⟩
  have Z10 : Hid (w9.heap.size ≤ w10.heap.size) := Lib.hid b.size
  have BB10 : Hid (Below w.heap.size w w10) := Lib.hid (BB9.out.trans (b.mono (by have := Z1.out; have := Z2.out; have := Z3.out; have := Z4.out; have := Z5.out; have := Z6.out; have := Z7.out; have := Z8.out; have := Z9.out; omega)))
  have R10 : Hid (PR 18 w2.heap.size w3.heap.size w10 v0 NN (bcell G)) := Lib.hid (R9.out.below b (by have := Z1.out; have := Z2.out; have := Z3.out; have := Z4.out; have := Z5.out; have := Z6.out; have := Z7.out; have := Z8.out; have := Z9.out; omega))
  have WX10 : Hid (WrB w3.heap.size (18 * n) w10) := Lib.hid (WX9.out.below b (by have := XL.out; have := Z1.out; have := Z2.out; have := Z3.out; have := Z4.out; have := Z5.out; have := Z6.out; have := Z7.out; have := Z8.out; have := Z9.out; omega))
  have Y10 : Hid (BlR w10.heap.size w10 (some ⟨w4.heap.size, 0, none⟩) m g) := Lib.hid ((Y9.out.below b (Nat.le_refl _)).mono' b.size)
  have WY10 : Hid (WrB w4.heap.size (18 * m) w10) := Lib.hid (WY9.out.below b (by have := YL.out; have := Z1.out; have := Z2.out; have := Z3.out; have := Z4.out; have := Z5.out; have := Z6.out; have := Z7.out; have := Z8.out; have := Z9.out; omega))
  have T10 : Hid (PR 18 w5.heap.size w6.heap.size w10 v1 NN (bcell G)) := Lib.hid (T9.out.below b (by have := Z1.out; have := Z2.out; have := Z3.out; have := Z4.out; have := Z5.out; have := Z6.out; have := Z7.out; have := Z8.out; have := Z9.out; omega))
  have S10 : Hid (BlR w10.heap.size w10 (some ⟨w9.heap.size, 0, none⟩) m g) := Lib.hid (q.mono' sz)
  clear q b sz
  go_wp2_with fail
  refine (EQ.out _ _ m _ _ g w10.heap.size w10 (Nat.le_refl _) HM.out Y10.out S10.out).mono ?_
  rintro e w11 ⟨rfl, b⟩
  have Z11 : Hid (w10.heap.size ≤ w11.heap.size) := Lib.hid b.size
  have BB11 : Hid (Below w.heap.size w w11) := Lib.hid (BB10.out.trans (b.mono (by have := Z1.out; have := Z2.out; have := Z3.out; have := Z4.out; have := Z5.out; have := Z6.out; have := Z7.out; have := Z8.out; have := Z9.out; have := Z10.out; omega)))
  have R11 : Hid (PR 18 w2.heap.size w3.heap.size w11 v0 NN (bcell G)) := Lib.hid (R10.out.below b (by have := Z1.out; have := Z2.out; have := Z3.out; have := Z4.out; have := Z5.out; have := Z6.out; have := Z7.out; have := Z8.out; have := Z9.out; have := Z10.out; omega))
  have WX11 : Hid (WrB w3.heap.size (18 * n) w11) := Lib.hid (WX10.out.below b (by have := XL.out; have := Z1.out; have := Z2.out; have := Z3.out; have := Z4.out; have := Z5.out; have := Z6.out; have := Z7.out; have := Z8.out; have := Z9.out; have := Z10.out; omega))
  have Y11 : Hid (BlR w11.heap.size w11 (some ⟨w4.heap.size, 0, none⟩) m g) := Lib.hid ((Y10.out.below b (Nat.le_refl _)).mono' b.size)
  have WY11 : Hid (WrB w4.heap.size (18 * m) w11) := Lib.hid (WY10.out.below b (by have := YL.out; have := Z1.out; have := Z2.out; have := Z3.out; have := Z4.out; have := Z5.out; have := Z6.out; have := Z7.out; have := Z8.out; have := Z9.out; have := Z10.out; omega))
  have T11 : Hid (PR 18 w5.heap.size w6.heap.size w11 v1 NN (bcell G)) := Lib.hid (T10.out.below b (by have := Z1.out; have := Z2.out; have := Z3.out; have := Z4.out; have := Z5.out; have := Z6.out; have := Z7.out; have := Z8.out; have := Z9.out; have := Z10.out; omega))
  have S11 : Hid (BlR w11.heap.size w11 (some ⟨w9.heap.size, 0, none⟩) m g) := Lib.hid ((S10.out.below b (Nat.le_refl _)).mono' b.size)
  clear b
  go_wp2_with fail
  refine (MBN.out w3.heap.size n w11 WX11.out).mono ?_
  rintro e w12 ⟨rfl, o⟩
  have b : Below w3.heap.size w11 w12 := o.below (Nat.le_refl _)
  have Z12 : Hid (w11.heap.size ≤ w12.heap.size) := Lib.hid b.size
  have BB12 : Hid (Below w.heap.size w w12) := Lib.hid (BB11.out.trans (b.mono (by have := Z1.out; have := Z2.out; have := Z3.out; have := Z4.out; have := Z5.out; have := Z6.out; have := Z7.out; have := Z8.out; have := Z9.out; have := Z10.out; have := Z11.out; omega)))
  have R12 : Hid (PR 18 w2.heap.size w3.heap.size w12 v0 NN (bcell G)) := Lib.hid (R11.out.below b (Nat.le_refl _))
  have WY12 : Hid (WrB w4.heap.size (18 * m) w12) := Lib.hid (WY11.out.keepB (o.2.2.2.2 _ (by have := XL.out; omega)))
  have T12 : Hid (PR 18 w5.heap.size w6.heap.size w12 v1 NN (bcell G)) := Lib.hid (T11.out.keep b.size (fun k hk => o.2.2.2.2 k (by have := XL.out; have := YL.out; omega)))
  clear b o
  go_wp2_with fail
  refine (MBM.out w4.heap.size m w12 WY12.out).mono ?_
  rintro e w13 ⟨rfl, o⟩
  have b : Below w4.heap.size w12 w13 := o.below (Nat.le_refl _)
  have Z13 : Hid (w12.heap.size ≤ w13.heap.size) := Lib.hid b.size
  have BB13 : Hid (Below w.heap.size w w13) := Lib.hid (BB12.out.trans (b.mono (by have := Z1.out; have := Z2.out; have := Z3.out; have := Z4.out; have := Z5.out; have := Z6.out; have := Z7.out; have := Z8.out; have := Z9.out; have := Z10.out; have := Z11.out; have := Z12.out; omega)))
  have R13 : Hid (PR 18 w2.heap.size w3.heap.size w13 v0 NN (bcell G)) := Lib.hid (R12.out.below b (by have := XL.out; omega))
  have T13 : Hid (PR 18 w5.heap.size w6.heap.size w13 v1 NN (bcell G)) := Lib.hid (T12.out.keep b.size (fun k hk => o.2.2.2.2 k (by have := XL.out; have := YL.out; omega)))
  clear b o
  go_wp2_with fail
  refine (eqB_any hl2.out T13.out R13.out).mono ?_
  rintro e w14 ⟨rfl, b⟩
  have Z14 : Hid (w13.heap.size ≤ w14.heap.size) := Lib.hid b.size
  have BB14 : Hid (Below w.heap.size w w14) := Lib.hid (BB13.out.trans (b.mono (by have := Z1.out; have := Z2.out; have := Z3.out; have := Z4.out; have := Z5.out; have := Z6.out; have := Z7.out; have := Z8.out; have := Z9.out; have := Z10.out; have := Z11.out; have := Z12.out; have := Z13.out; omega)))
  have R14 : Hid (PR 18 w2.heap.size w3.heap.size w14 v0 NN (bcell G)) := Lib.hid (R13.out.below b (by have := Z1.out; have := Z2.out; have := Z3.out; have := Z4.out; have := Z5.out; have := Z6.out; have := Z7.out; have := Z8.out; have := Z9.out; have := Z10.out; have := Z11.out; have := Z12.out; have := Z13.out; omega))
  have T14 : Hid (PR 18 w5.heap.size w6.heap.size w14 v1 NN (bcell G)) := Lib.hid (T13.out.below b (by have := Z1.out; have := Z2.out; have := Z3.out; have := Z4.out; have := Z5.out; have := Z6.out; have := Z7.out; have := Z8.out; have := Z9.out; have := Z10.out; have := Z11.out; have := Z12.out; have := Z13.out; omega))
  clear b
  go_wp2_with fail
  refine (markB_any hl.out T14.out (by have := Z1.out; have := Z2.out; have := Z3.out; have := Z4.out; have := Z5.out; have := Z6.out; have := Z7.out; have := Z8.out; have := Z9.out; have := Z10.out; have := Z11.out; have := Z12.out; have := Z13.out; have := Z14.out; omega)).mono ?_
  rintro e w15 ⟨rfl, r, b⟩
  have Z15 : Hid (w14.heap.size ≤ w15.heap.size) := Lib.hid b.size
  have BB15 : Hid (Below w.heap.size w w15) := Lib.hid (BB14.out.trans (b.mono (by have := Z1.out; have := Z2.out; have := Z3.out; have := Z4.out; have := Z5.out; have := Z6.out; have := Z7.out; have := Z8.out; have := Z9.out; have := Z10.out; have := Z11.out; have := Z12.out; have := Z13.out; have := Z14.out; omega)))
  have R15 : Hid (PR 18 w2.heap.size w3.heap.size w15 v0 NN (bcell G)) := Lib.hid (R14.out.below b (by have := Z1.out; have := Z2.out; have := Z3.out; have := Z4.out; have := Z5.out; have := Z6.out; have := Z7.out; have := Z8.out; have := Z9.out; have := Z10.out; have := Z11.out; have := Z12.out; have := Z13.out; have := Z14.out; have := XL.out; have := YL.out; omega))
  have T15 := Lib.hid r
  clear r b
  go_wp2_with fail
  refine (heldB_any hl.out T15.out).mono ?_
  rintro e w16 ⟨rfl, b⟩
  have Z16 : Hid (w15.heap.size ≤ w16.heap.size) := Lib.hid b.size
  have BB16 : Hid (Below w.heap.size w w16) := Lib.hid (BB15.out.trans (b.mono (by have := Z1.out; have := Z2.out; have := Z3.out; have := Z4.out; have := Z5.out; have := Z6.out; have := Z7.out; have := Z8.out; have := Z9.out; have := Z10.out; have := Z11.out; have := Z12.out; have := Z13.out; have := Z14.out; have := Z15.out; omega)))
  have R16 : Hid (PR 18 w2.heap.size w3.heap.size w16 v0 NN (bcell G)) := Lib.hid (R15.out.below b (by have := Z1.out; have := Z2.out; have := Z3.out; have := Z4.out; have := Z5.out; have := Z6.out; have := Z7.out; have := Z8.out; have := Z9.out; have := Z10.out; have := Z11.out; have := Z12.out; have := Z13.out; have := Z14.out; have := Z15.out; omega))
  have T16 : Hid (PR 18 w5.heap.size w6.heap.size w16 v1 NN markBk) := Lib.hid (T15.out.below b (by have := Z1.out; have := Z2.out; have := Z3.out; have := Z4.out; have := Z5.out; have := Z6.out; have := Z7.out; have := Z8.out; have := Z9.out; have := Z10.out; have := Z11.out; have := Z12.out; have := Z13.out; have := Z14.out; have := Z15.out; omega))
  clear b
  go_wp2_with fail
  refine (TO.out a0 c0 n f w.heap.size w16 (BB16.out.size) (H0.out.below BB16.out (Nat.le_refl _)) HN.out).mono ?_
  rintro e w17 ⟨rfl, q, b, sz⟩
  have Z17 : Hid (w16.heap.size ≤ w17.heap.size) := Lib.hid b.size
  have BB17 : Hid (Below w.heap.size w w17) := Lib.hid (BB16.out.trans (b.mono (by have := Z1.out; have := Z2.out; have := Z3.out; have := Z4.out; have := Z5.out; have := Z6.out; have := Z7.out; have := Z8.out; have := Z9.out; have := Z10.out; have := Z11.out; have := Z12.out; have := Z13.out; have := Z14.out; have := Z15.out; have := Z16.out; omega)))
  have R17 : Hid (PR 18 w2.heap.size w3.heap.size w17 v0 NN (bcell G)) := Lib.hid (R16.out.below b (by have := Z1.out; have := Z2.out; have := Z3.out; have := Z4.out; have := Z5.out; have := Z6.out; have := Z7.out; have := Z8.out; have := Z9.out; have := Z10.out; have := Z11.out; have := Z12.out; have := Z13.out; have := Z14.out; have := Z15.out; have := Z16.out; omega))
  have T17 : Hid (PR 18 w5.heap.size w6.heap.size w17 v1 NN markBk) := Lib.hid (T16.out.below b (by have := Z1.out; have := Z2.out; have := Z3.out; have := Z4.out; have := Z5.out; have := Z6.out; have := Z7.out; have := Z8.out; have := Z9.out; have := Z10.out; have := Z11.out; have := Z12.out; have := Z13.out; have := Z14.out; have := Z15.out; have := Z16.out; omega))
  have S17 : Hid (BlR w17.heap.size w17 (some ⟨w16.heap.size, 0, none⟩) n f) := Lib.hid (q.mono' sz)
  clear q b sz
  go_wp2_with fail
  refine (TO.out a1 c1 m g w.heap.size w17 (BB17.out.size) (H1.out.below BB17.out (Nat.le_refl _)) HM.out).mono ?_
  rintro e w18 ⟨rfl, q, b, sz⟩
  have Z18 : Hid (w17.heap.size ≤ w18.heap.size) := Lib.hid b.size
  have BB18 : Hid (Below w.heap.size w w18) := Lib.hid (BB17.out.trans (b.mono (by have := Z1.out; have := Z2.out; have := Z3.out; have := Z4.out; have := Z5.out; have := Z6.out; have := Z7.out; have := Z8.out; have := Z9.out; have := Z10.out; have := Z11.out; have := Z12.out; have := Z13.out; have := Z14.out; have := Z15.out; have := Z16.out; have := Z17.out; omega)))
  have R18 : Hid (PR 18 w2.heap.size w3.heap.size w18 v0 NN (bcell G)) := Lib.hid (R17.out.below b (by have := Z1.out; have := Z2.out; have := Z3.out; have := Z4.out; have := Z5.out; have := Z6.out; have := Z7.out; have := Z8.out; have := Z9.out; have := Z10.out; have := Z11.out; have := Z12.out; have := Z13.out; have := Z14.out; have := Z15.out; have := Z16.out; have := Z17.out; omega))
  have T18 : Hid (PR 18 w5.heap.size w6.heap.size w18 v1 NN markBk) := Lib.hid (T17.out.below b (by have := Z1.out; have := Z2.out; have := Z3.out; have := Z4.out; have := Z5.out; have := Z6.out; have := Z7.out; have := Z8.out; have := Z9.out; have := Z10.out; have := Z11.out; have := Z12.out; have := Z13.out; have := Z14.out; have := Z15.out; have := Z16.out; have := Z17.out; omega))
  have S18 : Hid (BlR w18.heap.size w18 (some ⟨w16.heap.size, 0, none⟩) n f) := Lib.hid ((S17.out.below b (Nat.le_refl _)).mono' b.size)
  have U18 : Hid (BlR w18.heap.size w18 (some ⟨w17.heap.size, 0, none⟩) m g) := Lib.hid (q.mono' sz)
  clear q b sz
  go_wp2_with fail
  refine (IM.out _ _ _ _ w18 S18.out U18.out).mono ?_
  rintro e w19 ⟨v2, rfl, r, b⟩
  have Z19 : Hid (w18.heap.size ≤ w19.heap.size) := Lib.hid b.size
  have BB19 : Hid (Below w.heap.size w w19) := Lib.hid (BB18.out.trans (b.mono (by have := Z1.out; have := Z2.out; have := Z3.out; have := Z4.out; have := Z5.out; have := Z6.out; have := Z7.out; have := Z8.out; have := Z9.out; have := Z10.out; have := Z11.out; have := Z12.out; have := Z13.out; have := Z14.out; have := Z15.out; have := Z16.out; have := Z17.out; have := Z18.out; omega)))
  have R19 : Hid (PR 18 w2.heap.size w3.heap.size w19 v0 NN (bcell G)) := Lib.hid (R18.out.below b (by have := Z1.out; have := Z2.out; have := Z3.out; have := Z4.out; have := Z5.out; have := Z6.out; have := Z7.out; have := Z8.out; have := Z9.out; have := Z10.out; have := Z11.out; have := Z12.out; have := Z13.out; have := Z14.out; have := Z15.out; have := Z16.out; have := Z17.out; have := Z18.out; omega))
  have T19 : Hid (PR 18 w5.heap.size w6.heap.size w19 v1 NN markBk) := Lib.hid (T18.out.below b (by have := Z1.out; have := Z2.out; have := Z3.out; have := Z4.out; have := Z5.out; have := Z6.out; have := Z7.out; have := Z8.out; have := Z9.out; have := Z10.out; have := Z11.out; have := Z12.out; have := Z13.out; have := Z14.out; have := Z15.out; have := Z16.out; have := Z17.out; have := Z18.out; omega))
  have S19 : Hid (BlR w19.heap.size w19 (some ⟨w16.heap.size, 0, none⟩) n f) := Lib.hid ((S18.out.below b (Nat.le_refl _)).mono' b.size)
  have U19 : Hid (BlR w19.heap.size w19 (some ⟨w17.heap.size, 0, none⟩) m g) := Lib.hid ((U18.out.below b (Nat.le_refl _)).mono' b.size)
  have V19 := Lib.hid r
  clear r b
  go_wp2_with fail
  refine (eqB_any hl2.out V19.out R19.out).mono ?_
  rintro e w20 ⟨rfl, b⟩
  have Z20 : Hid (w19.heap.size ≤ w20.heap.size) := Lib.hid b.size
  have BB20 : Hid (Below w.heap.size w w20) := Lib.hid (BB19.out.trans (b.mono (by have := Z1.out; have := Z2.out; have := Z3.out; have := Z4.out; have := Z5.out; have := Z6.out; have := Z7.out; have := Z8.out; have := Z9.out; have := Z10.out; have := Z11.out; have := Z12.out; have := Z13.out; have := Z14.out; have := Z15.out; have := Z16.out; have := Z17.out; have := Z18.out; have := Z19.out; omega)))
  have R20 : Hid (PR 18 w2.heap.size w3.heap.size w20 v0 NN (bcell G)) := Lib.hid (R19.out.below b (by have := Z1.out; have := Z2.out; have := Z3.out; have := Z4.out; have := Z5.out; have := Z6.out; have := Z7.out; have := Z8.out; have := Z9.out; have := Z10.out; have := Z11.out; have := Z12.out; have := Z13.out; have := Z14.out; have := Z15.out; have := Z16.out; have := Z17.out; have := Z18.out; have := Z19.out; omega))
  have T20 : Hid (PR 18 w5.heap.size w6.heap.size w20 v1 NN markBk) := Lib.hid (T19.out.below b (by have := Z1.out; have := Z2.out; have := Z3.out; have := Z4.out; have := Z5.out; have := Z6.out; have := Z7.out; have := Z8.out; have := Z9.out; have := Z10.out; have := Z11.out; have := Z12.out; have := Z13.out; have := Z14.out; have := Z15.out; have := Z16.out; have := Z17.out; have := Z18.out; have := Z19.out; omega))
  have V20 : Hid (PR 18 w18.heap.size w19.heap.size w20 v2 NN (bcell G)) := Lib.hid (V19.out.below b (by have := Z1.out; have := Z2.out; have := Z3.out; have := Z4.out; have := Z5.out; have := Z6.out; have := Z7.out; have := Z8.out; have := Z9.out; have := Z10.out; have := Z11.out; have := Z12.out; have := Z13.out; have := Z14.out; have := Z15.out; have := Z16.out; have := Z17.out; have := Z18.out; have := Z19.out; omega))
  clear b
  go_wp2_with fail
  refine (heldB_any hl.out T20.out).mono ?_
  rintro e w21 ⟨rfl, b⟩
  have Z21 : Hid (w20.heap.size ≤ w21.heap.size) := Lib.hid b.size
  have BB21 : Hid (Below w.heap.size w w21) := Lib.hid (BB20.out.trans (b.mono (by have := Z1.out; have := Z2.out; have := Z3.out; have := Z4.out; have := Z5.out; have := Z6.out; have := Z7.out; have := Z8.out; have := Z9.out; have := Z10.out; have := Z11.out; have := Z12.out; have := Z13.out; have := Z14.out; have := Z15.out; have := Z16.out; have := Z17.out; have := Z18.out; have := Z19.out; have := Z20.out; omega)))
  have R21 : Hid (PR 18 w2.heap.size w3.heap.size w21 v0 NN (bcell G)) := Lib.hid (R20.out.below b (by have := Z1.out; have := Z2.out; have := Z3.out; have := Z4.out; have := Z5.out; have := Z6.out; have := Z7.out; have := Z8.out; have := Z9.out; have := Z10.out; have := Z11.out; have := Z12.out; have := Z13.out; have := Z14.out; have := Z15.out; have := Z16.out; have := Z17.out; have := Z18.out; have := Z19.out; have := Z20.out; omega))
  have T21 : Hid (PR 18 w5.heap.size w6.heap.size w21 v1 NN markBk) := Lib.hid (T20.out.below b (by have := Z1.out; have := Z2.out; have := Z3.out; have := Z4.out; have := Z5.out; have := Z6.out; have := Z7.out; have := Z8.out; have := Z9.out; have := Z10.out; have := Z11.out; have := Z12.out; have := Z13.out; have := Z14.out; have := Z15.out; have := Z16.out; have := Z17.out; have := Z18.out; have := Z19.out; have := Z20.out; omega))
  have V21 : Hid (PR 18 w18.heap.size w19.heap.size w21 v2 NN (bcell G)) := Lib.hid (V20.out.below b (by have := Z1.out; have := Z2.out; have := Z3.out; have := Z4.out; have := Z5.out; have := Z6.out; have := Z7.out; have := Z8.out; have := Z9.out; have := Z10.out; have := Z11.out; have := Z12.out; have := Z13.out; have := Z14.out; have := Z15.out; have := Z16.out; have := Z17.out; have := Z18.out; have := Z19.out; have := Z20.out; omega))
  clear b
  go_wp2
  go_ret
  exact ⟨rfl, BB21.out⟩
end Go.Proofs.Ythfmkejdpflpcaa
