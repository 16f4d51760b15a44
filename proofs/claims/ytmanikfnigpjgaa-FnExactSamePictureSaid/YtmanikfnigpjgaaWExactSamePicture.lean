/-
  THE WALK of the law, whole.
-/
import Derived.Test.YtmanikfnigpjgaaSq
import Derived.Test.YtmanikfnigpjgaaTq
namespace Go.Proofs.Ytmanikfnigpjgaa
open Go.ChangeShapes Go.WideShapes Go.ChangeAt Go.RowKit
theorem BlR.mono' {B B' : Nat} {w : World} {a : Option Addr} {n : Nat} {f : Nat → Int} (h : BlR B w a n f) (hB : B ≤ B') : BlR B' w a n f := by
  rcases h with h | ⟨g, off, ha, hg, hc⟩
  · exact .inl h
  · exact .inr ⟨g, off, ha, by omega, hc⟩
theorem szB_any (a : Option Addr) (n cap left : Nat) (hl : left ≤ 1048576) (hn : n ≤ maxLen) (w : World) :
    Calls Try.prog 30 #[.slice a n cap, .int .i64 (left : Int)] w fun e w' => e = .returned (.int .i64 (if left < n then (-1 : Int) else ((left - n : Nat) : Int))) ∧ w = w' := by
  have hm : maxLen = 4611686018427387904 ∨ True := .inr trivial
  unfold maxLen at hn
  by_cases h : left < n
  · rw [if_pos h]
    have h1 : ((left : Int) - (n : Int) < 0) := by omega
    go_enter Try.func30, Try.ntmps30
    go_wp2
    go_ret
    exact ⟨rfl, rfl⟩
  · rw [if_neg h]
    have h1 : (0 : Int) ≤ (left : Int) - (n : Int) := by omega
    have h2 : ((left - n : Nat) : Int) = (left : Int) - (n : Int) := by omega
    rw [h2]
    go_enter Try.func30, Try.ntmps30
    go_wp2
    go_ret
    exact ⟨rfl, rfl⟩
set_option maxRecDepth 20000 in
set_option maxHeartbeats 4000000 in
theorem fnExactSamePicture_walk (n m : Nat) (f g : Nat → Int) (hn : n ≤ maxLen) (hm : m ≤ maxLen) (a0 a1 : Option Addr) (c0 c1 : Nat) (w : World) (h0 : BlR w.heap.size w a0 n f) (h1 : BlR w.heap.size w a1 m g) :
    Calls Try.prog 8 #[.slice a0 n c0, .slice a1 m c1] w fun e w' => e = .returned (.bool true) ∧ Below w.heap.size w w' := by
  have SZ := Lib.hid szB_any
  by_cases hn1 : 1048576 < n
  · go_enter Try.func8, Try.ntmps8
    go_wp2_with fail
    refine (SZ.out a0 n c0 1048576 (Nat.le_refl _) hn w).mono ?_
    rintro e w' ⟨rfl, rfl⟩
    rw [if_pos hn1]
    go_wp2
    go_ret
    exact ⟨rfl, Below.refl _ _⟩
  by_cases hm1 : 1048576 - n < m
  · go_enter Try.func8, Try.ntmps8
    go_wp2_with fail
    refine (SZ.out a0 n c0 1048576 (Nat.le_refl _) hn w).mono ?_
    rintro e w' ⟨rfl, rfl⟩
    rw [if_neg hn1]
    have k1 : ((1048576 - n : Nat) : Int) < 0 ↔ False := by simp
    go_wp2_with fail
    refine (SZ.out a1 m c1 (1048576 - n) (by omega) hm w).mono ?_
    rintro e w' ⟨rfl, rfl⟩
    rw [if_pos hm1]
    go_wp2
    go_ret
    exact ⟨rfl, Below.refl _ _⟩
  have hn2 : n ≤ 1048576 := by omega
  have hm2 : m ≤ 1048576 := by omega
  have HN := Lib.hid hn2
  have HM := Lib.hid hm2
  have HN1 := Lib.hid hn1
  have HM1 := Lib.hid hm1
  have NL := Lib.hid hn
  have ML := Lib.hid hm
  have R0 := Lib.hid h0
  have R1 := Lib.hid h1
  have TO := Lib.hid toBS_any
  have EQ := Lib.hid eqBS_any
  have SP := Lib.hid sSame_any
  have IM := Lib.hid iSame_any
  clear hn2 hm2 hn1 hm1 hn hm h0 h1
  generalize samePic f g n m = r at SP IM
  go_enter Try.func8, Try.ntmps8
  go_wp2_with fail
  refine (SZ.out a0 n c0 1048576 (Nat.le_refl _) NL.out w).mono ?_
  rintro e w' ⟨rfl, rfl⟩
  rw [if_neg HN1.out]
  have k1 : ((1048576 - n : Nat) : Int) < 0 ↔ False := by simp
  go_wp2_with fail
  refine (SZ.out a1 m c1 (1048576 - n) (by omega) ML.out w).mono ?_
  rintro e w2x ⟨rfl, rfl⟩
  rw [if_neg HM1.out]
  have k2 : ((1048576 - n - m : Nat) : Int) < 0 ↔ False := by simp
  go_wp2_with fail
  refine (TO.out a0 c0 n f w.heap.size w (Nat.le_refl _) R0.out HN.out).mono ?_
  rintro e w1 ⟨rfl, q, b, s⟩
  have Z1 : Hid (w.heap.size ≤ w1.heap.size) := Lib.hid b.size
  have BB1 : Hid (Below w.heap.size w w1) := Lib.hid b
  have A1 : Hid (BlR w1.heap.size w1 a0 n f) := Lib.hid (((R0.out).below b (by first | exact Nat.le_refl _)).mono' b.size)
  have B1 : Hid (BlR w1.heap.size w1 a1 m g) := Lib.hid (((R1.out).below b (by first | exact Nat.le_refl _)).mono' b.size)
  have S1 : Hid (BlR w1.heap.size w1 (some ⟨w.heap.size, 0, none⟩) n f) := Lib.hid (q.mono' s)
  clear q b s
  go_wp2_with fail
  refine (TO.out a1 c1 m g w1.heap.size w1 (Nat.le_refl _) B1.out HM.out).mono ?_
  rintro e w2 ⟨rfl, q, b, s⟩
  have Z2 : Hid (w.heap.size ≤ w2.heap.size) := Lib.hid (Nat.le_trans Z1.out b.size)
  have BB2 : Hid (Below w.heap.size w w2) := Lib.hid (BB1.out.trans (b.mono Z1.out))
  have A2 : Hid (BlR w2.heap.size w2 a0 n f) := Lib.hid (((A1.out).below b (by first | exact Nat.le_refl _)).mono' b.size)
  have B2 : Hid (BlR w2.heap.size w2 a1 m g) := Lib.hid (((B1.out).below b (by first | exact Nat.le_refl _)).mono' b.size)
  have S2 : Hid (BlR w2.heap.size w2 (some ⟨w.heap.size, 0, none⟩) n f) := Lib.hid (((S1.out).below b (by first | exact Nat.le_refl _)).mono' b.size)
  have T2 : Hid (BlR w2.heap.size w2 (some ⟨w1.heap.size, 0, none⟩) m g) := Lib.hid (q.mono' s)
  clear q b s
  go_wp2_with fail
  refine (SP.out (some ⟨w.heap.size, 0, none⟩) (some ⟨w1.heap.size, 0, none⟩) n m n m f g w2.heap.size w2 (Nat.le_refl _) HN.out HM.out S2.out T2.out).mono ?_
  rintro e w3 ⟨rfl, b⟩
  have Z3 : Hid (w.heap.size ≤ w3.heap.size) := Lib.hid (Nat.le_trans Z2.out b.size)
  have BB3 : Hid (Below w.heap.size w w3) := Lib.hid (BB2.out.trans (b.mono Z2.out))
  have A3 : Hid (BlR w3.heap.size w3 a0 n f) := Lib.hid (((A2.out).below b (by first | exact Nat.le_refl _)).mono' b.size)
  have B3 : Hid (BlR w3.heap.size w3 a1 m g) := Lib.hid (((B2.out).below b (by first | exact Nat.le_refl _)).mono' b.size)
  have S3 : Hid (BlR w3.heap.size w3 (some ⟨w.heap.size, 0, none⟩) n f) := Lib.hid (((S2.out).below b (by first | exact Nat.le_refl _)).mono' b.size)
  have T3 : Hid (BlR w3.heap.size w3 (some ⟨w1.heap.size, 0, none⟩) m g) := Lib.hid (((T2.out).below b (by first | exact Nat.le_refl _)).mono' b.size)
  clear b
  go_wp2_with fail
  refine (TO.out a0 c0 n f w3.heap.size w3 (Nat.le_refl _) A3.out HN.out).mono ?_
  rintro e w4 ⟨rfl, q, b, s⟩
  have Z4 : Hid (w.heap.size ≤ w4.heap.size) := Lib.hid (Nat.le_trans Z3.out b.size)
  have BB4 : Hid (Below w.heap.size w w4) := Lib.hid (BB3.out.trans (b.mono Z3.out))
  have A4 : Hid (BlR w4.heap.size w4 a0 n f) := Lib.hid (((A3.out).below b (by first | exact Nat.le_refl _)).mono' b.size)
  have B4 : Hid (BlR w4.heap.size w4 a1 m g) := Lib.hid (((B3.out).below b (by first | exact Nat.le_refl _)).mono' b.size)
  have X4 : Hid (BlR w4.heap.size w4 (some ⟨w3.heap.size, 0, none⟩) n f) := Lib.hid (q.mono' s)
  clear q b s
  go_wp2_with fail
  refine (TO.out a1 c1 m g w4.heap.size w4 (Nat.le_refl _) B4.out HM.out).mono ?_
  rintro e w5 ⟨rfl, q, b, s⟩
  have Z5 : Hid (w.heap.size ≤ w5.heap.size) := Lib.hid (Nat.le_trans Z4.out b.size)
  have BB5 : Hid (Below w.heap.size w w5) := Lib.hid (BB4.out.trans (b.mono Z4.out))
  have A5 : Hid (BlR w5.heap.size w5 a0 n f) := Lib.hid (((A4.out).below b (by first | exact Nat.le_refl _)).mono' b.size)
  have B5 : Hid (BlR w5.heap.size w5 a1 m g) := Lib.hid (((B4.out).below b (by first | exact Nat.le_refl _)).mono' b.size)
  have X5 : Hid (BlR w5.heap.size w5 (some ⟨w3.heap.size, 0, none⟩) n f) := Lib.hid (((X4.out).below b (by first | exact Nat.le_refl _)).mono' b.size)
  have Y5 : Hid (BlR w5.heap.size w5 (some ⟨w4.heap.size, 0, none⟩) m g) := Lib.hid (q.mono' s)
  clear q b s
  go_wp2_with fail
  refine (IM.out (some ⟨w3.heap.size, 0, none⟩) (some ⟨w4.heap.size, 0, none⟩) n m n m f g w5.heap.size w5 (Nat.le_refl _) HN.out HM.out X5.out Y5.out).mono ?_
  rintro e w6 ⟨rfl, b⟩
  have Z6 : Hid (w.heap.size ≤ w6.heap.size) := Lib.hid (Nat.le_trans Z5.out b.size)
  have BB6 : Hid (Below w.heap.size w w6) := Lib.hid (BB5.out.trans (b.mono Z5.out))
  have A6 : Hid (BlR w6.heap.size w6 a0 n f) := Lib.hid (((A5.out).below b (by first | exact Nat.le_refl _)).mono' b.size)
  have B6 : Hid (BlR w6.heap.size w6 a1 m g) := Lib.hid (((B5.out).below b (by first | exact Nat.le_refl _)).mono' b.size)
  have X6 : Hid (BlR w6.heap.size w6 (some ⟨w3.heap.size, 0, none⟩) n f) := Lib.hid (((X5.out).below b (by first | exact Nat.le_refl _)).mono' b.size)
  have Y6 : Hid (BlR w6.heap.size w6 (some ⟨w4.heap.size, 0, none⟩) m g) := Lib.hid (((Y5.out).below b (by first | exact Nat.le_refl _)).mono' b.size)
  clear b
  go_wp2_with fail
  refine (TO.out a0 c0 n f w6.heap.size w6 (Nat.le_refl _) A6.out HN.out).mono ?_
  rintro e w7 ⟨rfl, q, b, s⟩
  have Z7 : Hid (w.heap.size ≤ w7.heap.size) := Lib.hid (Nat.le_trans Z6.out b.size)
  have BB7 : Hid (Below w.heap.size w w7) := Lib.hid (BB6.out.trans (b.mono Z6.out))
  have A7 : Hid (BlR w7.heap.size w7 a0 n f) := Lib.hid (((A6.out).below b (by first | exact Nat.le_refl _)).mono' b.size)
  have B7 : Hid (BlR w7.heap.size w7 a1 m g) := Lib.hid (((B6.out).below b (by first | exact Nat.le_refl _)).mono' b.size)
  have X7 : Hid (BlR w7.heap.size w7 (some ⟨w3.heap.size, 0, none⟩) n f) := Lib.hid (((X6.out).below b (by first | exact Nat.le_refl _)).mono' b.size)
  have Y7 : Hid (BlR w7.heap.size w7 (some ⟨w4.heap.size, 0, none⟩) m g) := Lib.hid (((Y6.out).below b (by first | exact Nat.le_refl _)).mono' b.size)
  have S7 : Hid (BlR w7.heap.size w7 (some ⟨w6.heap.size, 0, none⟩) n f) := Lib.hid (q.mono' s)
  clear q b s
  go_wp2_with fail
  refine (EQ.out (some ⟨w3.heap.size, 0, none⟩) (some ⟨w6.heap.size, 0, none⟩) n n n f w7.heap.size w7 (Nat.le_refl _) HN.out X7.out S7.out).mono ?_
  rintro e w8 ⟨rfl, b⟩
  have Z8 : Hid (w.heap.size ≤ w8.heap.size) := Lib.hid (Nat.le_trans Z7.out b.size)
  have BB8 : Hid (Below w.heap.size w w8) := Lib.hid (BB7.out.trans (b.mono Z7.out))
  have A8 : Hid (BlR w8.heap.size w8 a0 n f) := Lib.hid (((A7.out).below b (by first | exact Nat.le_refl _)).mono' b.size)
  have B8 : Hid (BlR w8.heap.size w8 a1 m g) := Lib.hid (((B7.out).below b (by first | exact Nat.le_refl _)).mono' b.size)
  have X8 : Hid (BlR w8.heap.size w8 (some ⟨w3.heap.size, 0, none⟩) n f) := Lib.hid (((X7.out).below b (by first | exact Nat.le_refl _)).mono' b.size)
  have Y8 : Hid (BlR w8.heap.size w8 (some ⟨w4.heap.size, 0, none⟩) m g) := Lib.hid (((Y7.out).below b (by first | exact Nat.le_refl _)).mono' b.size)
  have S8 : Hid (BlR w8.heap.size w8 (some ⟨w6.heap.size, 0, none⟩) n f) := Lib.hid (((S7.out).below b (by first | exact Nat.le_refl _)).mono' b.size)
  clear b
  go_wp2_with fail
  refine (TO.out a1 c1 m g w8.heap.size w8 (Nat.le_refl _) B8.out HM.out).mono ?_
  rintro e w9 ⟨rfl, q, b, s⟩
  have Z9 : Hid (w.heap.size ≤ w9.heap.size) := Lib.hid (Nat.le_trans Z8.out b.size)
  have BB9 : Hid (Below w.heap.size w w9) := Lib.hid (BB8.out.trans (b.mono Z8.out))
  have A9 : Hid (BlR w9.heap.size w9 a0 n f) := Lib.hid (((A8.out).below b (by first | exact Nat.le_refl _)).mono' b.size)
  have B9 : Hid (BlR w9.heap.size w9 a1 m g) := Lib.hid (((B8.out).below b (by first | exact Nat.le_refl _)).mono' b.size)
  have Y9 : Hid (BlR w9.heap.size w9 (some ⟨w4.heap.size, 0, none⟩) m g) := Lib.hid (((Y8.out).below b (by first | exact Nat.le_refl _)).mono' b.size)
  have S9 : Hid (BlR w9.heap.size w9 (some ⟨w8.heap.size, 0, none⟩) m g) := Lib.hid (q.mono' s)
  clear q b s
  go_wp2_with fail
  refine (EQ.out (some ⟨w4.heap.size, 0, none⟩) (some ⟨w8.heap.size, 0, none⟩) m m m g w9.heap.size w9 (Nat.le_refl _) HM.out Y9.out S9.out).mono ?_
  rintro e w10 ⟨rfl, b⟩
  have Z10 : Hid (w.heap.size ≤ w10.heap.size) := Lib.hid (Nat.le_trans Z9.out b.size)
  have BB10 : Hid (Below w.heap.size w w10) := Lib.hid (BB9.out.trans (b.mono Z9.out))
  have A10 : Hid (BlR w10.heap.size w10 a0 n f) := Lib.hid (((A9.out).below b (by first | exact Nat.le_refl _)).mono' b.size)
  have B10 : Hid (BlR w10.heap.size w10 a1 m g) := Lib.hid (((B9.out).below b (by first | exact Nat.le_refl _)).mono' b.size)
  have Y10 : Hid (BlR w10.heap.size w10 (some ⟨w4.heap.size, 0, none⟩) m g) := Lib.hid (((Y9.out).below b (by first | exact Nat.le_refl _)).mono' b.size)
  have S10 : Hid (BlR w10.heap.size w10 (some ⟨w8.heap.size, 0, none⟩) m g) := Lib.hid (((S9.out).below b (by first | exact Nat.le_refl _)).mono' b.size)
  clear b
  go_wp2
  go_ret
  exact ⟨rfl, BB10.out⟩
end Go.Proofs.Ytmanikfnigpjgaa
