/-
  THE WALK of the law, whole.
-/
import Derived.Test.YthfmkejdpflpcaaJg
import Derived.Test.YthfmkejdpflpcaaTq
namespace Go.Proofs.Ythfmkejdpflpcaa
open Go.ChangeShapes Go.WideShapes Go.ChangeAt Go.RowKit
theorem BlR.mono' {B B' : Nat} {w : World} {a : Option Addr} {n : Nat} {f : Nat → Int} (h : BlR B w a n f) (hB : B ≤ B') : BlR B' w a n f := by
  rcases h with h | ⟨g, off, ha, hg, hc⟩
  · exact .inl h
  · exact .inr ⟨g, off, ha, by omega, hc⟩
theorem szB_any (a : Option Addr) (n cap left : Nat) (hl : left ≤ 1048576) (hn : n ≤ maxLen) (w : World) :
    Calls Try.prog 23 #[.slice a n cap, .int .i64 (left : Int)] w fun e w' => e = .returned (.int .i64 (if left < n then (-1 : Int) else ((left - n : Nat) : Int))) ∧ w = w' := by
  have hm : maxLen = 4611686018427387904 ∨ True := .inr trivial
  unfold maxLen at hn
  by_cases h : left < n
  · rw [if_pos h]
    have h1 : ((left : Int) - (n : Int) < 0) := by omega
    go_enter Try.func23, Try.ntmps23
    go_wp2
    go_ret
    exact ⟨rfl, rfl⟩
  · rw [if_neg h]
    have h1 : (0 : Int) ≤ (left : Int) - (n : Int) := by omega
    have h2 : ((left - n : Nat) : Int) = (left : Int) - (n : Int) := by omega
    rw [h2]
    go_enter Try.func23, Try.ntmps23
    go_wp2
    go_ret
    exact ⟨rfl, rfl⟩
set_option maxRecDepth 20000 in
set_option maxHeartbeats 4000000 in
theorem fnExactCountPicture_walk (n : Nat) (f : Nat → Int) (hn : n ≤ maxLen) (hf : BlF n f) (a0 : Option Addr) (c0 : Nat) (w : World) (h0 : BlR w.heap.size w a0 n f) :
    Calls Try.prog 9 #[.slice a0 n c0] w fun e w' => e = .returned (.bool true) ∧ Below w.heap.size w w' := by
  have SZ := Lib.hid szB_any
  by_cases hn1 : 1048576 < n
  · go_enter Try.func9, Try.ntmps9
    go_wp2_with fail
    refine (SZ.out a0 n c0 1048576 (Nat.le_refl _) hn w).mono ?_
    rintro e w' ⟨rfl, rfl⟩
    rw [if_pos hn1]
    go_wp2
    go_ret
    exact ⟨rfl, Below.refl _ _⟩
  have hn2 : n ≤ 1048576 := by omega
  have HN := Lib.hid hn2
  have HN1 := Lib.hid hn1
  have NL := Lib.hid hn
  have HF := Lib.hid hf
  have R0 := Lib.hid h0
  have TO := Lib.hid toBS_any
  have EQ := Lib.hid eqBS_any
  have SP : Hid (∀ (a : Option Addr) (cap : Nat) (w : World), BlR w.heap.size w a n f → Calls Try.prog 36 #[.slice a n cap] w fun e w' => e = .returned (.tuple #[.int .i64 (cpN f n), .int .i64 (cpC f n)]) ∧ Below w.heap.size w w') := Lib.hid fun a cap w h => sCountPic_any a n cap f w hn2 h hf
  have IM : Hid (∀ (a : Option Addr) (cap : Nat) (w : World), BlR w.heap.size w a n f → Calls Try.prog 37 #[.slice a n cap] w fun e w' => e = .returned (.tuple #[.int .i64 (cpN f n), .int .i64 (cpC f n)]) ∧ Below w.heap.size w w') := Lib.hid fun a cap w h => iCountPic_any a n cap f w hn2 h hf
  clear hn2 hn1 hn h0 hf
  generalize cpN f n = r0 at SP IM
  generalize cpC f n = r1 at SP IM
  go_enter Try.func9, Try.ntmps9
  go_wp2_with fail
  refine (SZ.out a0 n c0 1048576 (Nat.le_refl _) NL.out w).mono ?_
  rintro e w' ⟨rfl, rfl⟩
  rw [if_neg HN1.out]
  have k1 : ((1048576 - n : Nat) : Int) < 0 ↔ False := by simp
  go_wp2_with fail
  refine (TO.out a0 c0 n f w.heap.size w (Nat.le_refl _) R0.out HN.out).mono ?_
  rintro e w1 ⟨rfl, q, b, s⟩
  have Z1 : Hid (w.heap.size ≤ w1.heap.size) := Lib.hid b.size
  have BB1 : Hid (Below w.heap.size w w1) := Lib.hid b
  have A1 : Hid (BlR w1.heap.size w1 a0 n f) := Lib.hid (((R0.out).below b (Nat.le_refl _)).mono' b.size)
  have S1 : Hid (BlR w1.heap.size w1 (some ⟨w.heap.size, 0, none⟩) n f) := Lib.hid (q.mono' s)
  clear q b s
  go_wp2_with fail
  refine (SP.out (some ⟨w.heap.size, 0, none⟩) n w1 S1.out).mono ?_
  rintro e w2 ⟨rfl, b⟩
  have Z2 : Hid (w.heap.size ≤ w2.heap.size) := Lib.hid (Nat.le_trans Z1.out b.size)
  have BB2 : Hid (Below w.heap.size w w2) := Lib.hid (BB1.out.trans (b.mono Z1.out))
  have A2 : Hid (BlR w2.heap.size w2 a0 n f) := Lib.hid (((A1.out).below b (Nat.le_refl _)).mono' b.size)
  have S2 : Hid (BlR w2.heap.size w2 (some ⟨w.heap.size, 0, none⟩) n f) := Lib.hid (((S1.out).below b (Nat.le_refl _)).mono' b.size)
  clear b
  go_wp2_with fail
  refine (TO.out a0 c0 n f w2.heap.size w2 (Nat.le_refl _) A2.out HN.out).mono ?_
  rintro e w3 ⟨rfl, q, b, s⟩
  have Z3 : Hid (w.heap.size ≤ w3.heap.size) := Lib.hid (Nat.le_trans Z2.out b.size)
  have BB3 : Hid (Below w.heap.size w w3) := Lib.hid (BB2.out.trans (b.mono Z2.out))
  have A3 : Hid (BlR w3.heap.size w3 a0 n f) := Lib.hid (((A2.out).below b (Nat.le_refl _)).mono' b.size)
  have X3 : Hid (BlR w3.heap.size w3 (some ⟨w2.heap.size, 0, none⟩) n f) := Lib.hid (q.mono' s)
  clear q b s
  go_wp2_with fail
  refine (IM.out (some ⟨w2.heap.size, 0, none⟩) n w3 X3.out).mono ?_
  rintro e w4 ⟨rfl, b⟩
  have Z4 : Hid (w.heap.size ≤ w4.heap.size) := Lib.hid (Nat.le_trans Z3.out b.size)
  have BB4 : Hid (Below w.heap.size w w4) := Lib.hid (BB3.out.trans (b.mono Z3.out))
  have A4 : Hid (BlR w4.heap.size w4 a0 n f) := Lib.hid (((A3.out).below b (Nat.le_refl _)).mono' b.size)
  have X4 : Hid (BlR w4.heap.size w4 (some ⟨w2.heap.size, 0, none⟩) n f) := Lib.hid (((X3.out).below b (Nat.le_refl _)).mono' b.size)
  clear b
  go_wp2_with fail
  refine (TO.out a0 c0 n f w4.heap.size w4 (Nat.le_refl _) A4.out HN.out).mono ?_
  rintro e w5 ⟨rfl, q, b, s⟩
  have Z5 : Hid (w.heap.size ≤ w5.heap.size) := Lib.hid (Nat.le_trans Z4.out b.size)
  have BB5 : Hid (Below w.heap.size w w5) := Lib.hid (BB4.out.trans (b.mono Z4.out))
  have A5 : Hid (BlR w5.heap.size w5 a0 n f) := Lib.hid (((A4.out).below b (Nat.le_refl _)).mono' b.size)
  have X5 : Hid (BlR w5.heap.size w5 (some ⟨w2.heap.size, 0, none⟩) n f) := Lib.hid (((X4.out).below b (Nat.le_refl _)).mono' b.size)
  have S5 : Hid (BlR w5.heap.size w5 (some ⟨w4.heap.size, 0, none⟩) n f) := Lib.hid (q.mono' s)
  clear q b s
  go_wp2_with fail
  refine (EQ.out (some ⟨w2.heap.size, 0, none⟩) (some ⟨w4.heap.size, 0, none⟩) n n n f w5.heap.size w5 (Nat.le_refl _) HN.out X5.out S5.out).mono ?_
  rintro e w6 ⟨rfl, b⟩
  have Z6 : Hid (w.heap.size ≤ w6.heap.size) := Lib.hid (Nat.le_trans Z5.out b.size)
  have BB6 : Hid (Below w.heap.size w w6) := Lib.hid (BB5.out.trans (b.mono Z5.out))
  have A6 : Hid (BlR w6.heap.size w6 a0 n f) := Lib.hid (((A5.out).below b (Nat.le_refl _)).mono' b.size)
  have X6 : Hid (BlR w6.heap.size w6 (some ⟨w2.heap.size, 0, none⟩) n f) := Lib.hid (((X5.out).below b (Nat.le_refl _)).mono' b.size)
  have S6 : Hid (BlR w6.heap.size w6 (some ⟨w4.heap.size, 0, none⟩) n f) := Lib.hid (((S5.out).below b (Nat.le_refl _)).mono' b.size)
  clear b
  go_wp2
  go_ret
  exact ⟨rfl, BB6.out⟩
end Go.Proofs.Ythfmkejdpflpcaa
