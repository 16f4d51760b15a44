/-
  THE WALK of the law, whole.
-/
import Derived.Test.YthfmkejdpflpcaaNd
import Derived.Test.YthfmkejdpflpcaaJv
import Derived.Test.YthfmkejdpflpcaaBa
import Derived.Test.YthfmkejdpflpcaaTq
namespace Go.Proofs.Ythfmkejdpflpcaa
open Go.ChangeShapes Go.WideShapes Go.ChangeAt Go.RowKit
theorem BlR.mono' {B B' : Nat} {w : World} {a : Option Addr} {n : Nat} {f : Nat → Int} (h : BlR B w a n f) (hB : B ≤ B') : BlR B' w a n f := by
  rcases h with h | ⟨g, off, ha, hg, hc⟩
  · exact .inl h
  · exact .inr ⟨g, off, ha, by omega, hc⟩
theorem szB_any (a : Option Addr) (n cap left : Nat) (hl : left ≤ 1048576) (hn : n ≤ maxLen) (w : World) :
    Calls Try.prog 23 #[.slice a n cap, .int .i64 (left : Int)] w fun e w' => e = .returned (.int .i64 (if left < n then (-1 : Int) else ((left - n : Nat) : Int))) ∧ w = w' := by
  have hm : maxLen = 4611686018427387904 ∨ True := .inr trivial
  unfold maxLen at hn
  by_cases h : left < n
  · rw [if_pos h]
    have h1 : ((left : Int) - (n : Int) < 0) := by omega
    go_enter Try.func23, Try.ntmps23
    go_wp2
    go_ret
    exact ⟨rfl, rfl⟩
  · rw [if_neg h]
    have h1 : (0 : Int) ≤ (left : Int) - (n : Int) := by omega
    have h2 : ((left - n : Nat) : Int) = (left : Int) - (n : Int) := by omega
    rw [h2]
    go_enter Try.func23, Try.ntmps23
    go_wp2
    go_ret
    exact ⟨rfl, rfl⟩
theorem fq_one (f : Nat → Int) (n : Nat) : ∃ A : List (Int × Int), ∀ L, (fqC f n = 0 → IsC f n L) → ∀ m k, fqV (fqC f n) m L k = fqV (fqC f n) m A k := by
  by_cases hc : fqC f n = 0
  · by_cases h : ∃ L, IsC f n L
    · obtain ⟨A, hA⟩ := h
      exact ⟨A, fun L h1 m k => by rw [(h1 hc).uniq hA]⟩
    · exact ⟨[], fun L h1 => absurd ⟨L, h1 hc⟩ h⟩
  · exact ⟨[], fun L _ m k => by unfold fqV; rw [if_neg hc, if_neg hc]⟩
theorem row_lt {w : World} {g : Nat} {o : Obj} (h : w.heap[g]? = some o) : g < w.heap.size := (Array.getElem?_eq_some_iff.1 h).1
set_option maxRecDepth 20000 in
set_option maxHeartbeats 4000000 in
theorem fnExactFrameOf_walk (n : Nat) (f : Nat → Int) (hn : n ≤ maxLen) (hf : BlF n f) (a0 : Option Addr) (c0 : Nat) (w : World) (h0 : BlR w.heap.size w a0 n f) :
    Calls Try.prog 10 #[.slice a0 n c0] w fun e w' => e = .returned (.bool true) ∧ Below w.heap.size w w' := by
  have SZ := Lib.hid szB_any
  by_cases hn1 : 1048576 < n
  · go_enter Try.func10, Try.ntmps10
    go_wp2_with fail
    refine (SZ.out a0 n c0 1048576 (Nat.le_refl _) hn w).mono ?_
    rintro e w' ⟨rfl, rfl⟩
    rw [if_pos hn1]
    go_wp2
    go_ret
    exact ⟨rfl, Below.refl _ _⟩
  have hn2 : n ≤ 1048576 := by omega
  have HN := Lib.hid hn2
  have HN1 := Lib.hid hn1
  have NL := Lib.hid hn
  have HF := Lib.hid hf
  have R0 := Lib.hid h0
  have TO := Lib.hid toBS_any
  have EQ := Lib.hid eqBS_any
  have EC := Lib.hid eqCo_same
  obtain ⟨A, hA⟩ := fq_one f n
  have SP : Hid (∀ (a : Option Addr) (cap : Nat) (w : World), BlR w.heap.size w a n f → Calls Try.prog 38 #[.slice a n cap] w fun e w' => e = .returned (.tuple #[.agg #[.int .i32 (fqV (fqC f n) mnF A 0), .int .i32 (fqV (fqC f n) mnF A 1)], .agg #[.int .i32 (fqV (fqC f n) mxF A 0), .int .i32 (fqV (fqC f n) mxF A 1)], .int .i64 (fqC f n)]) ∧ Below w.heap.size w w') := Lib.hid fun a cap w h => (sFrame_any a n cap f w hn2 h hf).mono fun e w' ⟨L, he, hL, hb⟩ => ⟨by rw [he, hA L hL, hA L hL, hA L hL, hA L hL], hb⟩
  have IM : Hid (∀ (a : Option Addr) (cap : Nat) (w : World), BlR w.heap.size w a n f → Calls Try.prog 39 #[.slice a n cap] w fun e w' => e = .returned (.tuple #[.agg #[.int .i32 (fqV (fqC f n) mnF A 0), .int .i32 (fqV (fqC f n) mnF A 1)], .agg #[.int .i32 (fqV (fqC f n) mxF A 0), .int .i32 (fqV (fqC f n) mxF A 1)], .int .i64 (fqC f n)]) ∧ Below w.heap.size w w') := Lib.hid fun a cap w h => (iFrame_any sortsP a n cap f w hn2 h hf).mono fun e w' ⟨L, he, hL, hb⟩ => ⟨by rw [he, hA L hL, hA L hL, hA L hL, hA L hL], hb⟩
  clear hn2 hn1 hn h0 hf hA
  generalize fqV (fqC f n) mnF A 0 = r0 at SP IM
  generalize fqV (fqC f n) mnF A 1 = r1 at SP IM
  generalize fqV (fqC f n) mxF A 0 = r2 at SP IM
  generalize fqV (fqC f n) mxF A 1 = r3 at SP IM
  generalize fqC f n = r4 at SP IM
  go_enter Try.func10, Try.ntmps10
  go_wp2_with fail
  refine (SZ.out a0 n c0 1048576 (Nat.le_refl _) NL.out w).mono ?_
  rintro e w' ⟨rfl, rfl⟩
  rw [if_neg HN1.out]
  have k1 : ((1048576 - n : Nat) : Int) < 0 ↔ False := by simp
  go_wp2_with fail
  refine (TO.out a0 c0 n f w.heap.size w (Nat.le_refl _) R0.out HN.out).mono ?_
  rintro e w1 ⟨rfl, q, b, s⟩
  have Z1 : Hid (w.heap.size ≤ w1.heap.size) := Lib.hid b.size
  have BB1 : Hid (Below w.heap.size w w1) := Lib.hid b
  have A1 : Hid (BlR w1.heap.size w1 a0 n f) := Lib.hid (((R0.out).below b (Nat.le_refl _)).mono' b.size)
  have S1 : Hid (BlR w1.heap.size w1 (some ⟨w.heap.size, 0, none⟩) n f) := Lib.hid (q.mono' s)
  clear q b s
  go_wp2_with fail
  refine (SP.out (some ⟨w.heap.size, 0, none⟩) n w1 S1.out).mono ?_
  rintro e w2 ⟨rfl, b⟩
  have Z2 : Hid (w.heap.size ≤ w2.heap.size) := Lib.hid (Nat.le_trans Z1.out b.size)
  have BB2 : Hid (Below w.heap.size w w2) := Lib.hid (BB1.out.trans (b.mono Z1.out))
  have A2 : Hid (BlR w2.heap.size w2 a0 n f) := Lib.hid (((A1.out).below b (Nat.le_refl _)).mono' b.size)
  have S2 : Hid (BlR w2.heap.size w2 (some ⟨w.heap.size, 0, none⟩) n f) := Lib.hid (((S1.out).below b (Nat.le_refl _)).mono' b.size)
  clear b
  obtain ⟨w3, hww3⟩ : ∃ x, (w2.alloc (.cells #[.int .i32 r0, .int .i32 r1] CO)).alloc (.cells #[.int .i32 r2, .int .i32 r3] CO) = x := ⟨_, rfl⟩
  have ta := two_allocs w2 (.cells #[.int .i32 r0, .int .i32 r1] CO) (.cells #[.int .i32 r2, .int .i32 r3] CO)
  rw [hww3] at ta
  have b := ta.2.2.1
  have Z3 : Hid (w.heap.size ≤ w3.heap.size) := Lib.hid (Nat.le_trans Z2.out b.size)
  have BB3 : Hid (Below w.heap.size w w3) := Lib.hid (BB2.out.trans (b.mono Z2.out))
  have A3 : Hid (BlR w3.heap.size w3 a0 n f) := Lib.hid (((A2.out).below b (Nat.le_refl _)).mono' b.size)
  have sl3 : Hid (w3.heap[w2.heap.size]? = some (.cells #[.int .i32 r0, .int .i32 r1] CO (0, 0))) := Lib.hid ta.1
  have sh3 : Hid (w3.heap[w2.heap.size + 1]? = some (.cells #[.int .i32 r2, .int .i32 r3] CO (0, 0))) := Lib.hid ta.2.1
  clear ta b
  go_wp2_with fail
  refine (TO.out a0 c0 n f w3.heap.size w3 (Nat.le_refl _) A3.out HN.out).mono ?_
  rintro e w4 ⟨rfl, q, b, s⟩
  have Z4 : Hid (w.heap.size ≤ w4.heap.size) := Lib.hid (Nat.le_trans Z3.out b.size)
  have BB4 : Hid (Below w.heap.size w w4) := Lib.hid (BB3.out.trans (b.mono Z3.out))
  have A4 : Hid (BlR w4.heap.size w4 a0 n f) := Lib.hid (((A3.out).below b (Nat.le_refl _)).mono' b.size)
  have sl4 : Hid (w4.heap[w2.heap.size]? = some (.cells #[.int .i32 r0, .int .i32 r1] CO (0, 0))) := Lib.hid ((b.block _ (row_lt sl3.out)).trans sl3.out)
  have sh4 : Hid (w4.heap[(w2.heap.size + 1)]? = some (.cells #[.int .i32 r2, .int .i32 r3] CO (0, 0))) := Lib.hid ((b.block _ (row_lt sh3.out)).trans sh3.out)
  have X4 : Hid (BlR w4.heap.size w4 (some ⟨w3.heap.size, 0, none⟩) n f) := Lib.hid (q.mono' s)
  clear q b s
  go_wp2_with fail
  refine (IM.out (some ⟨w3.heap.size, 0, none⟩) n w4 X4.out).mono ?_
  rintro e w5 ⟨rfl, b⟩
  have Z5 : Hid (w.heap.size ≤ w5.heap.size) := Lib.hid (Nat.le_trans Z4.out b.size)
  have BB5 : Hid (Below w.heap.size w w5) := Lib.hid (BB4.out.trans (b.mono Z4.out))
  have A5 : Hid (BlR w5.heap.size w5 a0 n f) := Lib.hid (((A4.out).below b (Nat.le_refl _)).mono' b.size)
  have X5 : Hid (BlR w5.heap.size w5 (some ⟨w3.heap.size, 0, none⟩) n f) := Lib.hid (((X4.out).below b (Nat.le_refl _)).mono' b.size)
  have sl5 : Hid (w5.heap[w2.heap.size]? = some (.cells #[.int .i32 r0, .int .i32 r1] CO (0, 0))) := Lib.hid ((b.block _ (row_lt sl4.out)).trans sl4.out)
  have sh5 : Hid (w5.heap[(w2.heap.size + 1)]? = some (.cells #[.int .i32 r2, .int .i32 r3] CO (0, 0))) := Lib.hid ((b.block _ (row_lt sh4.out)).trans sh4.out)
  clear b
  obtain ⟨w6, hww6⟩ : ∃ x, (w5.alloc (.cells #[.int .i32 r0, .int .i32 r1] CO)).alloc (.cells #[.int .i32 r2, .int .i32 r3] CO) = x := ⟨_, rfl⟩
  have ta := two_allocs w5 (.cells #[.int .i32 r0, .int .i32 r1] CO) (.cells #[.int .i32 r2, .int .i32 r3] CO)
  rw [hww6] at ta
  have b := ta.2.2.1
  have Z6 : Hid (w.heap.size ≤ w6.heap.size) := Lib.hid (Nat.le_trans Z5.out b.size)
  have BB6 : Hid (Below w.heap.size w w6) := Lib.hid (BB5.out.trans (b.mono Z5.out))
  have A6 : Hid (BlR w6.heap.size w6 a0 n f) := Lib.hid (((A5.out).below b (Nat.le_refl _)).mono' b.size)
  have X6 : Hid (BlR w6.heap.size w6 (some ⟨w3.heap.size, 0, none⟩) n f) := Lib.hid (((X5.out).below b (Nat.le_refl _)).mono' b.size)
  have sl6 : Hid (w6.heap[w2.heap.size]? = some (.cells #[.int .i32 r0, .int .i32 r1] CO (0, 0))) := Lib.hid ((b.block _ (row_lt sl5.out)).trans sl5.out)
  have sh6 : Hid (w6.heap[(w2.heap.size + 1)]? = some (.cells #[.int .i32 r2, .int .i32 r3] CO (0, 0))) := Lib.hid ((b.block _ (row_lt sh5.out)).trans sh5.out)
  have il6 : Hid (w6.heap[w5.heap.size]? = some (.cells #[.int .i32 r0, .int .i32 r1] CO (0, 0))) := Lib.hid ta.1
  have ih6 : Hid (w6.heap[w5.heap.size + 1]? = some (.cells #[.int .i32 r2, .int .i32 r3] CO (0, 0))) := Lib.hid ta.2.1
  clear ta b
  have csl0w6 : w6.cell? ⟨w2.heap.size, 0, none⟩ = some (.int .i32 r0) := Lib.cell_of_heap sl6.out 0
  have csl1w6 : w6.cell? ⟨w2.heap.size, 1, none⟩ = some (.int .i32 r1) := Lib.cell_of_heap sl6.out 1
  have csh0w6 : w6.cell? ⟨(w2.heap.size + 1), 0, none⟩ = some (.int .i32 r2) := Lib.cell_of_heap sh6.out 0
  have csh1w6 : w6.cell? ⟨(w2.heap.size + 1), 1, none⟩ = some (.int .i32 r3) := Lib.cell_of_heap sh6.out 1
  have cil0w6 : w6.cell? ⟨w5.heap.size, 0, none⟩ = some (.int .i32 r0) := Lib.cell_of_heap il6.out 0
  have cil1w6 : w6.cell? ⟨w5.heap.size, 1, none⟩ = some (.int .i32 r1) := Lib.cell_of_heap il6.out 1
  have cih0w6 : w6.cell? ⟨(w5.heap.size + 1), 0, none⟩ = some (.int .i32 r2) := Lib.cell_of_heap ih6.out 0
  have cih1w6 : w6.cell? ⟨(w5.heap.size + 1), 1, none⟩ = some (.int .i32 r3) := Lib.cell_of_heap ih6.out 1
  go_wp2_with fail
  refine (EC.out r0 r1 _).mono ?_
  rintro e w7 ⟨rfl, b⟩
  have Z7 : Hid (w.heap.size ≤ w7.heap.size) := Lib.hid (Nat.le_trans Z6.out b.size)
  have BB7 : Hid (Below w.heap.size w w7) := Lib.hid (BB6.out.trans (b.mono Z6.out))
  have A7 : Hid (BlR w7.heap.size w7 a0 n f) := Lib.hid (((A6.out).below b (Nat.le_refl _)).mono' b.size)
  have X7 : Hid (BlR w7.heap.size w7 (some ⟨w3.heap.size, 0, none⟩) n f) := Lib.hid (((X6.out).below b (Nat.le_refl _)).mono' b.size)
  have sl7 : Hid (w7.heap[w2.heap.size]? = some (.cells #[.int .i32 r0, .int .i32 r1] CO (0, 0))) := Lib.hid ((b.block _ (row_lt sl6.out)).trans sl6.out)
  have sh7 : Hid (w7.heap[(w2.heap.size + 1)]? = some (.cells #[.int .i32 r2, .int .i32 r3] CO (0, 0))) := Lib.hid ((b.block _ (row_lt sh6.out)).trans sh6.out)
  have il7 : Hid (w7.heap[w5.heap.size]? = some (.cells #[.int .i32 r0, .int .i32 r1] CO (0, 0))) := Lib.hid ((b.block _ (row_lt il6.out)).trans il6.out)
  have ih7 : Hid (w7.heap[(w5.heap.size + 1)]? = some (.cells #[.int .i32 r2, .int .i32 r3] CO (0, 0))) := Lib.hid ((b.block _ (row_lt ih6.out)).trans ih6.out)
  clear b
  have csl0w7 : w7.cell? ⟨w2.heap.size, 0, none⟩ = some (.int .i32 r0) := Lib.cell_of_heap sl7.out 0
  have csl1w7 : w7.cell? ⟨w2.heap.size, 1, none⟩ = some (.int .i32 r1) := Lib.cell_of_heap sl7.out 1
  have csh0w7 : w7.cell? ⟨(w2.heap.size + 1), 0, none⟩ = some (.int .i32 r2) := Lib.cell_of_heap sh7.out 0
  have csh1w7 : w7.cell? ⟨(w2.heap.size + 1), 1, none⟩ = some (.int .i32 r3) := Lib.cell_of_heap sh7.out 1
  have cil0w7 : w7.cell? ⟨w5.heap.size, 0, none⟩ = some (.int .i32 r0) := Lib.cell_of_heap il7.out 0
  have cil1w7 : w7.cell? ⟨w5.heap.size, 1, none⟩ = some (.int .i32 r1) := Lib.cell_of_heap il7.out 1
  have cih0w7 : w7.cell? ⟨(w5.heap.size + 1), 0, none⟩ = some (.int .i32 r2) := Lib.cell_of_heap ih7.out 0
  have cih1w7 : w7.cell? ⟨(w5.heap.size + 1), 1, none⟩ = some (.int .i32 r3) := Lib.cell_of_heap ih7.out 1
  go_wp2_with fail
  refine (EC.out r2 r3 _).mono ?_
  rintro e w8 ⟨rfl, b⟩
  have Z8 : Hid (w.heap.size ≤ w8.heap.size) := Lib.hid (Nat.le_trans Z7.out b.size)
  have BB8 : Hid (Below w.heap.size w w8) := Lib.hid (BB7.out.trans (b.mono Z7.out))
  have A8 : Hid (BlR w8.heap.size w8 a0 n f) := Lib.hid (((A7.out).below b (Nat.le_refl _)).mono' b.size)
  have X8 : Hid (BlR w8.heap.size w8 (some ⟨w3.heap.size, 0, none⟩) n f) := Lib.hid (((X7.out).below b (Nat.le_refl _)).mono' b.size)
  have sl8 : Hid (w8.heap[w2.heap.size]? = some (.cells #[.int .i32 r0, .int .i32 r1] CO (0, 0))) := Lib.hid ((b.block _ (row_lt sl7.out)).trans sl7.out)
  have sh8 : Hid (w8.heap[(w2.heap.size + 1)]? = some (.cells #[.int .i32 r2, .int .i32 r3] CO (0, 0))) := Lib.hid ((b.block _ (row_lt sh7.out)).trans sh7.out)
  have il8 : Hid (w8.heap[w5.heap.size]? = some (.cells #[.int .i32 r0, .int .i32 r1] CO (0, 0))) := Lib.hid ((b.block _ (row_lt il7.out)).trans il7.out)
  have ih8 : Hid (w8.heap[(w5.heap.size + 1)]? = some (.cells #[.int .i32 r2, .int .i32 r3] CO (0, 0))) := Lib.hid ((b.block _ (row_lt ih7.out)).trans ih7.out)
  clear b
  go_wp2_with fail
  refine (TO.out a0 c0 n f w8.heap.size w8 (Nat.le_refl _) A8.out HN.out).mono ?_
  rintro e w9 ⟨rfl, q, b, s⟩
  have Z9 : Hid (w.heap.size ≤ w9.heap.size) := Lib.hid (Nat.le_trans Z8.out b.size)
  have BB9 : Hid (Below w.heap.size w w9) := Lib.hid (BB8.out.trans (b.mono Z8.out))
  have A9 : Hid (BlR w9.heap.size w9 a0 n f) := Lib.hid (((A8.out).below b (Nat.le_refl _)).mono' b.size)
  have X9 : Hid (BlR w9.heap.size w9 (some ⟨w3.heap.size, 0, none⟩) n f) := Lib.hid (((X8.out).below b (Nat.le_refl _)).mono' b.size)
  have sl9 : Hid (w9.heap[w2.heap.size]? = some (.cells #[.int .i32 r0, .int .i32 r1] CO (0, 0))) := Lib.hid ((b.block _ (row_lt sl8.out)).trans sl8.out)
  have sh9 : Hid (w9.heap[(w2.heap.size + 1)]? = some (.cells #[.int .i32 r2, .int .i32 r3] CO (0, 0))) := Lib.hid ((b.block _ (row_lt sh8.out)).trans sh8.out)
  have il9 : Hid (w9.heap[w5.heap.size]? = some (.cells #[.int .i32 r0, .int .i32 r1] CO (0, 0))) := Lib.hid ((b.block _ (row_lt il8.out)).trans il8.out)
  have ih9 : Hid (w9.heap[(w5.heap.size + 1)]? = some (.cells #[.int .i32 r2, .int .i32 r3] CO (0, 0))) := Lib.hid ((b.block _ (row_lt ih8.out)).trans ih8.out)
  have S9 : Hid (BlR w9.heap.size w9 (some ⟨w8.heap.size, 0, none⟩) n f) := Lib.hid (q.mono' s)
  clear q b s
  go_wp2_with fail
  refine (EQ.out (some ⟨w3.heap.size, 0, none⟩) (some ⟨w8.heap.size, 0, none⟩) n n n f w9.heap.size w9 (Nat.le_refl _) HN.out X9.out S9.out).mono ?_
  rintro e w10 ⟨rfl, b⟩
  have Z10 : Hid (w.heap.size ≤ w10.heap.size) := Lib.hid (Nat.le_trans Z9.out b.size)
  have BB10 : Hid (Below w.heap.size w w10) := Lib.hid (BB9.out.trans (b.mono Z9.out))
  have A10 : Hid (BlR w10.heap.size w10 a0 n f) := Lib.hid (((A9.out).below b (Nat.le_refl _)).mono' b.size)
  have X10 : Hid (BlR w10.heap.size w10 (some ⟨w3.heap.size, 0, none⟩) n f) := Lib.hid (((X9.out).below b (Nat.le_refl _)).mono' b.size)
  have S10 : Hid (BlR w10.heap.size w10 (some ⟨w8.heap.size, 0, none⟩) n f) := Lib.hid (((S9.out).below b (Nat.le_refl _)).mono' b.size)
  have sl10 : Hid (w10.heap[w2.heap.size]? = some (.cells #[.int .i32 r0, .int .i32 r1] CO (0, 0))) := Lib.hid ((b.block _ (row_lt sl9.out)).trans sl9.out)
  have sh10 : Hid (w10.heap[(w2.heap.size + 1)]? = some (.cells #[.int .i32 r2, .int .i32 r3] CO (0, 0))) := Lib.hid ((b.block _ (row_lt sh9.out)).trans sh9.out)
  have il10 : Hid (w10.heap[w5.heap.size]? = some (.cells #[.int .i32 r0, .int .i32 r1] CO (0, 0))) := Lib.hid ((b.block _ (row_lt il9.out)).trans il9.out)
  have ih10 : Hid (w10.heap[(w5.heap.size + 1)]? = some (.cells #[.int .i32 r2, .int .i32 r3] CO (0, 0))) := Lib.hid ((b.block _ (row_lt ih9.out)).trans ih9.out)
  clear b
  go_wp2
  go_ret
  exact ⟨rfl, BB10.out⟩
end Go.Proofs.Ythfmkejdpflpcaa
