/-
  THE WALK of the law, whole.
-/
import Derived.Test.YthfmkejdpflpcaaPfd
import Derived.Test.YthfmkejdpflpcaaJw
import Derived.Test.YthfmkejdpflpcaaTq
namespace Go.Proofs.Ythfmkejdpflpcaa
open Go.ChangeShapes Go.WideShapes Go.ChangeAt Go.RowKit
theorem BlR.mono' {B B' : Nat} {w : World} {a : Option Addr} {n : Nat} {f : Nat → Int} (h : BlR B w a n f) (hB : B ≤ B') : BlR B' w a n f := by
  rcases h with h | ⟨g, off, ha, hg, hc⟩
  · exact .inl h
  · exact .inr ⟨g, off, ha, by omega, hc⟩
theorem szB_any (a : Option Addr) (n cap left : Nat) (hl : left ≤ 1048576) (hn : n ≤ maxLen) (w : World) :
    Calls Try.prog 23 #[.slice a n cap, .int .i64 (left : Int)] w fun e w' => e = .returned (.int .i64 (if left < n then (-1 : Int) else ((left - n : Nat) : Int))) ∧ w = w' := by
  have hm : maxLen = 4611686018427387904 ∨ True := .inr trivial
  unfold maxLen at hn
  by_cases h : left < n
  · rw [if_pos h]
    have h1 : ((left : Int) - (n : Int) < 0) := by omega
    go_enter Try.func23, Try.ntmps23
    go_wp2
    go_ret
    exact ⟨rfl, rfl⟩
  · rw [if_neg h]
    have h1 : (0 : Int) ≤ (left : Int) - (n : Int) := by omega
    have h2 : ((left - n : Nat) : Int) = (left : Int) - (n : Int) := by omega
    rw [h2]
    go_enter Try.func23, Try.ntmps23
    go_wp2
    go_ret
    exact ⟨rfl, rfl⟩
theorem PR.keep {s lo hi : Nat} {w w' : World} {v : Value} {n : Nat} {f : Nat → Value} (h : PR s lo hi w v n f) (hs : w.heap.size ≤ w'.heap.size) (hk : ∀ k, lo ≤ k → w'.heap[k]? = w.heap[k]?) : PR s lo hi w' v n f := by
  obtain ⟨a, cap, rfl, h0 | ⟨g, rfl, h1, h2, h3, h4, h5⟩⟩ := h
  · exact ⟨a, cap, rfl, .inl h0⟩
  · refine ⟨_, cap, rfl, .inr ⟨g, rfl, h1, h2, Nat.le_trans h3 hs, fun j hj => ?_, fun j hj => ?_⟩⟩
    · rw [World.cell?_of_block (hk g h1)]; exact h4 j hj
    · rw [World.frozen?_of_block (hk g h1)]; exact h5 j hj
theorem WrB.below {g N B : Nat} {w w' : World} (h : WrB g N w) (hb : Below B w w') (hg : g < B) : WrB g N w' := fun j hj => by
  obtain ⟨⟨x, hx⟩, hf⟩ := h j hj
  exact ⟨⟨x, (hb.cell (p := ⟨g, j, none⟩) hg).trans hx⟩, (hb.frozen (p := ⟨g, j, none⟩) hg).trans hf⟩
theorem pfM_le (f : Nat → Int) (n : Nat) : pfM f n ≤ 1048576 := by
  unfold pfM
  split
  · rename_i hv
    have h1 := validP_le hv
    have h2 := pfN_le f n
    exact pkM_le _ _ _ (by omega)
  · decide
theorem markFB_any {lo hi n : Nat} {v : Value} {f : Nat → Int} {w : World} (hn : n ≤ 1048576) (h : PR 16 lo hi w v n (FF f)) :
    Calls Try.prog 46 #[v, .int .i64 1] w fun e w' => e = .returned (.int .i64 ((1 + 16 * n : Nat) : Int)) ∧ PR 16 lo hi w' v n markU ∧ Below lo w w' := (markF_any hn h).mono fun e w' ⟨h1, h2, h3⟩ => ⟨h1, h2, h3.below (Nat.le_refl _)⟩
theorem heldFB_any {lo hi n : Nat} {v : Value} {w : World} (hn : n ≤ 1048576) (h : PR 16 lo hi w v n markU) :
    Calls Try.prog 47 #[v, .int .i64 1] w fun e w' => e = .returned (.int .i64 ((1 + 16 * n : Nat) : Int)) ∧ Below w.heap.size w w' := (heldF_any hn h).mono fun e w' ⟨h1, h2⟩ => ⟨h1, by rw [h2]; exact Below.refl _ _⟩
set_option maxRecDepth 20000 in
set_option maxHeartbeats 4000000 in
theorem fnExactPictureFile_walk (n : Nat) (f : Nat → Int) (hn : n ≤ maxLen) (hf : BlF n f) (a0 : Option Addr) (c0 : Nat) (w : World) (h0 : BlR w.heap.size w a0 n f) :
    Calls Try.prog 12 #[.slice a0 n c0] w fun e w' => e = .returned (.bool true) ∧ Below w.heap.size w w' := by
  have SZ := Lib.hid szB_any
  by_cases hn1 : 1048576 < n
  · go_enter Try.func12, Try.ntmps12
    go_wp2_with fail
    refine (SZ.out a0 n c0 1048576 (Nat.le_refl _) hn w).mono ?_
    rintro e w' ⟨rfl, rfl⟩
    rw [if_pos hn1]
    go_wp2
    go_ret
    exact ⟨rfl, Below.refl _ _⟩
  have hn2 : n ≤ 1048576 := by omega
  have HN := Lib.hid hn2
  have HN1 := Lib.hid hn1
  have NL := Lib.hid hn
  have H0 := Lib.hid h0
  have TO := Lib.hid toBS_any
  have TW := Lib.hid toBW_any
  have EQ := Lib.hid eqBS_any
  have MBS : Hid (∀ g cap w, WrB g (18 * n) w → Calls Try.prog 21 #[.slice (some ⟨g, 0, none⟩) n cap, .int .i64 1] w fun e w' => e = .returned (.int .i64 ((1 + 18 * n : Nat) : Int)) ∧ Onl g w w') := Lib.hid fun g cap w h => markBS_any g cap n hn2 w h
  have SP : Hid (∀ (a : Option Addr) (cap : Nat) (w : World), BlR w.heap.size w a n f → Calls Try.prog 43 #[.slice a n cap] w fun e w' => ∃ v, e = .returned (.tuple #[v, .int .i64 (pfC f n)]) ∧ PR 16 w.heap.size w'.heap.size w' v (pfM f n) (FF (pfW f n)) ∧ Below w.heap.size w w') := Lib.hid fun a cap w h => sPicFile_any a n cap f w hn2 h hf
  have IM : Hid (∀ (a : Option Addr) (cap : Nat) (w : World), BlR w.heap.size w a n f → Calls Try.prog 44 #[.slice a n cap] w fun e w' => ∃ v, e = .returned (.tuple #[v, .int .i64 (pfC f n)]) ∧ PR 16 w.heap.size w'.heap.size w' v (pfM f n) (FF (pfW f n)) ∧ Below w.heap.size w w') := Lib.hid fun a cap w h => iPicFile_any a n cap f w hn2 h hf
  have hl : Hid (pfM f n ≤ 1048576) := Lib.hid (pfM_le f n)
  clear hf h0 hn hn1 hn2
  generalize pfC f n = cc at SP IM
  generalize pfW f n = G at SP IM
  generalize pfM f n = NN at SP IM hl
  go_enter Try.func12, Try.ntmps12
  go_wp2_with fail
  refine (SZ.out a0 n c0 1048576 (Nat.le_refl _) NL.out w).mono ?_
  rintro e w' ⟨rfl, rfl⟩
  rw [if_neg HN1.out]
  have k1 : ((1048576 - n : Nat) : Int) < 0 ↔ False := by simp
  have km : decide (((1 + 18 * n : Nat) : Int) < 0) = false := by simp; omega
  have tn : decide (((1 + 16 * NN : Nat) : Int) < 0) = false := by simp; omega
  go_wp2_with fail
  refine (TO.out a0 c0 n f w.heap.size w (Nat.le_refl _) (H0.out.below (Below.refl _ _) (Nat.le_refl _)) HN.out).mono ?_
  rintro e w1 ⟨rfl, q, b, sz⟩
  have Z1 : Hid (w.heap.size ≤ w1.heap.size) := Lib.hid b.size
  have BB1 : Hid (Below w.heap.size w w1) := Lib.hid (b.mono (Nat.le_refl _))
  have S1 : Hid (BlR w1.heap.size w1 (some ⟨w.heap.size, 0, none⟩) n f) := Lib.hid (q.mono' sz)
  clear q b sz
  go_wp2_with fail
  refine (SP.out _ n w1 S1.out).mono ?_
  rintro e w2 ⟨v0, rfl, r, b⟩
  have Z2 : Hid (w1.heap.size ≤ w2.heap.size) := Lib.hid b.size
  have BB2 : Hid (Below w.heap.size w w2) := Lib.hid (BB1.out.trans (b.mono (by have := Z1.out; omega)))
  have R2 := Lib.hid r
  clear r b
  go_wp2_with fail
  refine (TW.out a0 c0 n f w.heap.size w2 (BB2.out.size) (H0.out.below BB2.out (Nat.le_refl _)) HN.out).mono ?_
  rintro e w3 ⟨rfl, q, b, sz, wr⟩
  have Z3 : Hid (w2.heap.size ≤ w3.heap.size) := Lib.hid b.size
  have BB3 : Hid (Below w.heap.size w w3) := Lib.hid (BB2.out.trans (b.mono (by have := Z1.out; have := Z2.out; omega)))
  have R3 : Hid (PR 16 w1.heap.size w2.heap.size w3 v0 NN (FF G)) := Lib.hid (R2.out.below b (by have := Z1.out; have := Z2.out; omega))
  have X3 : Hid (BlR w3.heap.size w3 (some ⟨w2.heap.size, 0, none⟩) n f) := Lib.hid (q.mono' sz)
  have WR3 := Lib.hid wr
  have XL : Hid (w2.heap.size < w3.heap.size) := Lib.hid sz
  clear q b sz wr
  go_wp2_with fail
  refine (IM.out _ n w3 X3.out).mono ?_
  rintro e w4 ⟨v1, rfl, r, b⟩
  have Z4 : Hid (w3.heap.size ≤ w4.heap.size) := Lib.hid b.size
  have BB4 : Hid (Below w.heap.size w w4) := Lib.hid (BB3.out.trans (b.mono (by have := Z1.out; have := Z2.out; have := Z3.out; omega)))
  have R4 : Hid (PR 16 w1.heap.size w2.heap.size w4 v0 NN (FF G)) := Lib.hid (R3.out.below b (by have := Z1.out; have := Z2.out; have := Z3.out; omega))
  have X4 : Hid (BlR w4.heap.size w4 (some ⟨w2.heap.size, 0, none⟩) n f) := Lib.hid ((X3.out.below b (Nat.le_refl _)).mono' (b.size))
  have WR4 : Hid (WrB w2.heap.size (18 * n) w4) := Lib.hid (WR3.out.below b (by have := XL.out; have := Z1.out; have := Z2.out; have := Z3.out; omega))
  have T4 := Lib.hid r
  clear r b
  go_wp2_with fail
  refine (eqF_any (fun _ _ => rfl) hl.out T4.out R4.out).mono ?_
  rintro e w5 ⟨rfl, b⟩
  have Z5 : Hid (w4.heap.size ≤ w5.heap.size) := Lib.hid b.size
  have BB5 : Hid (Below w.heap.size w w5) := Lib.hid (BB4.out.trans (b.mono (by have := Z1.out; have := Z2.out; have := Z3.out; have := Z4.out; omega)))
  have R5 : Hid (PR 16 w1.heap.size w2.heap.size w5 v0 NN (FF G)) := Lib.hid (R4.out.below b (by have := Z1.out; have := Z2.out; have := Z3.out; have := Z4.out; omega))
  have X5 : Hid (BlR w5.heap.size w5 (some ⟨w2.heap.size, 0, none⟩) n f) := Lib.hid ((X4.out.below b (Nat.le_refl _)).mono' (b.size))
  have WR5 : Hid (WrB w2.heap.size (18 * n) w5) := Lib.hid (WR4.out.below b (by have := XL.out; have := Z1.out; have := Z2.out; have := Z3.out; have := Z4.out; omega))
  have T5 : Hid (PR 16 w3.heap.size w4.heap.size w5 v1 NN (FF G)) := Lib.hid (T4.out.below b (by have := Z1.out; have := Z2.out; have := Z3.out; have := Z4.out; omega))
  clear b
  go_wp2_with fail
  refine (TO.out a0 c0 n f w.heap.size w5 (BB5.out.size) (H0.out.below BB5.out (Nat.le_refl _)) HN.out).mono ?_
  rintro e w6 ⟨rfl, q, b, sz⟩
  have Z6 : Hid (w5.heap.size ≤ w6.heap.size) := Lib.hid b.size
  have BB6 : Hid (Below w.heap.size w w6) := Lib.hid (BB5.out.trans (b.mono (by have := Z1.out; have := Z2.out; have := Z3.out; have := Z4.out; have := Z5.out; omega)))
  have R6 : Hid (PR 16 w1.heap.size w2.heap.size w6 v0 NN (FF G)) := Lib.hid (R5.out.below b (by have := Z1.out; have := Z2.out; have := Z3.out; have := Z4.out; have := Z5.out; omega))
  have X6 : Hid (BlR w6.heap.size w6 (some ⟨w2.heap.size, 0, none⟩) n f) := Lib.hid ((X5.out.below b (Nat.le_refl _)).mono' (b.size))
  have WR6 : Hid (WrB w2.heap.size (18 * n) w6) := Lib.hid (WR5.out.below b (by have := XL.out; have := Z1.out; have := Z2.out; have := Z3.out; have := Z4.out; have := Z5.out; omega))
  have T6 : Hid (PR 16 w3.heap.size w4.heap.size w6 v1 NN (FF G)) := Lib.hid (T5.out.below b (by have := Z1.out; have := Z2.out; have := Z3.out; have := Z4.out; have := Z5.out; omega))
  have S6 : Hid (BlR w6.heap.size w6 (some ⟨w5.heap.size, 0, none⟩) n f) := Lib.hid (q.mono' sz)
  clear q b sz
  go_wp2_with fail
  refine (EQ.out _ _ n n n f w6.heap.size w6 (Nat.le_refl _) HN.out X6.out S6.out).mono ?_
  rintro e w7 ⟨rfl, b⟩
  have Z7 : Hid (w6.heap.size ≤ w7.heap.size) := Lib.hid b.size
  have BB7 : Hid (Below w.heap.size w w7) := Lib.hid (BB6.out.trans (b.mono (by have := Z1.out; have := Z2.out; have := Z3.out; have := Z4.out; have := Z5.out; have := Z6.out; omega)))
  have R7 : Hid (PR 16 w1.heap.size w2.heap.size w7 v0 NN (FF G)) := Lib.hid (R6.out.below b (by have := Z1.out; have := Z2.out; have := Z3.out; have := Z4.out; have := Z5.out; have := Z6.out; omega))
  have X7 : Hid (BlR w7.heap.size w7 (some ⟨w2.heap.size, 0, none⟩) n f) := Lib.hid ((X6.out.below b (Nat.le_refl _)).mono' (b.size))
  have WR7 : Hid (WrB w2.heap.size (18 * n) w7) := Lib.hid (WR6.out.below b (by have := XL.out; have := Z1.out; have := Z2.out; have := Z3.out; have := Z4.out; have := Z5.out; have := Z6.out; omega))
  have T7 : Hid (PR 16 w3.heap.size w4.heap.size w7 v1 NN (FF G)) := Lib.hid (T6.out.below b (by have := Z1.out; have := Z2.out; have := Z3.out; have := Z4.out; have := Z5.out; have := Z6.out; omega))
  clear b
  go_wp2_with fail
  refine (MBS.out w2.heap.size n w7 WR7.out).mono ?_
  rintro e w8 ⟨rfl, o⟩
  have b : Below w2.heap.size w7 w8 := o.below (Nat.le_refl _)
  have Z8 : Hid (w7.heap.size ≤ w8.heap.size) := Lib.hid b.size
  have BB8 : Hid (Below w.heap.size w w8) := Lib.hid (BB7.out.trans (b.mono (by have := Z1.out; have := Z2.out; have := Z3.out; have := Z4.out; have := Z5.out; have := Z6.out; have := Z7.out; omega)))
  have R8 : Hid (PR 16 w1.heap.size w2.heap.size w8 v0 NN (FF G)) := Lib.hid (R7.out.below b (Nat.le_refl _))
  have T8 : Hid (PR 16 w3.heap.size w4.heap.size w8 v1 NN (FF G)) := Lib.hid (T7.out.keep b.size (fun k hk => o.2.2.2.2 k (by have := XL.out; omega)))
  clear b o
  go_wp2_with fail
  refine (eqF_any (fun _ _ => rfl) hl.out T8.out R8.out).mono ?_
  rintro e w9 ⟨rfl, b⟩
  have Z9 : Hid (w8.heap.size ≤ w9.heap.size) := Lib.hid b.size
  have BB9 : Hid (Below w.heap.size w w9) := Lib.hid (BB8.out.trans (b.mono (by have := Z1.out; have := Z2.out; have := Z3.out; have := Z4.out; have := Z5.out; have := Z6.out; have := Z7.out; have := Z8.out; omega)))
  have R9 : Hid (PR 16 w1.heap.size w2.heap.size w9 v0 NN (FF G)) := Lib.hid (R8.out.below b (by have := Z1.out; have := Z2.out; have := Z3.out; have := Z4.out; have := Z5.out; have := Z6.out; have := Z7.out; have := Z8.out; omega))
  have T9 : Hid (PR 16 w3.heap.size w4.heap.size w9 v1 NN (FF G)) := Lib.hid (T8.out.below b (by have := Z1.out; have := Z2.out; have := Z3.out; have := Z4.out; have := Z5.out; have := Z6.out; have := Z7.out; have := Z8.out; omega))
  clear b
  go_wp2_with fail
  refine (markFB_any hl.out T9.out).mono ?_
  rintro e w10 ⟨rfl, r, b⟩
  have Z10 : Hid (w9.heap.size ≤ w10.heap.size) := Lib.hid b.size
  have BB10 : Hid (Below w.heap.size w w10) := Lib.hid (BB9.out.trans (b.mono (by have := Z1.out; have := Z2.out; have := Z3.out; have := Z4.out; have := Z5.out; have := Z6.out; have := Z7.out; have := Z8.out; have := Z9.out; omega)))
  have R10 : Hid (PR 16 w1.heap.size w2.heap.size w10 v0 NN (FF G)) := Lib.hid (R9.out.below b (by have := Z1.out; have := Z2.out; have := Z3.out; have := Z4.out; have := Z5.out; have := Z6.out; have := Z7.out; have := Z8.out; have := Z9.out; omega))
  have T10 := Lib.hid r
  clear r b
  go_wp2_with fail
  refine (heldFB_any hl.out T10.out).mono ?_
  rintro e w11 ⟨rfl, b⟩
  have Z11 : Hid (w10.heap.size ≤ w11.heap.size) := Lib.hid b.size
  have BB11 : Hid (Below w.heap.size w w11) := Lib.hid (BB10.out.trans (b.mono (by have := Z1.out; have := Z2.out; have := Z3.out; have := Z4.out; have := Z5.out; have := Z6.out; have := Z7.out; have := Z8.out; have := Z9.out; have := Z10.out; omega)))
  have R11 : Hid (PR 16 w1.heap.size w2.heap.size w11 v0 NN (FF G)) := Lib.hid (R10.out.below b (by have := Z1.out; have := Z2.out; have := Z3.out; have := Z4.out; have := Z5.out; have := Z6.out; have := Z7.out; have := Z8.out; have := Z9.out; have := Z10.out; omega))
  have T11 : Hid (PR 16 w3.heap.size w4.heap.size w11 v1 NN markU) := Lib.hid (T10.out.below b (by have := Z1.out; have := Z2.out; have := Z3.out; have := Z4.out; have := Z5.out; have := Z6.out; have := Z7.out; have := Z8.out; have := Z9.out; have := Z10.out; omega))
  clear b
  go_wp2_with fail
  refine (TO.out a0 c0 n f w.heap.size w11 (BB11.out.size) (H0.out.below BB11.out (Nat.le_refl _)) HN.out).mono ?_
  rintro e w12 ⟨rfl, q, b, sz⟩
  have Z12 : Hid (w11.heap.size ≤ w12.heap.size) := Lib.hid b.size
  have BB12 : Hid (Below w.heap.size w w12) := Lib.hid (BB11.out.trans (b.mono (by have := Z1.out; have := Z2.out; have := Z3.out; have := Z4.out; have := Z5.out; have := Z6.out; have := Z7.out; have := Z8.out; have := Z9.out; have := Z10.out; have := Z11.out; omega)))
  have R12 : Hid (PR 16 w1.heap.size w2.heap.size w12 v0 NN (FF G)) := Lib.hid (R11.out.below b (by have := Z1.out; have := Z2.out; have := Z3.out; have := Z4.out; have := Z5.out; have := Z6.out; have := Z7.out; have := Z8.out; have := Z9.out; have := Z10.out; have := Z11.out; omega))
  have T12 : Hid (PR 16 w3.heap.size w4.heap.size w12 v1 NN markU) := Lib.hid (T11.out.below b (by have := Z1.out; have := Z2.out; have := Z3.out; have := Z4.out; have := Z5.out; have := Z6.out; have := Z7.out; have := Z8.out; have := Z9.out; have := Z10.out; have := Z11.out; omega))
  have S12 : Hid (BlR w12.heap.size w12 (some ⟨w11.heap.size, 0, none⟩) n f) := Lib.hid (q.mono' sz)
  clear q b sz
  go_wp2_with fail
  refine (IM.out _ n w12 S12.out).mono ?_
  rintro e w13 ⟨v2, rfl, r, b⟩
  have Z13 : Hid (w12.heap.size ≤ w13.heap.size) := Lib.hid b.size
  have BB13 : Hid (Below w.heap.size w w13) := Lib.hid (BB12.out.trans (b.mono (by have := Z1.out; have := Z2.out; have := Z3.out; have := Z4.out; have := Z5.out; have := Z6.out; have := Z7.out; have := Z8.out; have := Z9.out; have := Z10.out; have := Z11.out; have := Z12.out; omega)))
  have R13 : Hid (PR 16 w1.heap.size w2.heap.size w13 v0 NN (FF G)) := Lib.hid (R12.out.below b (by have := Z1.out; have := Z2.out; have := Z3.out; have := Z4.out; have := Z5.out; have := Z6.out; have := Z7.out; have := Z8.out; have := Z9.out; have := Z10.out; have := Z11.out; have := Z12.out; omega))
  have T13 : Hid (PR 16 w3.heap.size w4.heap.size w13 v1 NN markU) := Lib.hid (T12.out.below b (by have := Z1.out; have := Z2.out; have := Z3.out; have := Z4.out; have := Z5.out; have := Z6.out; have := Z7.out; have := Z8.out; have := Z9.out; have := Z10.out; have := Z11.out; have := Z12.out; omega))
  have U13 := Lib.hid r
  clear r b
  go_wp2_with fail
  refine (eqF_any (fun _ _ => rfl) hl.out U13.out R13.out).mono ?_
  rintro e w14 ⟨rfl, b⟩
  have Z14 : Hid (w13.heap.size ≤ w14.heap.size) := Lib.hid b.size
  have BB14 : Hid (Below w.heap.size w w14) := Lib.hid (BB13.out.trans (b.mono (by have := Z1.out; have := Z2.out; have := Z3.out; have := Z4.out; have := Z5.out; have := Z6.out; have := Z7.out; have := Z8.out; have := Z9.out; have := Z10.out; have := Z11.out; have := Z12.out; have := Z13.out; omega)))
  have R14 : Hid (PR 16 w1.heap.size w2.heap.size w14 v0 NN (FF G)) := Lib.hid (R13.out.below b (by have := Z1.out; have := Z2.out; have := Z3.out; have := Z4.out; have := Z5.out; have := Z6.out; have := Z7.out; have := Z8.out; have := Z9.out; have := Z10.out; have := Z11.out; have := Z12.out; have := Z13.out; omega))
  have T14 : Hid (PR 16 w3.heap.size w4.heap.size w14 v1 NN markU) := Lib.hid (T13.out.below b (by have := Z1.out; have := Z2.out; have := Z3.out; have := Z4.out; have := Z5.out; have := Z6.out; have := Z7.out; have := Z8.out; have := Z9.out; have := Z10.out; have := Z11.out; have := Z12.out; have := Z13.out; omega))
  have U14 : Hid (PR 16 w12.heap.size w13.heap.size w14 v2 NN (FF G)) := Lib.hid (U13.out.below b (by have := Z1.out; have := Z2.out; have := Z3.out; have := Z4.out; have := Z5.out; have := Z6.out; have := Z7.out; have := Z8.out; have := Z9.out; have := Z10.out; have := Z11.out; have := Z12.out; have := Z13.out; omega))
  clear b
  go_wp2_with fail
  refine (heldFB_any hl.out T14.out).mono ?_
  rintro e w15 ⟨rfl, b⟩
  have Z15 : Hid (w14.heap.size ≤ w15.heap.size) := Lib.hid b.size
  have BB15 : Hid (Below w.heap.size w w15) := Lib.hid (BB14.out.trans (b.mono (by have := Z1.out; have := Z2.out; have := Z3.out; have := Z4.out; have := Z5.out; have := Z6.out; have := Z7.out; have := Z8.out; have := Z9.out; have := Z10.out; have := Z11.out; have := Z12.out; have := Z13.out; have := Z14.out; omega)))
  have R15 : Hid (PR 16 w1.heap.size w2.heap.size w15 v0 NN (FF G)) := Lib.hid (R14.out.below b (by have := Z1.out; have := Z2.out; have := Z3.out; have := Z4.out; have := Z5.out; have := Z6.out; have := Z7.out; have := Z8.out; have := Z9.out; have := Z10.out; have := Z11.out; have := Z12.out; have := Z13.out; have := Z14.out; omega))
  have T15 : Hid (PR 16 w3.heap.size w4.heap.size w15 v1 NN markU) := Lib.hid (T14.out.below b (by have := Z1.out; have := Z2.out; have := Z3.out; have := Z4.out; have := Z5.out; have := Z6.out; have := Z7.out; have := Z8.out; have := Z9.out; have := Z10.out; have := Z11.out; have := Z12.out; have := Z13.out; have := Z14.out; omega))
  have U15 : Hid (PR 16 w12.heap.size w13.heap.size w15 v2 NN (FF G)) := Lib.hid (U14.out.below b (by have := Z1.out; have := Z2.out; have := Z3.out; have := Z4.out; have := Z5.out; have := Z6.out; have := Z7.out; have := Z8.out; have := Z9.out; have := Z10.out; have := Z11.out; have := Z12.out; have := Z13.out; have := Z14.out; omega))
  clear b
  go_wp2
  go_ret
  exact ⟨rfl, BB15.out⟩
end Go.Proofs.Ythfmkejdpflpcaa
