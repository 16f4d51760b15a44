/-
  FnCells, walked.
-/
import Derived.Test.YtaihooljphkpeaaCle
import Derived.Test.YtaihooljphkpeaaNbo
namespace Go.Proofs.Ytaihooljphkpeaa
open Go.ChangeShapes Go.WideShapes Go.ChangeAt Go.RowKit Go.Deep
open Fl
theorem big_any (a : Option Addr) (len cap : Nat) (w : World) :
    Calls Try.prog 4 #[.slice a len cap] w fun e w' => e = .returned (.bool (decide (4096 < len))) ∧ w = w' := by
  go_enter Try.func4, Try.ntmps4
  go_wp2
  go_ret
  exact ⟨by simp; omega, rfl⟩
/-- a cell in a block of its own -/
def CellBlk (w : World) (b : Nat) (c d : Int) : Prop := w.heap[b]? = some (.cells #[.int .i32 c, .int .i32 d] 29 (0, 0))
theorem cellblk_new (w : World) (c d : Int) : CellBlk (w.alloc (.cells #[.int .i32 c, .int .i32 d] 29)) w.heap.size c d := heap_alloc_new _ _
theorem CellBlk.lt {w : World} {b : Nat} {c d : Int} (h : CellBlk w b c d) : b < w.heap.size := (Array.getElem?_eq_some_iff.1 h).1
theorem CellBlk.later {w w' : World} {b : Nat} {c d : Int} (h : CellBlk w b c d) (hb : Below w.heap.size w w') : CellBlk w' b c d := by
  unfold CellBlk
  rw [hb.block b h.lt]; exact h
theorem CellBlk.cells {w : World} {b : Nat} {c d : Int} (h : CellBlk w b c d) : w.cell? ⟨b, 0, none⟩ = some (.int .i32 c) ∧ w.cell? ⟨b, 1, none⟩ = some (.int .i32 d) := by
  unfold CellBlk at h
  simp [World.cell?, h]
theorem brow_later {w w' : World} {a : Option Addr} {len : Nat} (h : BRow w.heap.size w a len) (hb : Below w.heap.size w w') : BRow w'.heap.size w' a len := by
  rcases h with h | ⟨b, off, h1, h2, h3⟩
  · exact .inl h
  · refine .inr ⟨b, off, h1, Nat.lt_of_lt_of_le h2 hb.size, fun i hi => ?_⟩
    obtain ⟨c, c0, c1, c2⟩ := h3 i hi
    exact ⟨c, c0, c1, by rw [hb.cell (p := ⟨b, off + i, none⟩) h2]; exact c2⟩
set_option maxHeartbeats 4000000 in
set_option maxRecDepth 20000 in
theorem cells_ok (a : Option Addr) (len cap : Nat) (a2 : Option Addr) (len2 cap2 : Nat) (w : World) (h : BRow w.heap.size w a len) (h2 : BRow w.heap.size w a2 len2) (hl : len ≤ 4096) (hl2 : len2 ≤ 4096) :
    Calls Try.prog 3 #[.slice a len cap, .slice a2 len2 cap2] w fun e w' => e = .returned (.bool true) ∧ Below w.heap.size w w' := by
  have t1 : decide (4096 < len) = false := by simp; omega
  have t2 : decide (4096 < len2) = false := by simp; omega
  have H := Lib.hid h
  have H2 := Lib.hid h2
  have HL := Lib.hid hl
  have HL2 := Lib.hid hl2
  clear h h2 hl hl2
  go_enter Try.func3, Try.ntmps3
  go_wp2_with (go_at_call 4; refine (big_any _ _ _ _).mono ?_; rintro e w' ⟨rfl, rfl⟩)
  refine (p6point_any _ _ _ HL.out _ H.out).mono ?_
  rintro e w1 ⟨k, m, hk, hm, rfl, hb⟩
  have B1 := Lib.hid hb
  have K := Lib.hid hk
  have M := Lib.hid hm
  have H21 : Hid (BRow w1.heap.size w1 a2 len2) := Lib.hid (brow_later H2.out hb)
  clear hb hk hm t1 t2
  go_wp2_with fail
  refine (p6pick_any _ _ 16 _ (by omega) (by omega) HL2.out _ H21.out).mono ?_
  rintro e w2 ⟨j, hj, rfl, hb⟩
  have B2 : Hid (Below w.heap.size w w2) := Lib.hid (B1.out.trans (hb.mono B1.out.size))
  obtain ⟨s1, s2⟩ := sd_ok j hj
  have SD := Lib.hid s2
  have P1 := Lib.hid (pair_all k j K.out hj)
  have P2 := Lib.hid (pair_all m j M.out hj)
  have hop := fun w t => run_float_arith (P := Try.prog) w .quo t .f32 _ _ _ s1
  have hj' : (j : Int) ≤ 15 := by omega
  clear hb s1 s2 K M B1 H21
  generalize plB k = x at P1 ⊢
  generalize plB m = y at P2 ⊢
  generalize sdB j = s at SD P1 P2 hop ⊢
  generalize hc : ceB x s = c at P1
  generalize hd : ceB y s = d at P2
  clear hc hd
  go_wp2_with fail
  refine (implCell_any x y s c d P1.out.part P2.out.part SD.out _).mono ?_
  rintro e w3 ⟨rfl, hb⟩
  have B3 : Hid (Below w.heap.size w w3) := Lib.hid (B2.out.trans (hb.mono B2.out.size))
  clear hb hop hj'
  go_wp2_with fail
  have Q1 : Hid (CellBlk (w3.alloc (.cells #[.int .i32 c, .int .i32 d] 29)) w3.heap.size c d) := Lib.hid (cellblk_new _ _ _)
  have B4 : Hid (Below w.heap.size w (w3.alloc (.cells #[.int .i32 c, .int .i32 d] 29))) := Lib.hid (B3.out.alloc B3.out.size _)
  generalize w3.alloc (.cells #[.int .i32 c, .int .i32 d] 29) = w4 at Q1 B4 ⊢
  obtain ⟨b1, hb1⟩ : ∃ b1, w3.heap.size = b1 := ⟨_, rfl⟩
  rw [hb1] at Q1 ⊢
  clear hb1 B3
  refine (specCell_any x y s c d P1.out.part P2.out.part SD.out _).mono ?_
  rintro e w5 ⟨rfl, hb⟩
  have Q2 : Hid (CellBlk w5 b1 c d) := Lib.hid (Q1.out.later hb)
  have B5 : Hid (Below w.heap.size w w5) := Lib.hid (B4.out.trans (hb.mono B4.out.size))
  clear hb Q1 B4
  go_wp2_with fail
  have Q3 : Hid (CellBlk (w5.alloc (.cells #[.int .i32 c, .int .i32 d] 29)) w5.heap.size c d) := Lib.hid (cellblk_new _ _ _)
  have B6 : Hid (Below w.heap.size w (w5.alloc (.cells #[.int .i32 c, .int .i32 d] 29))) := Lib.hid (B5.out.alloc B5.out.size _)
  have Q4 : Hid (CellBlk (w5.alloc (.cells #[.int .i32 c, .int .i32 d] 29)) b1 c d) := Lib.hid (Q2.out.later ((Below.refl _ _).alloc (Nat.le_refl _) _))
  generalize w5.alloc (.cells #[.int .i32 c, .int .i32 d] 29) = w6 at Q3 Q4 B6 ⊢
  obtain ⟨b2, hb2⟩ : ∃ b2, w5.heap.size = b2 := ⟨_, rfl⟩
  rw [hb2] at Q3 ⊢
  clear hb2 B5 Q2
  refine (implCorner_any s c d P1.out.corner P2.out.corner SD.out _).mono ?_
  rintro e w7 ⟨rfl, hb⟩
  have D2 : Hid (CellBlk w7 b2 c d) := Lib.hid (Q3.out.later hb)
  have D1 : Hid (CellBlk w7 b1 c d) := Lib.hid (Q4.out.later hb)
  have B7 : Hid (Below w.heap.size w w7) := Lib.hid (B6.out.trans (hb.mono B6.out.size))
  clear hb Q3 Q4 B6
  have lc := P1.out.lo
  have uc := P1.out.hi
  have ld := P2.out.lo
  have ud := P2.out.hi
  obtain ⟨e1, e2⟩ := D2.out.cells
  go_wp2_with fail
  refine (implCorner_any s (c + 1) (d + 1) P1.out.next P2.out.next SD.out _).mono ?_
  rintro e w8 ⟨rfl, hb⟩
  have E2 : Hid (CellBlk w8 b2 c d) := Lib.hid (D2.out.later hb)
  have E1 : Hid (CellBlk w8 b1 c d) := Lib.hid (D1.out.later hb)
  have B8 : Hid (Below w.heap.size w w8) := Lib.hid (B7.out.trans (hb.mono B7.out.size))
  clear hb D1 D2 B7 e1 e2
  obtain ⟨e1, e2⟩ := E2.out.cells
  obtain ⟨e3, e4⟩ := E1.out.cells
  have q0 := fun w => eqTwo c d c d w
  have n1 := P1.out.notGt
  have n2 := P2.out.notGt
  have n3 := P1.out.notLt
  have n4 := P2.out.notLt
  have n5 := P1.out.notEq
  have n6 := P2.out.notEq
  go_wp2_with fail
  have NB : Hid ((nbB c && nbB d) = true) := Lib.hid (by unfold nbB; simp; omega)
  have RC : Hid (-2147483648 ≤ c ∧ c ≤ 2147483647) := Lib.hid (by omega)
  have RD : Hid (-2147483648 ≤ d ∧ d ≤ 2147483647) := Lib.hid (by omega)
  refine (implNb_in c d NB.out _).mono ?_
  rintro e w9 ⟨hrow, hb⟩
  obtain ⟨g1, cap1, rfl, hg1, hg2, hg3, _⟩ := row_open hrow
  have F2 : Hid (CellBlk w9 b2 c d) := Lib.hid (E2.out.later hb)
  have B9 : Hid (Below w.heap.size w w9) := Lib.hid (B8.out.trans (hb.mono B8.out.size))
  have R1 : Hid (∀ j, j < 2 * 8 → w9.cell? ⟨g1, j, none⟩ = some (.int .i32 (nbF c d j))) := Lib.hid hg3
  have G1 : Hid (g1 < w9.heap.size) := Lib.hid hg2
  clear hrow hb hg1 hg2 hg3 E1 E2 B8 e1 e2 e3 e4 n1 n2 n3 n4 n5 n6
  obtain ⟨e1, e2⟩ := F2.out.cells
  go_wp2_with fail
  refine (specNb_in c d RC.out RD.out NB.out _).mono ?_
  rintro e w10 ⟨hrow, hb⟩
  obtain ⟨g2, cap2', rfl, hg1, hg2, hg3, _⟩ := row_open hrow
  have F3 : Hid (CellBlk w10 b2 c d) := Lib.hid (F2.out.later hb)
  have B10 : Hid (Below w.heap.size w w10) := Lib.hid (B9.out.trans (hb.mono B9.out.size))
  have R2 : Hid (∀ j, j < 2 * 8 → w10.cell? ⟨g2, j, none⟩ = some (.int .i32 (nbF c d j))) := Lib.hid hg3
  have R3 : Hid (∀ j, j < 2 * 8 → w10.cell? ⟨g1, j, none⟩ = some (.int .i32 (nbF c d j))) := Lib.hid fun j hj => by rw [hb.cell (p := ⟨g1, j, none⟩) G1.out]; exact R1.out j hj
  clear hrow hb hg1 hg2 hg3 F2 B9 e1 e2 R1 G1
  go_wp2
  clear q0
  go_loopw [19] (fun i wr => ∃ k n : Nat, k ≤ 8 ∧ i = .int .i64 k ∧ wr = w10.drewN n) (fun i _ => 8 - (intOf i).toNat)
  case atStart => exact ⟨0, 0, by omega, rfl, rfl⟩
  case round =>
    obtain ⟨k, n, hk, rfl, hw⟩ := hrel
    have W := Lib.hid hw
    by_cases hlt : k < 8
    · have hlt' : (k : Int) < 8 := by omega
      have a1 : wr.cell? ⟨g1, k * 2, none⟩ = some (.int .i32 (nbF c d (2 * k))) := by rw [hw, Nat.mul_comm]; exact R3.out _ (by omega)
      have a2 : wr.cell? ⟨g1, k * 2 + 1, none⟩ = some (.int .i32 (nbF c d (2 * k + 1))) := by rw [hw, Nat.mul_comm]; exact R3.out _ (by omega)
      have a3 : wr.cell? ⟨g2, k * 2, none⟩ = some (.int .i32 (nbF c d (2 * k))) := by rw [hw, Nat.mul_comm]; exact R2.out _ (by omega)
      have a4 : wr.cell? ⟨g2, k * 2 + 1, none⟩ = some (.int .i32 (nbF c d (2 * k + 1))) := by rw [hw, Nat.mul_comm]; exact R2.out _ (by omega)
      have a5 : wr.cell? ⟨b2, 0, none⟩ = some (.int .i32 c) := by rw [hw]; exact F3.out.cells.1
      have a6 : wr.cell? ⟨b2, 1, none⟩ = some (.int .i32 d) := by rw [hw]; exact F3.out.cells.2
      have ho := nbF_other c d k hlt
      clear hw
      generalize nbF c d (2 * k) = p at a1 a3 ho
      generalize nbF c d (2 * k + 1) = q at a2 a4 ho
      have q1 : ∀ w, (Op.equalIn 10000 29 (.agg #[.int .i32 p, .int .i32 q]) (.agg #[.int .i32 p, .int .i32 q])).run Try.prog w = .ok true w := fun w => by rw [eqTwo]; simp
      have q2 : ∀ w, (Op.equalIn 10000 29 (.agg #[.int .i32 p, .int .i32 q]) (.agg #[.int .i32 c, .int .i32 d])).run Try.prog w = .ok false w := fun w => by
        rw [eqTwo]
        have : (p == c && q == d) = false := by
          rcases ho with h | h
          · simp [h]
          · simp [h]
        rw [this]
      clear ho
      go_wp2
      go_quiet (fail)
      go_wp2
      go_roundw
      case rel => exact ⟨k + 1, _, by omega, by go_num, by rw [W.out, World.drewN_drewN]⟩
      case measure => simp [intOf]; omega
    · obtain rfl : k = 8 := by omega
      have F4 : Hid (CellBlk wr b2 c d) := Lib.hid (by rw [hw]; exact F3.out)
      have B11 : Hid (Below w.heap.size w wr) := Lib.hid (by rw [hw]; exact B10.out.trans ⟨rfl, rfl, rfl, Nat.le_refl _, fun _ _ => rfl⟩)
      clear hw W
      go_wp2_with fail
      refine (implCell_any (coB c s) (coB d s) s c d P1.out.same P2.out.same SD.out _).mono ?_
      rintro e w11 ⟨rfl, hb⟩
      have F5 : Hid (CellBlk w11 b2 c d) := Lib.hid (F4.out.later hb)
      have B12 : Hid (Below w.heap.size w w11) := Lib.hid (B11.out.trans (hb.mono B11.out.size))
      clear hb F4 B11
      have q0 := fun w => eqTwo c d c d w
      have F6 : Hid (CellBlk (w11.alloc (.cells #[.int .i32 c, .int .i32 d] 29)) b2 c d) := Lib.hid (F5.out.later ((Below.refl _ _).alloc (Nat.le_refl _) _))
      obtain ⟨e1, e2⟩ := F6.out.cells
      obtain ⟨e3, e4⟩ := (cellblk_new w11 c d).cells
      go_wp2
      go_ret
      exact ⟨by simp, B12.out.alloc B12.out.size _⟩
set_option maxRecDepth 20000 in
theorem fnCells_walk (a : Option Addr) (len cap : Nat) (a2 : Option Addr) (len2 cap2 : Nat) (w : World) (h : BRow w.heap.size w a len) (h2 : BRow w.heap.size w a2 len2) :
    Calls Try.prog 3 #[.slice a len cap, .slice a2 len2 cap2] w fun e w' => e = .returned (.bool true) ∧ Below w.heap.size w w' := by
  by_cases h3 : len ≤ 4096
  · by_cases h4 : len2 ≤ 4096
    · exact cells_ok a len cap a2 len2 cap2 w h h2 h3 h4
    · have t1 : decide (4096 < len) = false := by simp; omega
      have t2 : decide (4096 < len2) = true := by simp; omega
      clear h h2 h3 h4
      go_enter Try.func3, Try.ntmps3
      go_wp2_with (go_at_call 4; refine (big_any _ _ _ _).mono ?_; rintro e w' ⟨rfl, rfl⟩)
      go_ret
      exact ⟨rfl, Below.refl _ _⟩
  · have t1 : decide (4096 < len) = true := by simp; omega
    clear h h2 h3
    go_enter Try.func3, Try.ntmps3
    go_wp2_with (go_at_call 4; refine (big_any _ _ _ _).mono ?_; rintro e w' ⟨rfl, rfl⟩)
    go_ret
    exact ⟨rfl, Below.refl _ _⟩
end Go.Proofs.Ytaihooljphkpeaa
