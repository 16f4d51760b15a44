/-
  FnExactSortReals, walked.
-/
import Derived.Test.YtgjejolfkfpobaaMk
import Derived.Test.YtgjejolfkfpobaaSosp
import Derived.Test.YtgjejolfkfpobaaOpen
namespace Go.Proofs.Ytgjejolfkfpobaa
open Go.ChangeShapes Go.WideShapes Go.ChangeAt Go.RowKit Go.Deep
open Fl
set_option maxHeartbeats 4000000 in
theorem eqF2_any (x y len c1 c2 : Nat) (bs cs : List Nat) (w : World) (hl : len ≤ 1048576) (hal : AlikeL bs cs len)
    (hx : ∀ i, i < len → w.cell? ⟨x, i, none⟩ = some (.float .f32 (bs[i]?.getD 0))) (hy : ∀ i, i < len → w.cell? ⟨y, i, none⟩ = some (.float .f32 (cs[i]?.getD 0))) :
    Calls Try.prog 31 #[.slice (some ⟨x, 0, none⟩) len c1, .slice (some ⟨y, 0, none⟩) len c2] w fun e w' => e = .returned (.bool true) ∧ ∃ n, w' = w.drewN n := by
  have hl' : (len : Int) ≤ 1048576 := by omega
  have HAL := Lib.hid hal
  clear hal
  go_enter Try.func31, Try.ntmps31
  go_wp2
  go_loopw [5] (fun i wr => ∃ k m : Nat, k ≤ len ∧ i = .int .i64 k ∧ wr = w.drewN m) (fun i _ => len - (intOf i).toNat)
  case atStart => exact ⟨0, 0, Nat.zero_le _, rfl, rfl⟩
  case round =>
    obtain ⟨k, m, hk, rfl, e⟩ := hrel
    by_cases hlt : k < len
    · have g1 : wr.cell? ⟨x, k, none⟩ = some (.float .f32 (bs[k]?.getD 0)) := by rw [e]; exact hx k hlt
      have g2 : wr.cell? ⟨y, k, none⟩ = some (.float .f32 (cs[k]?.getD 0)) := by rw [e]; exact hy k hlt
      have E := Lib.hid e
      clear hx hy e
      rcases HAL.out k hlt with ⟨he, hn⟩ | ⟨hn1, hn2⟩
      rotate_left
      · have hc := conv_nan _ hn1
        have hc2 := conv_nan _ hn2
        have hm := fun w => nanC64_nan (bs[k]?.getD 0) w
        have hm2 := fun w => nanC64_nan (cs[k]?.getD 0) w
        clear hn1 hn2
        go_wp2
        go_region_with (go_at_call 70; (first | refine (sameFloat_nan _ _ (hm _) (hm2 _) _).mono ?_ | refine (sameFloat_nan _ _ (hm2 _) (hm _) _).mono ?_); rintro e w' ⟨rfl, rfl⟩)
        all_goals
          go_wp2
          go_roundw
          case rel => exact ⟨k + 1, m + 3, by omega, by go_num, by rw [E.out]; rfl⟩
          case measure => simp [intOf]; omega
      · rw [← he] at g2
        clear he
        have hc := conv_num _ hn
        have hw := widen_num _ hn
        clear hn
        go_wp2
        go_quiet ((go_at_call 70; exact Calls.quiet_of_same (sameFloat_quiet _ hw _)))
        go_wp2
        go_roundw
        case rel => exact ⟨k + 1, m + nq, by omega, by go_num, by rw [E.out, World.drewN_drewN]⟩
        case measure => simp [intOf]; omega
    · obtain rfl : k = len := by omega
      have E := Lib.hid e
      clear e
      go_wp2
      go_ret
      exact ⟨rfl, m, E.out⟩
theorem eqF_none (a b : Option Addr) (c1 c2 : Nat) (w : World) :
    Calls Try.prog 31 #[.slice a 0 c1, .slice b 0 c2] w fun e w' => e = .returned (.bool true) ∧ w = w' := by
  go_enter Try.func31, Try.ntmps31
  go_wp2
  go_loop [5] (fun i => i = .int .i64 0) (fun _ => 0)
  case atStart => exact rfl
  case round =>
    obtain rfl := hrel
    go_wp2
    go_ret
    exact ⟨rfl, rfl⟩
theorem mark_none (a : Option Addr) (c : Nat) (w : World) :
    Calls Try.prog 32 #[.slice a 0 c, .int .i64 1] w fun e w' => e = .returned (.int .i64 1) ∧ w = w' := by
  go_enter Try.func32, Try.ntmps32
  go_wp2
  go_loop [1, 5] (fun k i => i = .int .i64 0 ∧ k = .int .i64 1) (fun _ _ => 0)
  case atStart => exact ⟨rfl, rfl⟩
  case round =>
    obtain ⟨rfl, rfl⟩ := hrel
    go_wp2
    go_ret
    exact ⟨rfl, rfl⟩
theorem held_none (a : Option Addr) (c : Nat) (w : World) :
    Calls Try.prog 33 #[.slice a 0 c, .int .i64 1] w fun e w' => e = .returned (.int .i64 1) ∧ w = w' := by
  go_enter Try.func33, Try.ntmps33
  go_wp2
  go_loop [1, 5] (fun k i => i = .int .i64 0 ∧ k = .int .i64 1) (fun _ _ => 0)
  case atStart => exact ⟨rfl, rfl⟩
  case round =>
    obtain ⟨rfl, rfl⟩ := hrel
    go_wp2
    go_ret
    exact ⟨rfl, rfl⟩
/-- both sorted copies are alike -/
theorem copies_alike {len : Nat} {bs L M : List Nat} (h1 : SortedCopy len bs L) (h2 : SortedCopy len bs M) (hw : ∀ a ∈ bs, W32 a) : AlikeL L M len := by
  obtain ⟨a1, a2, a3⟩ := h1
  obtain ⟨b1, b2, b3⟩ := h2
  have h := alike_of a2 b2 (a3.trans b3.symm) (fun a ha => hw a (a3.mem_iff.1 ha)) (fun a ha => hw a (b3.mem_iff.1 ha))
  rw [a1] at h
  exact h
theorem cells_of {w : World} {x len : Nat} {L : List Nat} (h : FreeRow w x len L) : ∀ i, i < len → w.cell? ⟨x, i, none⟩ = some (.float .f32 (L[i]?.getD 0)) := fun i hi => (h.2 i hi).1
theorem self_alike {len : Nat} {bs : List Nat} : AlikeL bs bs len := fun i _ => by
  by_cases h : kd (bs[i]?.getD 0) = 4
  · exact .inr ⟨h, h⟩
  · exact .inl ⟨rfl, h⟩
set_option maxHeartbeats 4000000 in
set_option maxRecDepth 8000 in
theorem sortWalk_ok (a : Option Addr) (len cap : Nat) (bs : List Nat) (w : World) (h : FRow w a len bs) (hl : len ≤ 256) :
    Calls Try.prog 6 #[.slice a len cap] w fun e w' => e = .returned (.bool true) ∧ Below w.heap.size w w' := by
  have hl' : decide ((1048576 : Int) < len) = false := by simp; omega
  have hlen : (len : Int) ≤ 256 := by omega
  have HL : Hid (len ≤ 1048576) := Lib.hid (by omega)
  have HF := Lib.hid h
  have HN : Hid (bs.length = len) := Lib.hid h.1
  have HQ : Hid (∀ i, i < len → W32 (bs[i]?.getD 0)) := Lib.hid h.2.1
  have HW : Hid (∀ a ∈ bs, W32 a) := Lib.hid fun a ha => by
    obtain ⟨i, hi, rfl⟩ := List.mem_iff_getElem.1 ha
    have := h.2.1 i (by rw [← h.1]; exact hi)
    rwa [List.getElem?_eq_getElem hi] at this
  clear h
  go_enter Try.func6, Try.ntmps6
  go_wp2_with fail
  refine (toF_made _ _ _ _ _ HF.out HL.out).mono ?_
  rintro e w1 ⟨rfl, m1⟩
  have b1 : Hid (Below w.heap.size w w1) := Lib.hid (m1.below (Nat.le_refl _))
  have N1 : Hid (NumRow w1 w.heap.size len bs) := Lib.hid ((free_made m1).num HQ.out)
  clear m1
  go_wp2_with fail
  refine (specSort_ok _ _ bs _ hl HN.out HW.out N1.out).mono ?_
  rintro e w2 ⟨b0, c0, L0, rfl, sc0, hb0, f0, d2⟩
  have SC0 := Lib.hid sc0
  have F0 := Lib.hid f0
  have Z0 : Hid (b0 < w2.heap.size) := Lib.hid f0.1
  have Z00 : Hid (w.heap.size ≤ b0) := Lib.hid (Nat.le_trans b1.out.size hb0)
  have b2 : Hid (Below w.heap.size w w2) := Lib.hid (b1.out.trans (d2.mono b1.out.size))
  clear sc0 hb0 f0 d2 N1
  go_wp2_with fail
  refine (toF_made _ _ _ _ _ (HF.out.later b2.out) HL.out).mono ?_
  rintro e w3 ⟨rfl, m3⟩
  have b3 : Hid (Below w.heap.size w w3) := Lib.hid (b2.out.trans (m3.below b2.out.size))
  have X3 : Hid (FreeRow w3 w2.heap.size len bs) := Lib.hid (free_made m3)
  have F3 : Hid (FreeRow w3 b0 len L0) := Lib.hid (F0.out.below (m3.below (Nat.le_refl _)) Z0.out)
  have Z3 : Hid (w3.heap.size = w2.heap.size + 1) := Lib.hid m3.size
  clear m3 F0
  go_wp2_with fail
  refine (implSort_ok _ _ bs _ hl HN.out HW.out (X3.out.num HQ.out)).mono ?_
  rintro e w4 ⟨g, c, L, rfl, sc, hg, f4, d4⟩
  have SC := Lib.hid sc
  have G4 := Lib.hid f4
  have ZG : Hid (w3.heap.size ≤ g) := Lib.hid hg
  have b4 : Hid (Below w.heap.size w w4) := Lib.hid (b3.out.trans (d4.mono b3.out.size))
  have X4 : Hid (FreeRow w4 w2.heap.size len bs) := Lib.hid (X3.out.below d4 (by rw [Z3.out]; omega))
  have F4 : Hid (FreeRow w4 b0 len L0) := Lib.hid (F3.out.below d4 (by rw [Z3.out]; have := Z0.out; omega))
  have N1 : Hid (g ≠ w2.heap.size) := Lib.hid (by have := ZG.out; have := Z3.out; omega)
  have N2 : Hid (b0 ≠ w2.heap.size) := Lib.hid (by have := Z0.out; omega)
  have N3 : Hid (b0 ≠ g) := Lib.hid (by have := Z0.out; have := ZG.out; have := Z3.out; omega)
  have ZZ : Hid (w.heap.size ≤ w2.heap.size) := Lib.hid b2.out.size
  have ZZG : Hid (w.heap.size ≤ g) := Lib.hid (by have := ZG.out; have := Z3.out; have := b2.out.size; omega)
  clear sc hg f4 d4 X3 F3 Z3 ZG Z0
  go_wp2_with fail
  refine (eqF2_any _ _ _ _ _ L L0 _ HL.out (copies_alike SC.out SC0.out HW.out) (cells_of G4.out) (cells_of F4.out)).mono ?_
  rintro e w5 ⟨rfl, d5⟩
  have b5 : Hid (Below w.heap.size w w5) := Lib.hid (b4.out.trans (DrewSame.below d5))
  have G5 : Hid (FreeRow w5 g len L) := Lib.hid (G4.out.below (DrewSame.below d5) G4.out.1)
  have X5 : Hid (FreeRow w5 w2.heap.size len bs) := Lib.hid (X4.out.below (DrewSame.below d5) X4.out.1)
  have F5 : Hid (FreeRow w5 b0 len L0) := Lib.hid (F4.out.below (DrewSame.below d5) F4.out.1)
  clear d5 G4 X4 F4 b4
  go_wp2_with fail
  refine (toF_made _ _ _ _ _ (HF.out.later b5.out) HL.out).mono ?_
  rintro e w6 ⟨rfl, m6⟩
  have b6 : Hid (Below w.heap.size w w6) := Lib.hid (b5.out.trans (m6.below b5.out.size))
  have Y6 : Hid (FreeRow w6 w5.heap.size len bs) := Lib.hid (free_made m6)
  have G6 : Hid (FreeRow w6 g len L) := Lib.hid (G5.out.below (m6.below (Nat.le_refl _)) G5.out.1)
  have X6 : Hid (FreeRow w6 w2.heap.size len bs) := Lib.hid (X5.out.below (m6.below (Nat.le_refl _)) X5.out.1)
  have F6 : Hid (FreeRow w6 b0 len L0) := Lib.hid (F5.out.below (m6.below (Nat.le_refl _)) F5.out.1)
  clear m6 G5 X5 F5
  go_wp2_with fail
  refine (eqF2_any _ _ _ _ _ bs bs _ HL.out self_alike (cells_of X6.out) (cells_of Y6.out)).mono ?_
  rintro e w7 ⟨rfl, d7⟩
  have b7 : Hid (Below w.heap.size w w7) := Lib.hid (b6.out.trans (DrewSame.below d7))
  have G7 : Hid (FreeRow w7 g len L) := Lib.hid (G6.out.below (DrewSame.below d7) G6.out.1)
  have X7 : Hid (FreeRow w7 w2.heap.size len bs) := Lib.hid (X6.out.below (DrewSame.below d7) X6.out.1)
  have F7 : Hid (FreeRow w7 b0 len L0) := Lib.hid (F6.out.below (DrewSame.below d7) F6.out.1)
  clear d7 G6 X6 F6 Y6
  go_wp2_with fail
  refine (mark_any _ _ _ bs _ hl X7.out).mono ?_
  rintro e w8 ⟨rfl, _, o8⟩
  have b8 : Hid (Below w.heap.size w w8) := Lib.hid (b7.out.trans (o8.below ZZ.out b7.out.size))
  have G8 : Hid (FreeRow w8 g len L) := Lib.hid (G7.out.only o8 N1.out)
  have F8 : Hid (FreeRow w8 b0 len L0) := Lib.hid (F7.out.only o8 N2.out)
  clear o8 G7 X7 F7
  go_wp2_with fail
  refine (eqF2_any _ _ _ _ _ L L0 _ HL.out (copies_alike SC.out SC0.out HW.out) (cells_of G8.out) (cells_of F8.out)).mono ?_
  rintro e w9 ⟨rfl, d9⟩
  have b9 : Hid (Below w.heap.size w w9) := Lib.hid (b8.out.trans (DrewSame.below d9))
  have G9 : Hid (FreeRow w9 g len L) := Lib.hid (G8.out.below (DrewSame.below d9) G8.out.1)
  have F9 : Hid (FreeRow w9 b0 len L0) := Lib.hid (F8.out.below (DrewSame.below d9) F8.out.1)
  clear d9 G8 F8
  go_wp2_with fail
  refine (mark_any _ _ _ L _ hl G9.out).mono ?_
  rintro e w10 ⟨rfl, g10, o10⟩
  have b10 : Hid (Below w.heap.size w w10) := Lib.hid (b9.out.trans (o10.below ZZG.out b9.out.size))
  have G10 := Lib.hid g10
  have F10 : Hid (FreeRow w10 b0 len L0) := Lib.hid (F9.out.only o10 N3.out)
  clear o10 g10 G9 F9
  go_wp2_with fail
  refine (held_any _ _ _ _ hl G10.out).mono ?_
  rintro e w11 ⟨rfl, d11⟩
  have b11 : Hid (Below w.heap.size w w11) := Lib.hid (b10.out.trans d11.below)
  have G11 : Hid (FreeRow w11 g len (markL 1 len)) := Lib.hid (G10.out.below d11.below G10.out.1)
  have F11 : Hid (FreeRow w11 b0 len L0) := Lib.hid (F10.out.below d11.below F10.out.1)
  clear d11 G10 F10
  go_wp2_with fail
  refine (toF_made _ _ _ _ _ (HF.out.later b11.out) HL.out).mono ?_
  rintro e w12 ⟨rfl, m12⟩
  have b12 : Hid (Below w.heap.size w w12) := Lib.hid (b11.out.trans (m12.below b11.out.size))
  have Y12 : Hid (FreeRow w12 w11.heap.size len bs) := Lib.hid (free_made m12)
  have G12 : Hid (FreeRow w12 g len (markL 1 len)) := Lib.hid (G11.out.below (m12.below (Nat.le_refl _)) G11.out.1)
  have F12 : Hid (FreeRow w12 b0 len L0) := Lib.hid (F11.out.below (m12.below (Nat.le_refl _)) F11.out.1)
  clear m12 G11 F11
  go_wp2_with fail
  refine (implSort_ok _ _ bs _ hl HN.out HW.out (Y12.out.num HQ.out)).mono ?_
  rintro e w13 ⟨g3, c3, L3, rfl, sc3, _, f13, d13⟩
  have SC3 := Lib.hid sc3
  have H13 := Lib.hid f13
  have b13 : Hid (Below w.heap.size w w13) := Lib.hid (b12.out.trans (d13.mono b12.out.size))
  have G13 : Hid (FreeRow w13 g len (markL 1 len)) := Lib.hid (G12.out.below d13 G12.out.1)
  have F13 : Hid (FreeRow w13 b0 len L0) := Lib.hid (F12.out.below d13 F12.out.1)
  clear sc3 f13 d13 G12 F12 Y12
  go_wp2_with fail
  refine (eqF2_any _ _ _ _ _ L3 L0 _ HL.out (copies_alike SC3.out SC0.out HW.out) (cells_of H13.out) (cells_of F13.out)).mono ?_
  rintro e w14 ⟨rfl, d14⟩
  have b14 : Hid (Below w.heap.size w w14) := Lib.hid (b13.out.trans (DrewSame.below d14))
  have G14 : Hid (FreeRow w14 g len (markL 1 len)) := Lib.hid (G13.out.below (DrewSame.below d14) G13.out.1)
  clear d14 G13 F13 H13
  go_wp2_with fail
  refine (held_any _ _ _ _ hl G14.out).mono ?_
  rintro e w15 ⟨rfl, d15⟩
  have b15 : Hid (Below w.heap.size w w15) := Lib.hid (b14.out.trans d15.below)
  clear d15
  go_wp2
  go_ret
  exact ⟨rfl, b15.out⟩
set_option maxHeartbeats 4000000 in
set_option maxRecDepth 8000 in
theorem sortWalk_long (a : Option Addr) (len cap : Nat) (bs : List Nat) (w : World) (h : FRow w a len bs) (hl : 256 < len) (hl2 : len ≤ 1048576) :
    Calls Try.prog 6 #[.slice a len cap] w fun e w' => e = .returned (.bool true) ∧ Below w.heap.size w w' := by
  have hl' : decide ((1048576 : Int) < len) = false := by simp; omega
  have HL := Lib.hid hl2
  have HG := Lib.hid hl
  have HF := Lib.hid h
  have HQ : Hid (∀ i, i < len → W32 (bs[i]?.getD 0)) := Lib.hid h.2.1
  clear h
  go_enter Try.func6, Try.ntmps6
  go_wp2_with fail
  refine (toF_made _ _ _ _ _ HF.out HL.out).mono ?_
  rintro e w1 ⟨rfl, m1⟩
  have b1 : Hid (Below w.heap.size w w1) := Lib.hid (m1.below (Nat.le_refl _))
  clear m1
  go_wp2_with fail
  refine (specSort_long _ _ _ HG.out HL.out).mono ?_
  rintro e w2 ⟨rfl, hw2⟩
  have b2 : Hid (Below w.heap.size w w2) := Lib.hid (by rw [← hw2]; exact b1.out.alloc b1.out.size _)
  clear hw2
  go_wp2_with fail
  refine (toF_made _ _ _ _ _ (HF.out.later b2.out) HL.out).mono ?_
  rintro e w3 ⟨rfl, m3⟩
  have b3 : Hid (Below w.heap.size w w3) := Lib.hid (b2.out.trans (m3.below b2.out.size))
  have X3 : Hid (FreeRow w3 w2.heap.size len bs) := Lib.hid (free_made m3)
  have ZZ : Hid (w.heap.size ≤ w2.heap.size) := Lib.hid b2.out.size
  clear m3
  go_wp2_with fail
  refine (implSort_long _ _ _ HG.out HL.out).mono ?_
  rintro e w4 ⟨rfl, rfl⟩
  go_wp2_with fail
  refine (eqF_none _ _ _ _ _).mono ?_
  rintro e w5 ⟨rfl, rfl⟩
  go_wp2_with fail
  refine (toF_made _ _ _ _ _ (HF.out.later b3.out) HL.out).mono ?_
  rintro e w6 ⟨rfl, m6⟩
  have b6 : Hid (Below w.heap.size w w6) := Lib.hid (b3.out.trans (m6.below b3.out.size))
  have Y6 : Hid (FreeRow w6 w3.heap.size len bs) := Lib.hid (free_made m6)
  have X6 : Hid (FreeRow w6 w2.heap.size len bs) := Lib.hid (X3.out.below (m6.below (Nat.le_refl _)) X3.out.1)
  clear m6 X3
  go_wp2_with fail
  refine (eqF2_any _ _ _ _ _ bs bs _ HL.out self_alike (cells_of X6.out) (cells_of Y6.out)).mono ?_
  rintro e w7 ⟨rfl, d7⟩
  have b7 : Hid (Below w.heap.size w w7) := Lib.hid (b6.out.trans (DrewSame.below d7))
  have X7 : Hid (FreeRow w7 w2.heap.size len bs) := Lib.hid (X6.out.below (DrewSame.below d7) X6.out.1)
  clear d7 X6 Y6
  go_wp2_with fail
  refine (mark_long _ _ _ bs _ HL.out X7.out).mono ?_
  rintro e w8 ⟨rfl, o8⟩
  have b8 : Hid (Below w.heap.size w w8) := Lib.hid (b7.out.trans (o8.below ZZ.out b7.out.size))
  clear o8 X7
  go_wp2_with fail
  refine (eqF_none _ _ _ _ _).mono ?_
  rintro e w9 ⟨rfl, rfl⟩
  go_wp2_with fail
  refine (mark_none _ _ _).mono ?_
  rintro e w10 ⟨rfl, rfl⟩
  go_wp2_with fail
  refine (held_none _ _ _).mono ?_
  rintro e w11 ⟨rfl, rfl⟩
  go_wp2_with fail
  refine (toF_made _ _ _ _ _ (HF.out.later b8.out) HL.out).mono ?_
  rintro e w12 ⟨rfl, m12⟩
  have b12 : Hid (Below w.heap.size w w12) := Lib.hid (b8.out.trans (m12.below b8.out.size))
  clear m12
  go_wp2_with fail
  refine (implSort_long _ _ _ HG.out HL.out).mono ?_
  rintro e w13 ⟨rfl, rfl⟩
  go_wp2_with fail
  refine (eqF_none _ _ _ _ _).mono ?_
  rintro e w14 ⟨rfl, rfl⟩
  go_wp2_with fail
  refine (held_none _ _ _).mono ?_
  rintro e w15 ⟨rfl, rfl⟩
  go_wp2
  go_ret
  exact ⟨rfl, b12.out⟩
theorem fnExactSortReals_walk (a : Option Addr) (len cap : Nat) (bs : List Nat) (w : World) (h : FRow w a len bs) :
    Calls Try.prog 6 #[.slice a len cap] w fun e w' => e = .returned (.bool true) ∧ Below w.heap.size w w' := by
  by_cases h1 : len ≤ 256
  · exact sortWalk_ok a len cap bs w h h1
  · by_cases h2 : len ≤ 1048576
    · exact sortWalk_long a len cap bs w h (by omega) h2
    · have hl' : decide ((1048576 : Int) < len) = true := by simp; omega
      clear h h1 h2
      go_enter Try.func6, Try.ntmps6
      go_wp2
      go_ret
      exact ⟨rfl, Below.refl _ _⟩
end Go.Proofs.Ytgjejolfkfpobaa
