/-
  CONTRACTS: slices.Concat of two rows of letters; JoinReduced.
-/
import Derived.Test.YtdcphheeapmjcaaIcc
namespace Go.Proofs.Ytdcphheeapmjcaa
open Go.ChangeShapes Go.WideShapes Go.ChangeAt Go.RowKit
open Wd
set_option maxRecDepth 100000 in
set_option maxHeartbeats 2000000 in
theorem lconcat_any (g : Nat) (v1 v2 : Value) (a b : List UInt8) (ha : a.length ≤ 2000000) (hb : b.length ≤ 2000000) (w : World) (hg : g < w.heap.size) (h0 : w.cell? ⟨g, 0, none⟩ = some v1) (h1 : w.cell? ⟨g, 1, none⟩ = some v2) (r1 : LRow w.heap.size w v1 a) (r2 : LRow w.heap.size w v2 b) :
    Calls Try.prog 78 #[.slice (some ⟨g, 0, none⟩) 2 2] w (LetPost (a ++ b) w) := by
  obtain ⟨a1, c1, rfl⟩ := r1.len
  obtain ⟨a2, c2, rfl⟩ := r2.len
  have ha' : (a.length : Int) ≤ 2000000 := by omega
  have hb' : (b.length : Int) ≤ 2000000 := by omega
  have t1 : decide ((a.length : Int) + (b.length : Int) < 0) = false := by simp; omega
  have R1 := Lib.hid r1
  have R2 := Lib.hid r2
  clear r1 r2
  go_enter Try.func78, Try.ntmps78
  go_wp2
  refine wp_loop_rounds 3 ?_
  rw [rounds_succ]
  go_wp2
  rw [rounds_succ]
  go_wp2
  rw [rounds_succ]
  go_wp2_with fail
  refine (lgrow_any _ (a.length + b.length) (by omega) (by omega) w).mono ?_
  rintro e w1 ⟨v, rfl, O, B⟩
  have hs := B.size
  have h0' := (B.cell (p := ⟨g, 0, none⟩) hg).trans h0
  have h1' := (B.cell (p := ⟨g, 1, none⟩) hg).trans h1
  obtain ⟨v3, w3, hr3, O3, G3⟩ := run_append_row 71 v [] O _ a (R1.out.below B) (by simp; omega) B.size
  have B3 := B.trans (grown_below O G3 B.size)
  have h0'' := (B3.cell (p := ⟨g, 0, none⟩) hg).trans h0
  have h1'' := (B3.cell (p := ⟨g, 1, none⟩) hg).trans h1
  obtain ⟨v4, w4, hr4, O4, G4⟩ := run_append_row 71 v3 _ O3 _ b (R2.out.below B3) (by simp; omega) B3.size
  have B4 := B3.trans (grown_below O3 G4 B3.size)
  have P : Hid (LetPost (a ++ b) w (.returned v4) w4) := Lib.hid ⟨v4, rfl, O4, B4⟩
  clear O O3 O4 G3 G4 B B3 B4 R1 R2
  go_wp2
  refine wp_loop_rounds 3 ?_
  rw [rounds_succ]
  go_wp2_with (at_builtin; refine Lib.wpList_append_run _ rfl _ _ _ _ rfl _ _ rfl rfl _ _ hr3 ?_)
  rw [rounds_succ]
  go_wp2_with (at_builtin; refine Lib.wpList_append_run _ rfl _ _ _ _ rfl _ _ rfl rfl _ _ hr4 ?_)
  rw [rounds_succ]
  go_wp2
  go_ret
  exact P.out
theorem ijoin_any (u v : List UInt8) (hu : u.length ≤ 4000000) (hv : v.length ≤ 4000000) (w : World) :
    Calls Try.prog 40 #[.string (txt u), .string (txt v)] w (TextPost (if wordB u && wordB v then (if (red (u ++ v)).length ≤ 40 then red (u ++ v) else []) else []) (if wordB u && wordB v then (if (red (u ++ v)).length ≤ 40 then 0 else 3) else 1) w) := by
  cases h : wordB u && wordB v
  · have hw := Lib.hid (words_no u v hu hv h)
    go_enter Try.func40, Try.ntmps40
    go_wp2_with (go_at_call 77; refine (hw.out _).mono ?_; rintro e w' ⟨⟨v1, v2, rfl⟩, B⟩)
    go_ret2
    exact ⟨rfl, B⟩
  · rw [Bool.and_eq_true] at h
    have hw := Lib.hid (words_yes u v h.1 h.2)
    have LU := wordB_len h.1
    have LV := wordB_len h.2
    have HL : Hid (∀ c ∈ u ++ v, isL c = true) := Lib.hid fun c hc => (List.mem_append.1 hc).elim (wordB_lets h.1 c) (wordB_lets h.2 c)
    have HR := Lib.hid (red_letters HL.out)
    have hrl : (red (u ++ v)).length ≤ 80 := by have := red_length (u ++ v); simp at this; omega
    clear hu hv h
    have hlim : Hid (∀ v3 w, LRow w.heap.size w v3 (red (u ++ v)) → Calls Try.prog 72 #[v3] w (TextPost (if (red (u ++ v)).length ≤ 40 then red (u ++ v) else []) (if (red (u ++ v)).length ≤ 40 then 0 else 3) w)) := Lib.hid fun v3 w h => ilimited_any v3 (red (u ++ v)) HR.out (by omega) w h
    show Calls _ _ _ _ (TextPost (if (red (u ++ v)).length ≤ 40 then red (u ++ v) else []) (if (red (u ++ v)).length ≤ 40 then 0 else 3) w)
    generalize (if (red (u ++ v)).length ≤ 40 then red (u ++ v) else []) = R at hlim ⊢
    generalize (if (red (u ++ v)).length ≤ 40 then (0 : Int) else 3) = C at hlim ⊢
    go_enter Try.func40, Try.ntmps40
    go_wp2_with fail
    refine (hw.out _).mono ?_
    rintro e w1 ⟨v1, v2, rfl, r1, r2, b⟩
    have B := Lib.hid b
    obtain ⟨x1, y1, rfl⟩ := r1.len
    obtain ⟨x2, y2, rfl⟩ := r2.len
    have A : Below w1.heap.size w1 (w1.alloc (.cells #[.slice x1 u.length y1, .slice x2 v.length y2] 71)) := (Below.refl _ _).alloc (Nat.le_refl _) _
    have hcc := Lib.hid (lconcat_any w1.heap.size _ _ u v (by omega) (by omega) (w1.alloc (.cells #[.slice x1 u.length y1, .slice x2 v.length y2] 71)) (by simp) (by simp) (by simp) ((r1.below A).up (by simp)) ((r2.below A).up (by simp)))
    have AB : Hid (Below w.heap.size w (w1.alloc (.cells #[.slice x1 u.length y1, .slice x2 v.length y2] 71))) := Lib.hid (B.out.alloc B.out.size _)
    clear r1 r2 b A hw
    go_wp2_with fail
    refine hcc.out.mono ?_
    rintro e w2 ⟨v3, rfl, O3, B3⟩
    have C3 : Hid (Below w.heap.size w w2) := Lib.hid (AB.out.trans (B3.mono AB.out.size))
    have hr := Lib.hid (lreduced_any v3 (u ++ v) HL.out (by simp; omega) w2 O3.row)
    clear O3 B3 hcc AB
    go_wp2_with fail
    refine hr.out.mono ?_
    rintro e w3 ⟨v4, rfl, O4, B4⟩
    have C4 : Hid (Below w.heap.size w w3) := Lib.hid (C3.out.trans (B4.mono C3.out.size))
    have ht := Lib.hid (hlim.out v4 w3 O4.row)
    clear O4 B4 hr C3
    go_wp2_with fail
    refine ht.out.mono ?_
    rintro e w4 ⟨rfl, B5⟩
    go_wp2
    go_ret2
    exact ⟨rfl, C4.out.trans (B5.mono C4.out.size)⟩
end Go.Proofs.Ytdcphheeapmjcaa
