/-
  CONTRACT: FrameOf by the program, given its sort.
-/
import Derived.Test.YthfmkejdpflpcaaNc
import Derived.Deep.DeepCutAuto
namespace Go.Proofs.Ythfmkejdpflpcaa
open Go.ChangeShapes Go.WideShapes Go.ChangeAt Go.RowKit
theorem two_far {B : Nat} {w w3 : World} {gl gh : Nat} (h : gl < w3.heap.size) : gl ≠ w3.heap.size := by omega
set_option maxRecDepth 100000 in
set_option maxHeartbeats 8000000 in
theorem iFrame_any (SF : SortsP) (a : Option Addr) (n cap : Nat) (f : Nat → Int) (w : World) (hn : n ≤ 1048576) (h : BlR w.heap.size w a n f) (hf : BlF n f) :
    Calls Try.prog 39 #[.slice a n cap] w (FqPost f n w) := by
  unfold FqPost
  have TA := Lib.hid (two_allocs w (.cells #[.int .i32 0, .int .i32 0] CO) (.cells #[.int .i32 0, .int .i32 0] CO))
  cases hv : validP f n with
  | false =>
    have NO : Hid (∀ W, Below w.heap.size w W → Calls Try.prog 64 #[.slice a n cap] W fun e w' => e = .returned (.tuple #[.agg #[.slice none 0 0, .map none], .int .i64 1]) ∧ Below W.heap.size W w') := Lib.hid fun W hW => readP_no a n cap f W hn (h.below hW hW.size) hf hv
    have E2 : fqC f n = 1 := by unfold fqC; rw [hv]; exact if_neg (by decide)
    rw [E2]
    clear hv E2 h hf hn SF
    go_enter Try.func39, Try.ntmps39
    go_wp2_with fail
    generalize (w.alloc (.cells #[.int .i32 0, .int .i32 0] CO)).alloc (.cells #[.int .i32 0, .int .i32 0] CO) = w1 at TA ⊢
    refine (NO.out _ TA.out.2.2.1).mono ?_
    rintro e w2 ⟨rfl, b⟩
    have s1 := TA.out.2.2.2
    have B2 := Lib.hid (TA.out.2.2.1.trans (b.mono TA.out.2.2.1.size))
    have R0 := Lib.hid ((b.block w.heap.size (by omega)).trans TA.out.1)
    have R1 := Lib.hid ((b.block (w.heap.size + 1) (by omega)).trans TA.out.2.1)
    have z2 : w.heap.size + 1 < w2.heap.size := Nat.lt_of_lt_of_le (by omega) b.size
    clear b NO TA s1
    obtain ⟨w4, hw4⟩ : ∃ x, w2.alloc (.cells #[.slice none 0 0, .map none] 82) = x := ⟨_, rfl⟩
    have R4 : Hid (w4.heap[w2.heap.size]? = some (.cells #[.slice none 0 0, .map none] 82 (0, 0))) := Lib.hid (by rw [← hw4]; exact World.alloc_heap_new w2 _)
    have SR : Hid (w4.setRow w2.heap.size #[.slice none 0 0, .map none] = w4) := Lib.hid (setRow_self _ _ _ _ _ R4.out)
    have b4 : Below w2.heap.size w2 w4 := by rw [← hw4]; exact (Below.refl _ _).alloc (Nat.le_refl _) _
    have B4 : Hid (Below w.heap.size w w4) := Lib.hid (B2.out.trans (b4.mono B2.out.size))
    have S0 := Lib.hid ((b4.block w.heap.size (by omega)).trans R0.out)
    have S1 := Lib.hid ((b4.block (w.heap.size + 1) (by omega)).trans R1.out)
    have z4 : w.heap.size + 1 < w4.heap.size := Nat.lt_of_lt_of_le z2 b4.size
    have z1 : w.heap.size < w4.heap.size := by omega
    have c0 : w4.cell? ⟨w.heap.size, 0, none⟩ = some (.int .i32 0) := Lib.cell_of_heap S0.out 0
    have c1 : w4.cell? ⟨w.heap.size, 1, none⟩ = some (.int .i32 0) := Lib.cell_of_heap S0.out 1
    have f0 : w4.frozen? ⟨w.heap.size, 0, none⟩ = false := Lib.frozen_of_heap S0.out 0
    have f1 : w4.frozen? ⟨w.heap.size, 1, none⟩ = false := Lib.frozen_of_heap S0.out 1
    have d0 : w4.cell? ⟨w.heap.size + 1, 0, none⟩ = some (.int .i32 0) := Lib.cell_of_heap S1.out 0
    have d1 : w4.cell? ⟨w.heap.size + 1, 1, none⟩ = some (.int .i32 0) := Lib.cell_of_heap S1.out 1
    have g0 : w4.frozen? ⟨w.heap.size + 1, 0, none⟩ = false := Lib.frozen_of_heap S1.out 0
    have g1 : w4.frozen? ⟨w.heap.size + 1, 1, none⟩ = false := Lib.frozen_of_heap S1.out 1
    clear R0 R1 S0 S1 B2 b4
    go_wp2_with (refine wpList_store_row rfl 82 _ _ rfl w2.heap.size #[.slice none 0 0, .map none] rfl rfl 82 _ R4.out (pic_info _ rfl) rfl (row2_one _ _ _ _) ?_; rw [SR.out])
    refine bodyPost_ret (v := .tuple #[.agg #[.int .i32 0, .int .i32 0], .agg #[.int .i32 0, .int .i32 0], .int .i64 1]) ?_ rfl ⟨[], rfl, fun h => absurd h (by decide), ?_⟩
    · simp [results, Try.results39, go_sem, c0, c1, d0, d1]
    · exact (((B4.out.setCell (p := ⟨w.heap.size, _, none⟩) (by simp) _).setCell (p := ⟨w.heap.size, _, none⟩) (by simp) _).setCell (p := ⟨w.heap.size + 1, _, none⟩) (by simp) _).setCell (p := ⟨w.heap.size + 1, _, none⟩) (by simp) _
  | true =>
    have YES : Hid (∀ W, Below w.heap.size w W → Calls Try.prog 64 #[.slice a n cap] W fun e w' => ∃ b, e = .returned (.tuple #[.agg #[.slice a n cap, .map (some b)], .int .i64 0]) ∧ MapM b n (shF f n) w' ∧ Below W.heap.size W w') := Lib.hid fun W hW => readP_yes a n cap f W hn (h.below hW hW.size) hf hv
    have CE : Hid (∀ W, Below w.heap.size w W → Calls Try.prog 66 #[.slice a n cap] W fun e w' => ∃ a2 c2 L, e = .returned (.slice a2 (cntF f n) c2) ∧ IsC f n L ∧ OW W.heap.size (.slice a2 (cntF f n) c2) L w' ∧ Below W.heap.size W w') := Lib.hid fun W hW => (callsIn_wide.1 (icellsP_in Fence.wide rfl 3 (Nat.le_refl _) a n cap f W hv (h.below hW hW.size) hf SF)).mono fun e w' ⟨v, L, he, h1, h2, h3, h4⟩ => by
      obtain ⟨a2, c2, rfl⟩ := ow_len h3
      have hl : L.length = cntF f n := (show IsC f n L from ⟨h1, h2⟩).len
      rw [hl] at he h3
      exact ⟨a2, c2, L, he, ⟨h1, h2⟩, by unfold OW; rw [hl]; exact h3, h4⟩
    have HC := cntF_le f n
    have h64 := validP_le hv
    have cB : (cntF f n : Int) ≤ 16384 := by omega
    have E3 : fqC f n = if cntF f n = 0 then 6 else 0 := by unfold fqC; rw [hv]; rfl
    have HL : Hid (∀ L, IsC f n L → L.length = cntF f n) := Lib.hid fun L h => h.len
    rw [E3]
    clear hv h hf hn HC h64 E3 SF
    generalize cntF f n = c at CE HL cB ⊢
    by_cases hc : c = 0
    · subst hc
      rw [if_pos rfl]
      go_enter Try.func39, Try.ntmps39
      go_wp2_with fail
      generalize (w.alloc (.cells #[.int .i32 0, .int .i32 0] CO)).alloc (.cells #[.int .i32 0, .int .i32 0] CO) = w1 at TA ⊢
      refine (YES.out _ TA.out.2.2.1).mono ?_
      rintro e w2 ⟨b0, rfl, hm, b⟩
      have s1 := TA.out.2.2.2
      have B2 := Lib.hid (TA.out.2.2.1.trans (b.mono TA.out.2.2.1.size))
      have R0 := Lib.hid ((b.block w.heap.size (by omega)).trans TA.out.1)
      have R1 := Lib.hid ((b.block (w.heap.size + 1) (by omega)).trans TA.out.2.1)
      have z2 : w.heap.size + 1 < w2.heap.size := Nat.lt_of_lt_of_le (by omega) b.size
      clear b YES TA s1 hm
      obtain ⟨w3, hw3⟩ : ∃ x, w2.alloc (.cells #[.slice none 0 0, .map none] 82) = x := ⟨_, rfl⟩
      have R3 : Hid (w3.heap[w2.heap.size]? = some (.cells #[.slice none 0 0, .map none] 82 (0, 0))) := Lib.hid (by rw [← hw3]; exact World.alloc_heap_new w2 _)
      obtain ⟨w4, hw4⟩ : ∃ x, w3.setRow w2.heap.size #[.slice a n cap, .map (some b0)] = x := ⟨_, rfl⟩
      have R4 : Hid (w4.heap[w2.heap.size]? = some (.cells #[.slice a n cap, .map (some b0)] 82 (0, 0))) := Lib.hid (by rw [← hw4]; exact setRow_heap _ _ _ _ _ _ R3.out)
      have b4 : Below w2.heap.size w2 w4 := by rw [← hw4, ← hw3]; exact below_setRow ((Below.refl _ _).alloc (Nat.le_refl _) _) (Nat.le_refl _) _
      have B4 := Lib.hid (B2.out.trans (b4.mono B2.out.size))
      have S0 := Lib.hid ((b4.block w.heap.size (by omega)).trans R0.out)
      have S1 := Lib.hid ((b4.block (w.heap.size + 1) (by omega)).trans R1.out)
      have z4 : w.heap.size + 1 < w4.heap.size := Nat.lt_of_lt_of_le z2 b4.size
      have cp : w4.cell? ⟨w2.heap.size, 0, none⟩ = some (.slice a n cap) := Lib.cell_of_heap R4.out 0
      clear b4 R0 R1 B2
      go_wp2_with (refine wpList_store_row rfl 82 _ _ rfl w2.heap.size #[.slice a n cap, .map (some b0)] rfl rfl 82 _ R3.out (pic_info _ rfl) rfl (row2_one _ _ _ _) ?_; rw [hw4])
      refine (CE.out _ B4.out).mono ?_
      rintro e w5 ⟨a2, c2, L, rfl, hL, ho, b⟩
      have B5 := Lib.hid (B4.out.trans (b.mono B4.out.size))
      have O5 := Lib.hid ho
      have L5 := Lib.hid hL
      have T0 := Lib.hid ((b.block w.heap.size (by omega)).trans S0.out)
      have T1 := Lib.hid ((b.block (w.heap.size + 1) (by omega)).trans S1.out)
      have z5 : w.heap.size + 1 < w5.heap.size := Nat.lt_of_lt_of_le z4 b.size
      have LL := HL.out L hL
      clear b CE ho hL S0 S1 B4 HL R3 R4 cp hw3 hw4 z4 z2
      have z1 : w.heap.size < w5.heap.size := by omega
      have c0 : w5.cell? ⟨w.heap.size, 0, none⟩ = some (.int .i32 0) := Lib.cell_of_heap T0.out 0
      have c1 : w5.cell? ⟨w.heap.size, 1, none⟩ = some (.int .i32 0) := Lib.cell_of_heap T0.out 1
      have f0 : w5.frozen? ⟨w.heap.size, 0, none⟩ = false := Lib.frozen_of_heap T0.out 0
      have f1 : w5.frozen? ⟨w.heap.size, 1, none⟩ = false := Lib.frozen_of_heap T0.out 1
      have d0 : w5.cell? ⟨w.heap.size + 1, 0, none⟩ = some (.int .i32 0) := Lib.cell_of_heap T1.out 0
      have d1 : w5.cell? ⟨w.heap.size + 1, 1, none⟩ = some (.int .i32 0) := Lib.cell_of_heap T1.out 1
      have g0 : w5.frozen? ⟨w.heap.size + 1, 0, none⟩ = false := Lib.frozen_of_heap T1.out 0
      have g1 : w5.frozen? ⟨w.heap.size + 1, 1, none⟩ = false := Lib.frozen_of_heap T1.out 1
      clear T0 T1 O5 L5 LL
      go_wp2
      refine bodyPost_ret (v := .tuple #[.agg #[.int .i32 0, .int .i32 0], .agg #[.int .i32 0, .int .i32 0], .int .i64 6]) ?_ rfl ⟨[], rfl, fun h => absurd h (by decide), ?_⟩
      · simp [results, Try.results39, go_sem, c0, c1, d0, d1]
      · exact (((B5.out.setCell (p := ⟨w.heap.size, _, none⟩) (by simp) _).setCell (p := ⟨w.heap.size, _, none⟩) (by simp) _).setCell (p := ⟨w.heap.size + 1, _, none⟩) (by simp) _).setCell (p := ⟨w.heap.size + 1, _, none⟩) (by simp) _
    · rw [if_neg hc]
      go_enter Try.func39, Try.ntmps39
      go_wp2_with fail
      generalize (w.alloc (.cells #[.int .i32 0, .int .i32 0] CO)).alloc (.cells #[.int .i32 0, .int .i32 0] CO) = w1 at TA ⊢
      refine (YES.out _ TA.out.2.2.1).mono ?_
      rintro e w2 ⟨b0, rfl, hm, b⟩
      have s1 := TA.out.2.2.2
      have B2 := Lib.hid (TA.out.2.2.1.trans (b.mono TA.out.2.2.1.size))
      have R0 := Lib.hid ((b.block w.heap.size (by omega)).trans TA.out.1)
      have R1 := Lib.hid ((b.block (w.heap.size + 1) (by omega)).trans TA.out.2.1)
      have z2 : w.heap.size + 1 < w2.heap.size := Nat.lt_of_lt_of_le (by omega) b.size
      clear b YES TA s1 hm
      obtain ⟨w3, hw3⟩ : ∃ x, w2.alloc (.cells #[.slice none 0 0, .map none] 82) = x := ⟨_, rfl⟩
      have R3 : Hid (w3.heap[w2.heap.size]? = some (.cells #[.slice none 0 0, .map none] 82 (0, 0))) := Lib.hid (by rw [← hw3]; exact World.alloc_heap_new w2 _)
      obtain ⟨w4, hw4⟩ : ∃ x, w3.setRow w2.heap.size #[.slice a n cap, .map (some b0)] = x := ⟨_, rfl⟩
      have R4 : Hid (w4.heap[w2.heap.size]? = some (.cells #[.slice a n cap, .map (some b0)] 82 (0, 0))) := Lib.hid (by rw [← hw4]; exact setRow_heap _ _ _ _ _ _ R3.out)
      have b4 : Below w2.heap.size w2 w4 := by rw [← hw4, ← hw3]; exact below_setRow ((Below.refl _ _).alloc (Nat.le_refl _) _) (Nat.le_refl _) _
      have B4 := Lib.hid (B2.out.trans (b4.mono B2.out.size))
      have S0 := Lib.hid ((b4.block w.heap.size (by omega)).trans R0.out)
      have S1 := Lib.hid ((b4.block (w.heap.size + 1) (by omega)).trans R1.out)
      have z4 : w.heap.size + 1 < w4.heap.size := Nat.lt_of_lt_of_le z2 b4.size
      have cp : w4.cell? ⟨w2.heap.size, 0, none⟩ = some (.slice a n cap) := Lib.cell_of_heap R4.out 0
      clear b4 R0 R1 B2
      go_wp2_with (refine wpList_store_row rfl 82 _ _ rfl w2.heap.size #[.slice a n cap, .map (some b0)] rfl rfl 82 _ R3.out (pic_info _ rfl) rfl (row2_one _ _ _ _) ?_; rw [hw4])
      refine (CE.out _ B4.out).mono ?_
      rintro e w5 ⟨a2, c2, L, rfl, hL, ho, b⟩
      have B5 := Lib.hid (B4.out.trans (b.mono B4.out.size))
      have O5 := Lib.hid ho
      have L5 := Lib.hid hL
      have T0 := Lib.hid ((b.block w.heap.size (by omega)).trans S0.out)
      have T1 := Lib.hid ((b.block (w.heap.size + 1) (by omega)).trans S1.out)
      have z5 : w.heap.size + 1 < w5.heap.size := Nat.lt_of_lt_of_le z4 b.size
      have LL := HL.out L hL
      clear b CE ho hL S0 S1 B4 HL R3 R4 cp hw3 hw4 z4 z2
      have hc0 : 0 < c := by omega
      obtain ⟨g, rfl, hg, hcell⟩ := ow_cell O5.out LL.symm hc0
      have tc0 : ((c : Int) == 0) = false := by simpa using hc
      have tc1 : (0 : Int) < (c : Int) := by omega
      have HCE := Lib.hid hcell
      have p0 : w5.cell? ⟨g, 0, none⟩ = some (.int .i32 (pk L[0]! 0)) := hcell 0 0 hc0 (by omega)
      have p1 : w5.cell? ⟨g, 1, none⟩ = some (.int .i32 (pk L[0]! 1)) := hcell 0 1 hc0 (by omega)
      have HG := Lib.hid hg
      have HC0 := Lib.hid hc0
      have LN := Lib.hid LL
      clear hc hcell LL O5 hc0
      have RL : ∀ m : List (Int × Int) → Nat → Nat → Int, (∀ k, m L k 0 = pk L[0]! k) → arr .i32 2 (lwF (m L) 0 0) = #[.int .i32 (pk L[0]! 0), .int .i32 (pk L[0]! 1)] := fun m hm => by
        rw [arr2]
        show #[Value.int .i32 (lwF (m L) 0 0 0), Value.int .i32 (lwF (m L) 0 0 1)] = _
        unfold lwF
        rw [if_neg (by omega), if_neg (by omega), hm, hm]
      have RLo := Lib.hid (RL mnF fun _ => rfl)
      have RHi := Lib.hid (RL mxF fun _ => rfl)
      clear RL
      obtain ⟨q0, hq0⟩ : ∃ z, pk L[0]! 0 = z := ⟨_, rfl⟩
      obtain ⟨q1, hq1⟩ : ∃ z, pk L[0]! 1 = z := ⟨_, rfl⟩
      rw [hq0] at p0 RLo RHi
      rw [hq1] at p1 RLo RHi
      clear hq0 hq1
      go_upto_region 7 with fail
      go_cut [8, 9] (fun v8 v9 wx => ∃ gl gh, v8 = .pointer (some ⟨gl, 0, none⟩) ∧ v9 = .pointer (some ⟨gh, 0, none⟩) ∧ gl ≠ gh ∧ w5.heap.size ≤ gl ∧ w5.heap.size ≤ gh ∧ Hid (wx.heap[gl]? = some (.cells #[.int .i32 q0, .int .i32 q1] CO (0, 0))) ∧ Hid (wx.heap[gh]? = some (.cells #[.int .i32 q0, .int .i32 q1] CO (0, 0))) ∧ Hid (Below w5.heap.size w5 wx))
      case first =>
        go_region
        all_goals (go_wp2_with fail; go_meet; case rel => first | exact ⟨w5.heap.size, w5.heap.size + 1, rfl, rfl, by omega, Nat.le_refl _, Nat.le_succ _, Lib.hid (two_allocs w5 _ _).1, Lib.hid (two_allocs w5 _ _).2.1, Lib.hid (belowN (two_allocs w5 _ _).2.2.1)⟩ | exact ⟨w5.heap.size + 1, w5.heap.size, rfl, rfl, by omega, Nat.le_succ _, Nat.le_refl _, Lib.hid (two_allocs w5 _ _).2.1, Lib.hid (two_allocs w5 _ _).1, Lib.hid (belowN (two_allocs w5 _ _).2.2.1)⟩)
      case rest =>
        obtain ⟨gl, gh, rfl, rfl, glh, hgl, hgh, KL, KH, B6⟩ := hcut
        have Lo : Hid (wc.heap[gl]? = some (.cells (arr .i32 2 (lwF (mnF L) 0 0)) CO (0, 0))) := Lib.hid (by rw [RLo.out]; exact KL.out)
        have Hi : Hid (wc.heap[gh]? = some (.cells (arr .i32 2 (lwF (mxF L) 0 0)) CO (0, 0))) := Lib.hid (by rw [RHi.out]; exact KH.out)
        have HGL := Lib.hid hgl
        have HGH := Lib.hid hgh
        clear KL KH RLo RHi tc0 tc1 p0 p1 hg hgl hgh
        go_wp2
        go_loopw [40] (fun vi wr => ∃ i : Nat, i ≤ c ∧ vi = .int .i64 (i : Int) ∧ Hid (wr.heap[gl]? = some (.cells (arr .i32 2 (lwF (mnF L) i 0)) CO (0, 0))) ∧ Hid (wr.heap[gh]? = some (.cells (arr .i32 2 (lwF (mxF L) i 0)) CO (0, 0))) ∧ Hid (Below w5.heap.size w5 wr)) (fun vi _ => c - (intOf vi).toNat)
        case atStart => exact ⟨0, Nat.zero_le _, rfl, Lo, Hi, B6⟩
        case round =>
          obtain ⟨i, hi, rfl, Lo1, Hi1, B7⟩ := hrel
          clear Lo Hi B6
          by_cases hlt : i < c
          · have ti : (i : Int) < (c : Int) := by omega
            have HI := Lib.hid hlt
            have CX : Hid (∀ W, Below w5.heap.size w5 W → ∀ k, k < 2 → W.cell? ⟨g, i * 2 + k, none⟩ = some (.int .i32 (pk L[i]! k))) := Lib.hid fun W hW k hk => (hW.cell (p := ⟨g, i * 2 + k, none⟩) HG.out).trans (HCE.out i k hlt hk)
            have cx0 : wr.cell? ⟨g, i * 2, none⟩ = some (.int .i32 (pk L[i]! 0)) := CX.out wr B7.out 0 (by omega)
            have cx1 : wr.cell? ⟨g, i * 2 + 1, none⟩ = some (.int .i32 (pk L[i]! 1)) := CX.out wr B7.out 1 (by omega)
            have NM : Hid (∀ k, mnF L k (i + 1) = if pk L[i]! k < mnF L k i then pk L[i]! k else mnF L k i) := Lib.hid fun k => rfl
            have NX : Hid (∀ k, mxF L k (i + 1) = if mxF L k i < pk L[i]! k then pk L[i]! k else mxF L k i) := Lib.hid fun k => rfl
            clear CX
            obtain ⟨x0, hx0⟩ : ∃ z, pk L[i]! 0 = z := ⟨_, rfl⟩
            obtain ⟨x1, hx1⟩ : ∃ z, pk L[i]! 1 = z := ⟨_, rfl⟩
            rw [hx0] at cx0
            rw [hx1] at cx1
            have PK : Hid (∀ k, pk L[i]! k = if k = 0 then x0 else x1) := Lib.hid fun k => by
              unfold pk at hx0 hx1 ⊢
              rw [if_pos rfl] at hx0
              rw [if_neg (by decide)] at hx1
              rw [hx0, hx1]
            obtain ⟨w6, hw6⟩ : ∃ x, wr.alloc (.cells #[.int .i32 x0, .int .i32 x1] 45) = x := ⟨_, rfl⟩
            have b6 : Below wr.heap.size wr w6 := by rw [← hw6]; exact (Below.refl _ _).alloc (Nat.le_refl _) _
            have Lo2 := Lib.hid ((b6.block gl (Array.getElem?_eq_some_iff.1 Lo1.out).1).trans Lo1.out)
            have Hi2 := Lib.hid ((b6.block gh (Array.getElem?_eq_some_iff.1 Hi1.out).1).trans Hi1.out)
            have B8 := Lib.hid (B7.out.trans (b6.mono B7.out.size))
            have t0 : w6.cell? ⟨wr.heap.size, 0, none⟩ = some (.int .i32 x0) := by rw [← hw6]; exact Lib.cell_of_heap (World.alloc_heap_new wr _) 0
            have t1 : w6.cell? ⟨wr.heap.size, 1, none⟩ = some (.int .i32 x1) := by rw [← hw6]; exact Lib.cell_of_heap (World.alloc_heap_new wr _) 1
            have ALT : Hid (arr .i32 2 (pk L[i]!) = #[Value.int .i32 x0, Value.int .i32 x1]) := Lib.hid (by rw [arr2, PK.out, PK.out]; rfl)
            clear hx0 hx1 b6 hlt hi Lo1 Hi1 B7 PK
            go_wp2
            go_loopw [45] (fun vk wr => ∃ k : Nat, k ≤ 2 ∧ vk = .int .i64 (k : Int) ∧ Hid (wr.heap[gl]? = some (.cells (arr .i32 2 (lwF (mnF L) i k)) CO (0, 0))) ∧ Hid (wr.heap[gh]? = some (.cells (arr .i32 2 (lwF (mxF L) i k)) CO (0, 0))) ∧ Hid (Below w5.heap.size w5 wr)) (fun vk _ => 2 - (intOf vk).toNat)
            case atStart => exact ⟨0, Nat.zero_le _, rfl, Lo2, Hi2, B8⟩
            case round =>
              clear hw6 t0 t1 cx0 cx1
              obtain ⟨k, hk, rfl, Lo3, Hi3, B9⟩ := hrel
              clear Lo2 Hi2 B8
              by_cases hlk : k < 2
              · have tk : (k : Int) < 2 := by omega
                have HK := Lib.hid hlk
                have al : ∀ W, (Instr.index 45 (.agg #[.int .i32 x0, .int .i32 x1]) (.int .i64 (k : Int))).run Try.prog W = .ok (.int .i32 (pk L[i]! k)) W := fun W => by
                  rw [← ALT.out]
                  exact run_index_arr .i64 _ k Try.underlying45 Try.underlying21 (by kernel_rfl) hlk W
                have cl : wr.cell? ⟨gl, k, none⟩ = some (.int .i32 (mnF L k i)) := (Lib.cell_of_heap Lo3.out k).trans ((arr_get _ _ _ _ hlk).trans (by rw [lw_k]))
                have ch : wr.cell? ⟨gh, k, none⟩ = some (.int .i32 (mxF L k i)) := (Lib.cell_of_heap Hi3.out k).trans ((arr_get _ _ _ _ hlk).trans (by rw [lw_k]))
                have fl : wr.frozen? ⟨gl, k, none⟩ = false := Lib.frozen_of_heap Lo3.out k
                have fh : wr.frozen? ⟨gh, k, none⟩ = false := Lib.frozen_of_heap Hi3.out k
                have n1 := NM.out k
                have n2 := NX.out k
                obtain ⟨z, hz⟩ : ∃ z, pk L[i]! k = z := ⟨_, rfl⟩
                obtain ⟨lo, hlo⟩ : ∃ z, mnF L k i = z := ⟨_, rfl⟩
                obtain ⟨hi, hhi⟩ : ∃ z, mxF L k i = z := ⟨_, rfl⟩
                rw [hz] at al n1 n2
                rw [hlo] at cl n1
                rw [hhi] at ch n2
                have LoW : Hid (∀ W : World, W.heap[gl]? = some (.cells (arr .i32 2 (lwF (mnF L) i k)) CO (0, 0)) → (W.setCell ⟨gl, k, none⟩ (.int .i32 (if z < lo then z else lo))).heap[gl]? = some (.cells (arr .i32 2 (lwF (mnF L) i (k + 1))) CO (0, 0))) := Lib.hid fun W hW => by
                  rw [mset_at hW, arr_set _ _ _ _ _ hlk, ← lw_step, n1]
                have HiW : Hid (∀ W : World, W.heap[gh]? = some (.cells (arr .i32 2 (lwF (mxF L) i k)) CO (0, 0)) → (W.setCell ⟨gh, k, none⟩ (.int .i32 (if hi < z then z else hi))).heap[gh]? = some (.cells (arr .i32 2 (lwF (mxF L) i (k + 1))) CO (0, 0))) := Lib.hid fun W hW => by
                  rw [mset_at hW, arr_set _ _ _ _ _ hlk, ← lw_step, n2]
                clear hz hlo hhi n1 n2 hlk hk
                go_wp2
                go_region
                all_goals go_wp2
                all_goals go_roundw
                all_goals first
                  | exact ⟨k + 1, HK.out, by go_num, Lib.hid ((mset_far glh _).trans (LoW.out _ Lo3.out)), Lib.hid (HiW.out _ ((mset_far (Ne.symm glh) _).trans Hi3.out)), Lib.hid (((B9.out.setCell (p := ⟨gl, k, none⟩) HGL.out _).setCell (p := ⟨gh, k, none⟩) HGH.out _).drew)⟩
                  | exact ⟨k + 1, HK.out, by go_num, Lib.hid (LoW.out _ ((mset_far glh _).trans Lo3.out)), Lib.hid ((mset_far (Ne.symm glh) _).trans (HiW.out _ Hi3.out)), Lib.hid (((B9.out.setCell (p := ⟨gh, k, none⟩) HGH.out _).setCell (p := ⟨gl, k, none⟩) HGL.out _).drew)⟩
                  | (have := HK.out; simp [intOf]; omega)
              · have tk : ¬ (k : Int) < 2 := by omega
                have LoE : Hid (wr.heap[gl]? = some (.cells (arr .i32 2 (lwF (mnF L) (i + 1) 0)) CO (0, 0))) := Lib.hid (by
                  have : k = 2 := by omega
                  subst this
                  rw [← lw_end]; exact Lo3.out)
                have HiE : Hid (wr.heap[gh]? = some (.cells (arr .i32 2 (lwF (mxF L) (i + 1) 0)) CO (0, 0))) := Lib.hid (by
                  have : k = 2 := by omega
                  subst this
                  rw [← lw_end]; exact Hi3.out)
                clear hlk hk Lo3 Hi3
                go_wp2
                go_roundw
                case rel => exact ⟨i + 1, HI.out, by go_num, LoE, HiE, B9⟩
                case measure => have := HI.out; simp [intOf]; omega
          · have ti : ¬ (i : Int) < (c : Int) := by omega
            obtain rfl : i = c := by omega
            have B8 := Lib.hid (B5.out.trans (B7.out.mono B5.out.size))
            have T2 := Lib.hid ((B7.out.block w.heap.size (by omega)).trans T0.out)
            have T3 := Lib.hid ((B7.out.block (w.heap.size + 1) (by omega)).trans T1.out)
            have z8 : w.heap.size + 1 < wr.heap.size := Nat.lt_of_lt_of_le z5 B7.out.size
            have z1 : w.heap.size < wr.heap.size := by omega
            have ny0 : gl ≠ w.heap.size := by have := HGL.out; omega
            have ny1 : gl ≠ w.heap.size + 1 := by have := HGL.out; omega
            have ny2 : gh ≠ w.heap.size := by have := HGH.out; omega
            have ny3 : gh ≠ w.heap.size + 1 := by have := HGH.out; omega
            have c0 : wr.cell? ⟨w.heap.size, 0, none⟩ = some (.int .i32 0) := Lib.cell_of_heap T2.out 0
            have c1 : wr.cell? ⟨w.heap.size, 1, none⟩ = some (.int .i32 0) := Lib.cell_of_heap T2.out 1
            have f0 : wr.frozen? ⟨w.heap.size, 0, none⟩ = false := Lib.frozen_of_heap T2.out 0
            have f1 : wr.frozen? ⟨w.heap.size, 1, none⟩ = false := Lib.frozen_of_heap T2.out 1
            have d0 : wr.cell? ⟨w.heap.size + 1, 0, none⟩ = some (.int .i32 0) := Lib.cell_of_heap T3.out 0
            have d1 : wr.cell? ⟨w.heap.size + 1, 1, none⟩ = some (.int .i32 0) := Lib.cell_of_heap T3.out 1
            have g0 : wr.frozen? ⟨w.heap.size + 1, 0, none⟩ = false := Lib.frozen_of_heap T3.out 0
            have g1 : wr.frozen? ⟨w.heap.size + 1, 1, none⟩ = false := Lib.frozen_of_heap T3.out 1
            have l0 : wr.cell? ⟨gl, 0, none⟩ = some (.int .i32 (mnF L 0 i)) := Lib.cell_of_heap Lo1.out 0
            have l1 : wr.cell? ⟨gl, 1, none⟩ = some (.int .i32 (mnF L 1 i)) := Lib.cell_of_heap Lo1.out 1
            have h0 : wr.cell? ⟨gh, 0, none⟩ = some (.int .i32 (mxF L 0 i)) := Lib.cell_of_heap Hi1.out 0
            have h1 : wr.cell? ⟨gh, 1, none⟩ = some (.int .i32 (mxF L 1 i)) := Lib.cell_of_heap Hi1.out 1
            have LA : Hid (∀ m k, fqV 0 m L k = m L k i) := Lib.hid fun m k => by unfold fqV; rw [if_pos rfl, LN.out]
            clear T0 T1 T2 T3 Lo1 Hi1 hlt hi HCE B7 HG z5 HGL HGH
            go_wp2
            go_region
            all_goals go_wp2
            all_goals refine bodyPost_ret (v := .tuple #[.agg #[.int .i32 (mnF L 0 i), .int .i32 (mnF L 1 i)], .agg #[.int .i32 (mxF L 0 i), .int .i32 (mxF L 1 i)], .int .i64 0]) ?_ rfl ⟨L, by rw [LA.out, LA.out, LA.out, LA.out], fun _ => L5.out, ?_⟩
            all_goals first
              | (simp [results, Try.results39, go_sem, c0, c1, d0, d1, z1, z8]; done)
              | repeat (first | exact B8.out | apply Below.drew | refine Below.setCell ?_ (by simp) _)
end Go.Proofs.Ythfmkejdpflpcaa
