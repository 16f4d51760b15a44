/-
  CONTRACTS: SeekPoint by the program, whole.
-/
import Derived.Test.YtkijgadkgfapgaaYzb
namespace Go.Proofs.Ytkijgadkgfapgaa
open Go.ChangeShapes Go.WideShapes Go.ChangeAt Go.RowKit
theorem ck_pos {f : Nat → Int} {n : Nat} (h : ckC f n = 0) : n ≤ 700 ∧ 1 ≤ n ∧ okAt f 0 0 = true ∧ sgnOk (frK f 0) = true ∧ upK f = 1 ∧ upL f = 8 * upN f := by
  unfold ckC at h
  split at h
  · cases h
  split at h
  · cases h
  split at h
  · cases h
  split at h
  · cases h
  split at h
  · rename_i h1 h2 h3 h4 h5
    exact ⟨by omega, by omega, by simpa using h3, by simpa using h4, h5⟩
  · cases h
/-- a part of the frames -/
theorem FrR.part {B : Nat} {w : World} {g off n p m : Nat} {f : Nat → Int} (h : FrR B w (some ⟨g, off, none⟩) n f) (hp : p + m ≤ n) : FrR B w (some ⟨g, off + 16 * p, none⟩) m fun j => f (16 * p + j) := by
  rcases h with h | ⟨g', off', e, hg, hc⟩
  · exact .inl (by omega)
  · cases e
    refine .inr ⟨g, off + 16 * p, rfl, hg, fun j hj => ?_⟩
    rw [Nat.add_assoc]
    exact hc (16 * p + j) (by omega)
theorem slice_part (g off n cap p q : Nat) (hp : p ≤ q) (hq : q ≤ cap) (hlt : p < cap) (w : World) : (Instr.slice 48 (.slice (some ⟨g, off, none⟩) n cap) (some (.int .i64 (p : Int))) (some (.int .i64 (q : Int))) none).run Try.prog w = .ok (.slice (some ⟨g, off + 16 * p, none⟩) (q - p) (cap - p)) w := by
  have hs : ∀ w, (sizeOf (Try.prog.elem 48)).run Try.prog w = .ok 16 w := fun w => by kernel_rfl
  rw [run_slice_lh (P := Try.prog) (w := w) 48 (some ⟨g, off, none⟩) n cap (by kernel_rfl) .i64 .i64 (p : Int) (q : Int) (by omega) (by omega) (by omega), hs]
  simp only [Result.andThen_ok, sliced]
  simp [Go.WideShapes.add_plain, Nat.mul_comm]
  omega
theorem okAt_shift {f : Nat → Int} {p i : Nat} : okAt (fun j => f (16 * p + j)) (p : Int) i = okAt f 0 (p + i) := by
  unfold okAt frK
  rw [show (p : Int) + (i : Int) = 0 + ((p + i : Nat) : Int) by omega]
  congr 1
  funext j
  show f (16 * p + (i * 16 + j)) = f ((p + i) * 16 + j)
  congr 1
  omega
set_option maxRecDepth 20000 in
set_option maxHeartbeats 8000000 in
theorem iSeek_any (n : Nat) (hn : n ≤ 1048576) (f : Nat → Int) (hf : ByF (16 * n) f) (a : Option Addr) (cap : Nat) (w : World) (h : FrR w.heap.size w a n f) (hk : SlOk a n cap) (k : Int) :
    Calls Try.prog 34 #[.slice a n cap, .int .i64 k] w (SkPost f n k w) := by
  have CT := Lib.hid (count_any n hn f hf a cap w h hk)
  by_cases hc : ckC f n = 0
  · have hck := ck_pos hc
    obtain ⟨h700, h1, -, -, -, -⟩ := hck
    rw [ckV_ok hc] at CT
    have N9 := upN_lt (by_frk0 h1 hf)
    by_cases hr : 0 ≤ k ∧ k < (upN f : Int)
    · obtain ⟨K, rfl⟩ : ∃ K : Nat, k = (K : Int) := ⟨k.toNat, by omega⟩
      have SC : skC f n (K : Int) = skI f n K := by unfold skC; rw [if_pos hc, if_pos hr]; rfl
      have kN : (K : Int) < (upN f : Int) := hr.2
      have k9 : (K : Int) ≤ 4294967295 := by omega
      have kz : ¬ ((K : Int) < 0) := by omega
      obtain ⟨F1, hF1⟩ : ∃ x, skF K = x := ⟨_, rfl⟩
      obtain ⟨L1, hL1⟩ : ∃ x, skL K = x := ⟨_, rfl⟩
      have d1 : 1 + 8 * (K : Int) / 12 = (F1 : Int) := by rw [← hF1]; unfold skF; omega
      have d2 : 1 + (8 * (K : Int) + 8 - 1) / 12 = (L1 : Int) := by rw [← hL1]; unfold skL; omega
      have hFL : F1 ≤ L1 := by rw [← hF1, ← hL1]; unfold skF skL; omega
      have hL2 : L1 ≤ F1 + 1 := by rw [← hF1, ← hL1]; unfold skF skL; omega
      have hF0 : 1 ≤ F1 := by rw [← hF1]; unfold skF; omega
      have HKN := Lib.hid kN
      generalize upN f = N at CT kN N9 HKN hr
      by_cases hl : n ≤ L1
      · have Q : Hid (skC f n (K : Int) = 5) := Lib.hid (by rw [SC]; unfold skI; rw [hL1, if_pos hl])
        have nl : (n : Int) ≤ (L1 : Int) := by omega
        clear h hk hf hc hn hr SC hF1 hL1 hl hFL hL2 hF0
        go_enter Try.func34, Try.ntmps34
        go_wp2_with fail
        refine CT.out.mono ?_
        rintro e w1 ⟨rfl, b⟩
        have B1 := Lib.hid b
        clear b
        go_wp2
        exact bodyPost_ret (v := .tuple #[.complex .f32 0 0, .slice none 0 0, .int .i64 5]) (by simp [results, Try.results34, go_sem]) rfl (SkPost.bad Q.out (by decide) B1.out)
      · have nl : (L1 : Int) < (n : Int) := by omega
        have nl2 : ¬ ((n : Int) ≤ (L1 : Int)) := by omega
        have hpos : n ≠ 0 := by omega
        obtain ⟨g, off, rfl, hg⟩ : ∃ g off, a = some ⟨g, off, none⟩ ∧ g < w.heap.size := by
          rcases h with h | ⟨g, off, e, hg, -⟩
          · exact absurd h hpos
          · exact ⟨g, off, e, hg⟩
        obtain ⟨m, hm⟩ : ∃ x, L1 + 1 - F1 = x := ⟨_, rfl⟩
        have hcap := hk.1
        have HP : Hid (FrR w.heap.size w (some ⟨g, off + 16 * F1, none⟩) m fun j => f (16 * F1 + j)) := Lib.hid (FrR.part h (by omega))
        have sl : ∀ W, (Instr.slice 48 (.slice (some ⟨g, off, none⟩) n cap) (some (.int .i64 (F1 : Int))) (some (.int .i64 ((L1 : Int) + 1))) none).run Try.prog W = .ok (.slice (some ⟨g, off + 16 * F1, none⟩) m (cap - F1)) W := fun W => by
          have := slice_part g off n cap F1 (L1 + 1) (by omega) (by omega) (by omega) W
          rw [hm] at this
          exact this
        have OP : Hid (∀ W, Below w.heap.size w W → Calls Try.prog 64 #[.slice (some ⟨g, off + 16 * F1, none⟩) m (cap - F1), .int .i64 (F1 : Int)] W (ofPost (fun j => f (16 * F1 + j)) (F1 : Int) m W)) := Lib.hid fun W hW =>
          open_any _ m _ _ (F1 : Int) W (by omega) (by omega) (fun j hj => hf _ (by omega)) (HP.out.below hW hW.size)
        have SK : Hid (∀ i, i < m → okAt (fun j => f (16 * F1 + j)) (F1 : Int) i = okAt f 0 (F1 + i)) := Lib.hid fun i _ => okAt_shift
        have SI : Hid (skI f n K = if skS f K then (if okB (skB f K) then 0 else 5) else 8) := Lib.hid (by unfold skI; rw [hL1, if_neg (by omega)])
        have SSE : Hid (skS f K = (okAt f 0 F1 && okAt f 0 L1)) := Lib.hid (by unfold skS; rw [hF1, hL1])
        obtain ⟨p, hp⟩ : ∃ x, 8 * K % 12 = x := ⟨_, rfl⟩
        have d3 : 8 * (K : Int) % 12 = (p : Int) := by omega
        have hpm : p + 8 ≤ 12 * m := by rw [← hp, ← hm, ← hF1, ← hL1]; unfold skF skL; omega
        have BYT : Hid (∀ i, i < 8 → 0 ≤ skB f K i ∧ skB f K i ≤ 255) := Lib.hid fun i hi => hf _ (by
          have : 1 + (8 * K + i) / 12 ≤ L1 := by rw [← hL1]; unfold skL; omega
          omega)
        have EQB : Hid (∀ j, payF (fun j => f (16 * F1 + j)) (p + j) = skB f K j) := Lib.hid fun j => by
          show f (16 * F1 + ((p + j) / 12 * 16 + (p + j) % 12)) = f (16 * (1 + (8 * K + j) / 12) + (8 * K + j) % 12)
          congr 1
          rw [← hp, ← hF1]
          unfold skF
          omega
        have NN : Hid (skN K = if F1 = L1 then 1 else 2) := Lib.hid (by unfold skN; rw [hF1, hL1])
        have QQ : Hid (skQ K = fun j => if j = 0 then (F1 : Int) else (L1 : Int)) := Lib.hid (by unfold skQ; rw [hF1, hL1])
        have HM := Lib.hid (show (m = 1 ∧ L1 = F1) ∨ (m = 2 ∧ L1 = F1 + 1) by omega)
        have HPM := Lib.hid hpm
        clear h hk hf hc hn hr hF1 hL1 hl hp hm HP hpm hcap
        go_enter Try.func34, Try.ntmps34
        go_wp2_with fail
        refine CT.out.mono ?_
        rintro e w1 ⟨rfl, b⟩
        have B1 := Lib.hid b
        clear b
        go_wp2_with fail
        refine (OP.out _ B1.out).mono ?_
        rintro e w2 (⟨v, rfl, hok, ho, b⟩ | ⟨i, hi, -, hbk, rfl, b⟩)
        · have B2 := Lib.hid (B1.out.trans (b.mono B1.out.size))
          have m0 : 0 < 12 * m := by have := HPM.out; omega
          obtain ⟨g2, c2, rfl, hc2, hg2, hgs, hcell⟩ := ho.form m0
          have SV : Hid (skS f K = true) := Lib.hid (by
            rw [SSE.out]
            rcases HM.out with ⟨hm, hl⟩ | ⟨hm, hl⟩
            · have := hok 0 (by omega)
              rw [SK.out 0 (by omega)] at this
              rw [hl]; simpa using this
            · have h0 := hok 0 (by omega)
              have h1 := hok 1 (by omega)
              rw [SK.out 0 (by omega)] at h0
              rw [SK.out 1 (by omega)] at h1
              rw [hl, h1]; simpa using h0)
          have RP := Lib.hid (readPoint_any (some ⟨g2, p, none⟩) (12 * m - p) (c2 - p) (skB f K) (by have := HPM.out; omega) BYT.out w2 (.inr ⟨g2, p, rfl, hgs, fun j hj => by rw [hcell (p + j) (by omega), EQB.out]⟩))
          have su : ∀ W, (Instr.slice 45 (.slice (some ⟨g2, 0, none⟩) (12 * m) c2) (some (.int .i64 (p : Int))) none none).run Try.prog W = .ok (.slice (some ⟨g2, p, none⟩) (12 * m - p) (c2 - p)) W := fun W => slice_fromU g2 (12 * m) c2 p (by have := HPM.out; omega) hc2 W
          cases hob : okB (skB f K) with
          | true =>
            have Q : Hid (skC f n (K : Int) = 0) := Lib.hid (by rw [SC, SI.out, SV.out, if_pos rfl, hob, if_pos rfl])
            rw [hob, if_pos rfl] at RP
            clear hok ho b hc2 hg2 hgs hcell hob SC
            go_wp2_with fail
            refine RP.out.mono ?_
            rintro e w3 ⟨rfl, b⟩
            have B3 := Lib.hid (B2.out.trans (b.mono B2.out.size))
            clear b
            have CP := Lib.hid (compact_any F1 L1 w3.heap.size (w3.alloc (.cells #[.int .i64 (F1 : Int), .int .i64 (L1 : Int)] 2)) w (World.alloc_heap_new w3 _) B3.out.size (B3.out.alloc B3.out.size _))
            go_wp2_with fail
            refine CP.out.mono ?_
            rintro e w5 ⟨v5, rfl, hpr, b⟩
            have PR5 : Hid (PR 1 w.heap.size w5.heap.size w5 v5 (skN K) (FL (skQ K))) := Lib.hid (by rw [NN.out, QQ.out]; exact hpr)
            have B5 := Lib.hid b
            clear hpr b
            go_wp2
            exact bodyPost_ret (v := .tuple #[.complex .f32 (reB (skB f K)) (imB (skB f K)), v5, .int .i64 0]) (by simp [results, Try.results34, go_sem]) rfl (SkPost.good Q.out PR5.out B5.out)
          | false =>
            have Q : Hid (skC f n (K : Int) = 5) := Lib.hid (by rw [SC, SI.out, SV.out, if_pos rfl, hob]; exact if_neg (by decide))
            rw [hob, if_neg (by decide)] at RP
            clear hok ho b hc2 hg2 hgs hcell hob SC
            go_wp2_with fail
            refine RP.out.mono ?_
            rintro e w3 ⟨rfl, b⟩
            have B3 := Lib.hid (B2.out.trans (b.mono B2.out.size))
            clear b
            go_wp2
            exact bodyPost_ret (v := .tuple #[.complex .f32 0 0, .slice none 0 0, .int .i64 5]) (by simp [results, Try.results34, go_sem]) rfl (SkPost.bad Q.out (by decide) B3.out)
        · have B2 := Lib.hid (B1.out.trans (b.mono B1.out.size))
          have Q : Hid (skC f n (K : Int) = 8) := Lib.hid (by
            have hS : skS f K = false := by
              rw [SSE.out]
              rw [SK.out i hi] at hbk
              rcases HM.out with ⟨hm, hl⟩ | ⟨hm, hl⟩
              · obtain rfl : i = 0 := by omega
                rw [show okAt f 0 F1 = false from hbk]; rfl
              · have hi2 : i = 0 ∨ i = 1 := by omega
                rcases hi2 with rfl | rfl
                · rw [show okAt f 0 F1 = false from hbk]; rfl
                · rw [hl, hbk]; simp
            rw [SC, SI.out, hS]; exact if_neg (by decide))
          clear b hbk SC
          go_wp2
          exact bodyPost_ret (v := .tuple #[.complex .f32 0 0, .slice none 0 0, .int .i64 8]) (by simp [results, Try.results34, go_sem]) rfl (SkPost.bad Q.out (by decide) B2.out)

    · have Q : Hid (skC f n k = 2) := Lib.hid (by unfold skC; rw [if_pos hc, if_neg hr])
      generalize upN f = N at CT hr N9
      by_cases hneg : k < 0
      · clear h hk hf hc hn hr
        go_enter Try.func34, Try.ntmps34
        go_wp2_with fail
        refine CT.out.mono ?_
        rintro e w1 ⟨rfl, b⟩
        have B1 := Lib.hid b
        clear b
        go_wp2
        exact bodyPost_ret (v := .tuple #[.complex .f32 0 0, .slice none 0 0, .int .i64 2]) (by simp [results, Try.results34, go_sem]) rfl (SkPost.bad Q.out (by decide) B1.out)
      · have hge : (N : Int) ≤ k := by omega
        clear h hk hf hc hn hr
        go_enter Try.func34, Try.ntmps34
        go_wp2_with fail
        refine CT.out.mono ?_
        rintro e w1 ⟨rfl, b⟩
        have B1 := Lib.hid b
        clear b
        go_wp2
        exact bodyPost_ret (v := .tuple #[.complex .f32 0 0, .slice none 0 0, .int .i64 2]) (by simp [results, Try.results34, go_sem]) rfl (SkPost.bad Q.out (by decide) B1.out)
  · obtain ⟨C, hC⟩ : ∃ x, ckC f n = x := ⟨_, rfl⟩
    have hC0 : C ≠ 0 := fun e => hc (hC.trans e)
    rw [ckV_bad hC hC0] at CT
    have Q : Hid (skC f n k = C) := Lib.hid (by unfold skC; rw [if_neg hc, hC])
    have e1 : (C != 0) = true := by simpa using hC0
    have HC0 := Lib.hid hC0
    clear h hk hf hc hn hC hC0
    go_enter Try.func34, Try.ntmps34
    go_wp2_with fail
    refine CT.out.mono ?_
    rintro e w1 ⟨rfl, b⟩
    have B1 := Lib.hid b
    clear b
    go_wp2
    exact bodyPost_ret (v := .tuple #[.complex .f32 0 0, .slice none 0 0, .int .i64 C]) (by simp [results, Try.results34, go_sem]) rfl (SkPost.bad Q.out HC0.out B1.out)
end Go.Proofs.Ytkijgadkgfapgaa
