/-
  CONTRACTS: SeekPoint by the specification.
-/
import Derived.Test.YtkijgadkgfapgaaYzc
import Derived.Test.YtkijgadkgfapgaaYh
namespace Go.Proofs.Ytkijgadkgfapgaa
open Go.ChangeShapes Go.WideShapes Go.ChangeAt Go.RowKit
theorem sk_ck {f : Nat → Int} {n : Nat} {k C : Int} (h : ckC f n = C) (h0 : C ≠ 0) : skC f n k = C := by unfold skC; rw [h, if_neg h0]
theorem ck_tail {f : Nat → Int} {n : Nat} (hb : ¬ 700 < n) (h0 : ¬ n = 0) (hok : okAt f 0 0 = true) : ckC f n = if sgnOk (frK f 0) = false then 5 else if upK f = 1 ∧ upL f = 8 * upN f then 0 else 5 := by
  unfold ckC; rw [if_neg hb, if_neg h0, if_neg (by rw [hok]; decide)]
theorem ownL_two {base : Nat} {v : Value} {q : Nat → Int} {w : World} (h : OwnL base v 2 q w) : ∃ g cap, v = .slice (some ⟨g, 0, none⟩) 2 cap ∧ g < w.heap.size ∧ ∀ j, j < 2 → w.cell? ⟨g, j, none⟩ = some (.int .i64 (q j)) := by
  obtain ⟨a, cap, rfl, hz | ⟨g, rfl, h1, h2, h3, h4, h5⟩⟩ := h.pr
  · cases hz
  · exact ⟨g, cap, rfl, h2, fun j hj => h4 j (by omega)⟩
/-- a row below a block number lies below the newer world's size too -/
theorem pr_wide {s lo : Nat} {w w' : World} {v : Value} {n : Nat} {f : Nat → Value} (hb : Below w.heap.size w w') (h : PR s lo w.heap.size w v n f) : PR s lo w'.heap.size w' v n f := by
  obtain ⟨a, cap, rfl, h0 | ⟨g, rfl, h1, h2, h3, h4, h5⟩⟩ := h.below hb (Nat.le_refl _)
  · exact ⟨a, cap, rfl, .inl h0⟩
  · exact ⟨_, cap, rfl, .inr ⟨g, rfl, h1, Nat.lt_of_lt_of_le h2 hb.size, Nat.le_refl _, h4, h5⟩⟩
set_option maxRecDepth 20000 in
set_option maxHeartbeats 8000000 in
theorem sSeek_any (n : Nat) (hn : n ≤ 1048576) (f : Nat → Int) (hf : ByF (16 * n) f) (a : Option Addr) (cap : Nat) (w : World) (h : FrR w.heap.size w a n f) (k : Int) :
    Calls Try.prog 33 #[.slice a n cap, .int .i64 k] w (SkPost f n k w) := by
  have BW : Hid (Below w.heap.size w w) := Lib.hid (Below.refl _ _)
  by_cases hbig : 700 < n
  · have Q : Hid (skC f n k = 3) := Lib.hid (sk_ck (by unfold ckC; rw [if_pos hbig]) (by decide))
    have nI : (700 : Int) < (n : Int) := by omega
    clear h hf hbig hn
    go_enter Try.func33, Try.ntmps33
    go_wp2
    exact bodyPost_ret (v := .tuple #[.complex .f32 0 0, .slice (some ⟨w.heap.size, 0, none⟩) 0 0, .int .i64 3]) (by simp [results, Try.results33, go_sem]) rfl (SkPost.bad Q.out (by decide) (BW.out.alloc BW.out.size _))
  have nI : (n : Int) ≤ 700 := by omega
  by_cases h0 : n = 0
  · subst h0
    have Q : Hid (skC f 0 k = 5) := Lib.hid (sk_ck (by unfold ckC; rw [if_neg hbig, if_pos rfl]) (by decide))
    clear h hf hbig hn
    go_enter Try.func33, Try.ntmps33
    go_wp2
    exact bodyPost_ret (v := .tuple #[.complex .f32 0 0, .slice (some ⟨w.heap.size, 0, none⟩) 0 0, .int .i64 5]) (by simp [results, Try.results33, go_sem]) rfl (SkPost.bad Q.out (by decide) (BW.out.alloc BW.out.size _))
  obtain ⟨g, off, rfl, hg, hc⟩ : ∃ g off, a = some ⟨g, off, none⟩ ∧ g < w.heap.size ∧ ∀ j, j < 16 * n → w.cell? ⟨g, off + j, none⟩ = some (.int .u8 (f j)) := by
    rcases h with h | h
    · omega
    · exact h
  have n1 : (1 : Int) ≤ (n : Int) := by omega
  have nz : ((n : Int) == 0) = false := by simp; omega
  have BF : ByF 16 (frK f 0) := by_frk0 (by omega) hf
  have CA : Hid (∀ W, Below w.heap.size w W → ∀ j, j < 16 * n → W.cell? ⟨g, off + j, none⟩ = some (.int .u8 (f j))) := Lib.hid fun W hW j hj => (Below.cell (p := ⟨g, off + j, none⟩) hW hg).trans (hc j hj)
  have HC : Hid (∀ W, Below w.heap.size w W → ∀ j u, (Q16 (frK f 0))[j]? = some u → W.cell? ⟨g, off + j, none⟩ = some u) := Lib.hid fun W hW j u e => by
    have hj : j < 16 := by
      have := (Array.getElem?_eq_some_iff.1 e).1
      rwa [arr_size] at this
    rw [CA.out W hW j (by omega), ← e, arr_get _ _ _ _ hj]
    unfold frK
    simp
  have LS0 := l09Sound_any 0 (frK f 0) BF (by decide)
  have OK0 : okAt f 0 0 = sndF 0 (frK f 0) := okAt_in (by decide)
  rw [← OK0] at LS0
  have HD := Lib.hid (head_any (frK f 0) BF)
  have KE : Hid (frK f 0 3 = upK f) := Lib.hid rfl
  have NE : Hid (hdB (fun j => frK f 0 (4 + j)) 0 4 = upN f) := Lib.hid rfl
  have LE : Hid (hdB (fun j => frK f 0 (8 + j)) 0 4 = upL f) := Lib.hid rfl
  rw [KE.out, NE.out, LE.out] at HD
  have N9 := upN_lt BF
  have L9 := upL_lt BF
  obtain ⟨A0, hA0⟩ : ∃ x, Q16 (frK f 0) = x := ⟨_, rfl⟩
  have AS : Hid (A0.size = 16) := Lib.hid (by rw [← hA0]; exact arr_size _ _ _)
  rw [hA0] at HC HD LS0
  cases hok : okAt f 0 0 with
  | false =>
    have LS : Hid (∀ w, Calls Try.prog 69 #[.agg A0, .int .i64 0] w fun e w' => e = .returned (.bool false) ∧ Below w.heap.size w w') := Lib.hid fun w => by rw [← hok]; exact LS0 w
    have Q : Hid (skC f n k = 8) := Lib.hid (sk_ck (by unfold ckC; rw [if_neg hbig, if_neg h0, if_pos hok]) (by decide))
    clear h hf hbig hn hc hA0 LS0 OK0 hok
    go_enter Try.func33, Try.ntmps33
    go_wp2_with (refine wpList_load_part rfl 93 _ rfl g off rfl A0 _ (HC.out w BW.out) Try.underlying93 rfl (fr_info _ AS.out) ?_)
    refine (LS.out _).mono ?_
    rintro e w1 ⟨rfl, b⟩
    have B1 := Lib.hid b
    clear b
    go_wp2
    exact bodyPost_ret (v := .tuple #[.complex .f32 0 0, .slice (some ⟨w1.heap.size, 0, none⟩) 0 0, .int .i64 8]) (by simp [results, Try.results33, go_sem]) rfl (SkPost.bad Q.out (by decide) (B1.out.alloc B1.out.size _))
  | true =>
    have LS : Hid (∀ w, Calls Try.prog 69 #[.agg A0, .int .i64 0] w fun e w' => e = .returned (.bool true) ∧ Below w.heap.size w w') := Lib.hid fun w => by rw [← hok]; exact LS0 w
    have CK := Lib.hid (ck_tail hbig h0 hok)
    cases hsg : sgnOk (frK f 0) with
    | false =>
      have Q : Hid (skC f n k = 5) := Lib.hid (sk_ck (by rw [CK.out, if_pos hsg]) (by decide))
      rw [hsg] at HD
      clear h hf hbig hn hc hA0 LS0 OK0 hok hsg
      go_enter Try.func33, Try.ntmps33
      go_wp2_with (refine wpList_load_part rfl 93 _ rfl g off rfl A0 _ (HC.out w BW.out) Try.underlying93 rfl (fr_info _ AS.out) ?_)
      refine (LS.out _).mono ?_
      rintro e w1 ⟨rfl, b⟩
      have B1 := Lib.hid b
      clear b
      go_wp2_with (refine wpList_load_part rfl 93 _ rfl g off rfl A0 _ (HC.out w1 B1.out) Try.underlying93 rfl (fr_info _ AS.out) ?_)
      refine (HD.out _).mono ?_
      rintro e w2 ⟨rfl, b⟩
      have B2 := Lib.hid (B1.out.trans (b.mono B1.out.size))
      clear b
      go_wp2
      exact bodyPost_ret (v := .tuple #[.complex .f32 0 0, .slice (some ⟨w2.heap.size, 0, none⟩) 0 0, .int .i64 5]) (by simp [results, Try.results33, go_sem]) rfl (SkPost.bad Q.out (by decide) (B2.out.alloc B2.out.size _))
    | true =>
      rw [hsg] at HD
      have CK2 : Hid (ckC f n = if upK f = 1 ∧ upL f = 8 * upN f then 0 else 5) := Lib.hid (by rw [CK.out, if_neg (by rw [hsg]; decide)])
      have n9 : (upN f : Int) ≤ 4294967295 := by omega
      by_cases hk3 : upK f = 1
      · by_cases hl3 : upL f = 8 * upN f
        · have C0 : Hid (ckC f n = 0) := Lib.hid (by rw [CK2.out, if_pos ⟨hk3, hl3⟩])
          have k1 : (upK f != 1) = false := by simpa using hk3
          have l1 : ((upL f : Int) != 8 * (upN f : Int)) = false := by simp; omega
          have IND := Lib.hid (inD k 0 ((upN f : Int) - 1))
          by_cases hr : 0 ≤ k ∧ k < (upN f : Int)
          · obtain ⟨Kp, rfl⟩ : ∃ Kp : Nat, k = (Kp : Int) := ⟨k.toNat, by omega⟩
            have ii : (decide ((0 : Int) ≤ (Kp : Int)) && decide ((Kp : Int) ≤ (upN f : Int) - 1)) = true := by simp; omega
            rw [ii] at IND
            have SC : skC f n (Kp : Int) = skI f n Kp := by unfold skC; rw [C0.out, if_pos rfl, if_pos hr]; rfl
            have k9 : (Kp : Int) ≤ 4294967295 := by omega
            have kz : (0 : Int) ≤ (Kp : Int) := by omega
            obtain ⟨F1, hF1⟩ : ∃ x, skF Kp = x := ⟨_, rfl⟩
            obtain ⟨L1, hL1⟩ : ∃ x, skL Kp = x := ⟨_, rfl⟩
            have d1 : 1 + 8 * (Kp : Int) / 12 = (F1 : Int) := by rw [← hF1]; unfold skF; omega
            have d2 : 1 + (8 * (Kp : Int) + 7) / 12 = (L1 : Int) := by rw [← hL1]; unfold skL; omega
            have d3 : ∃ p : Nat, 8 * (Kp : Int) - 12 * ((F1 : Int) - 1) = (p : Int) ∧ p = 8 * Kp % 12 := ⟨8 * Kp % 12, by rw [← hF1]; unfold skF; omega, rfl⟩
            obtain ⟨p, d3, hp⟩ := d3
            have hFL : F1 ≤ L1 := by rw [← hF1, ← hL1]; unfold skF skL; omega
            have hL2 : L1 ≤ F1 + 1 := by rw [← hF1, ← hL1]; unfold skF skL; omega
            have hF0 : 1 ≤ F1 := by rw [← hF1]; unfold skF; omega
            have hL9 : L1 ≤ 4000000000 := by rw [← hL1]; unfold skL; omega
            have SSE : Hid (skS f Kp = (okAt f 0 F1 && okAt f 0 L1)) := Lib.hid (by unfold skS; rw [hF1, hL1])
            have NN : Hid (skN Kp = if F1 = L1 then 1 else 2) := Lib.hid (by unfold skN; rw [hF1, hL1])
            have QQ : Hid (skQ Kp = fun j => if j = 0 then (F1 : Int) else (L1 : Int)) := Lib.hid (by unfold skQ; rw [hF1, hL1])
            have EQB : Hid (∀ j, payF (fun j => f (16 * F1 + j)) (p + j) = skB f Kp j) := Lib.hid fun j => by
              show f (16 * F1 + ((p + j) / 12 * 16 + (p + j) % 12)) = f (16 * (1 + (8 * Kp + j) / 12) + (8 * Kp + j) % 12)
              congr 1
              rw [hp, ← hF1]
              unfold skF
              omega
            have SI : Hid (skC f n (Kp : Int) = if n ≤ L1 then 5 else if skS f Kp then (if okB (skB f Kp) then 0 else 5) else 8) := Lib.hid (by rw [SC]; unfold skI; rw [hL1])
            have HPM : Hid (p + 8 ≤ 12 * (L1 + 1 - F1)) := Lib.hid (by rw [hp, ← hF1, ← hL1]; unfold skF skL; omega)
            have BYT : Hid (L1 < n → ∀ ip, ip < 8 → 0 ≤ skB f Kp ip ∧ skB f Kp ip ≤ 255) := Lib.hid fun hl ip hi => hf _ (by
              have : 1 + (8 * Kp + ip) / 12 ≤ L1 := by rw [← hL1]; unfold skL; omega
              omega)
            have HF := Lib.hid hf
            generalize upN f = N3 at HD l1 IND n9 hr ii
            generalize upL f = L3 at HD l1
            generalize upK f = K3 at HD k1
            clear h hbig hn hc hA0 LS0 OK0 hok hsg hk3 hl3 hr ii SC hF1 hL1 hp hf
            rcases Nat.lt_or_ge F1 L1 with hlt | hge
            · have dl : ((L1 : Int) != (F1 : Int)) = true := by simp; omega
              by_cases hl : n ≤ L1
              · have nl : (n : Int) ≤ (L1 : Int) := by omega
                have Q : Hid (skC f n (Kp : Int) = 5) := Lib.hid (by rw [SI.out, if_pos hl])
                clear hl
                go_enter Try.func33, Try.ntmps33
                go_wp2_with (refine wpList_load_part rfl 93 _ rfl g off rfl A0 _ (HC.out w BW.out) Try.underlying93 rfl (fr_info _ AS.out) ?_)
                refine (LS.out _).mono ?_
                rintro e w1 ⟨rfl, b⟩
                have B1 := Lib.hid b
                clear b
                go_wp2_with (refine wpList_load_part rfl 93 _ rfl g off rfl A0 _ (HC.out w1 B1.out) Try.underlying93 rfl (fr_info _ AS.out) ?_)
                refine (HD.out _).mono ?_
                rintro e w2 ⟨rfl, b⟩
                have B2 := Lib.hid (B1.out.trans (b.mono B1.out.size))
                clear b
                go_wp2_with fail
                refine (IND.out _).mono ?_
                rintro e w2' ⟨rfl, rfl⟩
                obtain ⟨w3, hw3⟩ : ∃ x, w2.alloc (.cells #[.int .i64 (F1 : Int)] 2) = x := ⟨_, rfl⟩
                have R3 : Hid (w3.heap[w2.heap.size]? = some (.cells #[.int .i64 (F1 : Int)] 2 (0, 0))) := Lib.hid (by rw [← hw3]; exact World.alloc_heap_new w2 _)
                have B3 : Hid (Below w.heap.size w w3) := Lib.hid (by rw [← hw3]; exact B2.out.alloc B2.out.size _)
                have c0 : w3.cell? ⟨w2.heap.size, 0, none⟩ = some (.int .i64 (F1 : Int)) := Lib.cell_of_heap R3.out 0
                have HO : Hid (OwnL w.heap.size (.slice (some ⟨w2.heap.size, 0, none⟩) 1 1) 1 (fun j => if j = 0 then (F1 : Int) else (L1 : Int)) w3) := Lib.hid ⟨rfl, .inr ⟨w2.heap.size, 1, _, rfl, B2.out.size, R3.out, Nat.le_refl _, by decide, rfl, rfl⟩⟩
                go_wp2_with (at_builtin; refine wpList_append_l rfl _ _ rfl w.heap.size _ 1 (fun j => if j = 0 then (F1 : Int) else (L1 : Int)) rfl (HO.out.alloc _) w3.heap.size 1 (L1 : Int) rfl ((World.cell?_alloc_new _ _ _ _).trans rfl) rfl (by decide) (by have := B3.out.size; rw [World.size_alloc]; omega) w (B3.out.alloc B3.out.size _) ?_; intro v4 w4 h1 h2 h3; have O4 := Lib.hid h1; have B4 := Lib.hid h2; clear h1 h2 h3; obtain ⟨gp, cp, rfl, hgp2, hgp4⟩ := ownL_two O4.out; have pc0 : w4.cell? ⟨gp, 0, none⟩ = some (.int .i64 (F1 : Int)) := (hgp4 0 (by decide)).trans rfl; have pc1 : w4.cell? ⟨gp, 1, none⟩ = some (.int .i64 (L1 : Int)) := (hgp4 1 (by decide)).trans rfl; have GP := Lib.hid hgp2; have PQ := Lib.hid hgp4; clear hgp2 hgp4)
                exact bodyPost_ret (v := .tuple #[.complex .f32 0 0, .slice (some ⟨w4.heap.size, 0, none⟩) 0 0, .int .i64 5]) (by simp [results, Try.results33, go_sem]) rfl (SkPost.bad Q.out (by decide) (B4.out.alloc B4.out.size _))
              · have nl : ¬ ((n : Int) ≤ (L1 : Int)) := by omega
                have nl2 : (L1 : Int) < (n : Int) := by omega
                have SI2 : Hid (skC f n (Kp : Int) = if skS f Kp then (if okB (skB f Kp) then 0 else 5) else 8) := Lib.hid (by rw [SI.out, if_neg hl])
                have BY2 := Lib.hid (BYT.out (by omega))
                have HL := Lib.hid (show L1 < n by omega)
                have HF1 := Lib.hid (show F1 + 1 = L1 by omega)
                clear hl SI BYT
                go_enter Try.func33, Try.ntmps33
                go_wp2_with (refine wpList_load_part rfl 93 _ rfl g off rfl A0 _ (HC.out w BW.out) Try.underlying93 rfl (fr_info _ AS.out) ?_)
                refine (LS.out _).mono ?_
                rintro e w1 ⟨rfl, b⟩
                have B1 := Lib.hid b
                clear b
                go_wp2_with (refine wpList_load_part rfl 93 _ rfl g off rfl A0 _ (HC.out w1 B1.out) Try.underlying93 rfl (fr_info _ AS.out) ?_)
                refine (HD.out _).mono ?_
                rintro e w2 ⟨rfl, b⟩
                have B2 := Lib.hid (B1.out.trans (b.mono B1.out.size))
                clear b
                go_wp2_with fail
                refine (IND.out _).mono ?_
                rintro e w2' ⟨rfl, rfl⟩
                obtain ⟨w3, hw3⟩ : ∃ x, w2.alloc (.cells #[.int .i64 (F1 : Int)] 2) = x := ⟨_, rfl⟩
                have R3 : Hid (w3.heap[w2.heap.size]? = some (.cells #[.int .i64 (F1 : Int)] 2 (0, 0))) := Lib.hid (by rw [← hw3]; exact World.alloc_heap_new w2 _)
                have B3 : Hid (Below w.heap.size w w3) := Lib.hid (by rw [← hw3]; exact B2.out.alloc B2.out.size _)
                have c0 : w3.cell? ⟨w2.heap.size, 0, none⟩ = some (.int .i64 (F1 : Int)) := Lib.cell_of_heap R3.out 0
                have HO : Hid (OwnL w.heap.size (.slice (some ⟨w2.heap.size, 0, none⟩) 1 1) 1 (fun j => if j = 0 then (F1 : Int) else (L1 : Int)) w3) := Lib.hid ⟨rfl, .inr ⟨w2.heap.size, 1, _, rfl, B2.out.size, R3.out, Nat.le_refl _, by decide, rfl, rfl⟩⟩
                go_wp2_with (at_builtin; refine wpList_append_l rfl _ _ rfl w.heap.size _ 1 (fun j => if j = 0 then (F1 : Int) else (L1 : Int)) rfl (HO.out.alloc _) w3.heap.size 1 (L1 : Int) rfl ((World.cell?_alloc_new _ _ _ _).trans rfl) rfl (by decide) (by have := B3.out.size; rw [World.size_alloc]; omega) w (B3.out.alloc B3.out.size _) ?_; intro v4 w4 h1 h2 h3; have O4 := Lib.hid h1; have B4 := Lib.hid h2; clear h1 h2 h3; obtain ⟨gp, cp, rfl, hgp2, hgp4⟩ := ownL_two O4.out; have pc0 : w4.cell? ⟨gp, 0, none⟩ = some (.int .i64 (F1 : Int)) := (hgp4 0 (by decide)).trans rfl; have pc1 : w4.cell? ⟨gp, 1, none⟩ = some (.int .i64 (L1 : Int)) := (hgp4 1 (by decide)).trans rfl; have GP := Lib.hid hgp2; have PQ := Lib.hid hgp4; clear hgp2 hgp4)
                have PC : Hid (∀ W, Below w4.heap.size w4 W → ∀ j, j < 2 → W.cell? ⟨gp, j, none⟩ = some (.int .i64 ((F1 + j : Nat) : Int))) := Lib.hid fun W hW j hj => by
                  rw [Below.cell (p := ⟨gp, j, none⟩) hW GP.out, PQ.out j (by omega)]
                  show some (Value.int .i64 (if j = 0 then (F1 : Int) else (L1 : Int))) = _
                  have := HF1.out
                  congr 2
                  split <;> omega
                have HW : Hid (w.heap.size ≤ w4.heap.size) := Lib.hid B4.out.size
                have O5 : Hid (OwnU w4.heap.size (.slice (some ⟨w4.heap.size, 0, none⟩) 0 0) (12 * 0) (payF fun j => f (16 * F1 + j)) (w4.alloc (.cells #[] 5))) := Lib.hid (World.ownsRow_made (size := 1) w4 #[] 0 (Nat.le_refl _) (by unfold maxLen; omega) rfl)
                have B5 : Hid (Below w4.heap.size w4 (w4.alloc (.cells #[] 5))) := Lib.hid ((Below.refl _ _).alloc (Nat.le_refl _) _)
                generalize w4.alloc (.cells #[] 5) = w5 at O5 B5 ⊢
                go_loopw [13, 14] (fun d vi wr => ∃ ip : Nat, ip ≤ 2 ∧ vi = .int .i64 (ip : Int) ∧ Hid (OwnU w4.heap.size d (12 * ip) (payF fun j => f (16 * F1 + j)) wr) ∧ Hid (Below w4.heap.size w4 wr) ∧ Hid (∀ i2, i2 < ip → okAt f 0 (F1 + i2) = true)) (fun _ vi _ => 2 - (intOf vi).toNat)
                case atStart => exact ⟨0, by omega, rfl, O5, B5, Lib.hid (fun i2 h => absurd h (by omega))⟩
                case round =>
                  obtain ⟨ip, hi, rfl, ho, hb, hs⟩ := hrel
                  by_cases hlt2 : ip < 2
                  · have ti : (ip : Int) < 2 := by omega
                    have i1 : ip < 2 := hlt2
                    obtain ⟨FI, hFI⟩ : ∃ x, F1 + ip = x := ⟨_, rfl⟩
                    have FL1 : FI < n := by have := HL.out; have := HF1.out; omega
                    have fi : (FI : Int) < (n : Int) := by omega
                    have BWr : Hid (Below w.heap.size w wr) := Lib.hid (B4.out.trans (hb.out.mono HW.out))
                    have PI : Hid (∀ W, Below wr.heap.size wr W → W.cell? ⟨gp, ip, none⟩ = some (.int .i64 (FI : Int))) := Lib.hid fun W hW => by rw [← hFI]; exact PC.out W (hb.out.trans (hW.mono hb.out.size)) ip i1
                    obtain ⟨AI, hAI⟩ : ∃ x, Q16 (frK f FI) = x := ⟨_, rfl⟩
                    have ASI : Hid (AI.size = 16) := Lib.hid (by rw [← hAI]; exact arr_size _ _ _)
                    have CI : Hid (∀ W, Below wr.heap.size wr W → ∀ j, j < 16 → W.cell? ⟨g, off + FI * 16 + j, none⟩ = some (.int .u8 (f (FI * 16 + j)))) := Lib.hid fun W hW j hj => by
                      rw [Nat.add_assoc]
                      exact CA.out W (BWr.out.trans (hW.mono BWr.out.size)) (FI * 16 + j) (by omega)
                    have HCI : Hid (∀ W, Below wr.heap.size wr W → ∀ j u, AI[j]? = some u → W.cell? ⟨g, off + FI * 16 + j, none⟩ = some u) := Lib.hid fun W hW j u e => by
                      rw [← hAI] at e
                      have hj : j < 16 := by
                        have := (Array.getElem?_eq_some_iff.1 e).1
                        rwa [arr_size] at this
                      rw [CI.out W hW j hj, ← e, arr_get _ _ _ _ hj]
                      rfl
                    have LSX := l09Sound_any FI (frK f FI) (fun j hj => HF.out (FI * 16 + j) (by omega)) (by omega)
                    have OKI : okAt f 0 FI = sndF FI (frK f FI) := okAt_in (by omega)
                    rw [← OKI, hAI] at LSX
                    have FIX : Hid (FI = F1 ∨ FI = L1) := Lib.hid (by have := HF1.out; omega)
                    have HS0 := Lib.hid hs.out
                    have HFI := Lib.hid hFI
                    have HI1 := Lib.hid i1
                    have PRB := Lib.hid hb.out
                    cases hso : okAt f 0 FI with
                    | false =>
                      have LSI : Hid (∀ w, Calls Try.prog 69 #[.agg AI, .int .i64 (FI : Int)] w fun e w' => e = .returned (.bool false) ∧ Below w.heap.size w w') := Lib.hid fun w => by rw [← hso]; exact LSX w
                      have Q : Hid (skC f n (Kp : Int) = 8) := Lib.hid (by
                        have : skS f Kp = false := by
                          rw [SSE.out]
                          rcases FIX.out with h | h
                          · rw [← h, hso]; rfl
                          · rw [← h, hso]; simp
                        rw [SI2.out, this]; exact if_neg (by decide))
                      clear LSX OKI hso hAI hFI hs hb i1 hlt2 hi
                      go_wp2_with fail
                      generalize hdd : decide (n ≤ L1) = dd
                      have HDD := Lib.hid hdd
                      clear hdd
                      refine wp_region_inv (by kernel_rfl) (fun listed act W => listed.size = 13 ∧ Below wr.heap.size wr W ∧ ∃ x0 x1 x2 x3 x4 x5 x6 x7 x8 x9 x10 x11 x12, act = { tmps := #[Value.slice (some { block := g, off := off }) n cap, Value.int IntKind.i64 (Kp : Int), undef, undef, u4, u5, u6, Value.int IntKind.i64 K3, Value.int IntKind.i64 (N3 : Int), Value.int IntKind.i64 (L3 : Int), Value.bool true, Value.slice (some { block := gp, off := 0 }) 2 cp, Value.int IntKind.i64 (L1 : Int), u13, Value.int IntKind.i64 (ip : Int), u15, undef, undef, Value.slice (some { block := g, off := off }) n cap, Value.int IntKind.i64 (n : Int), Value.bool (decide (700 < (n : Int))), undef, Value.slice (some { block := g, off := off }) n cap, Value.int IntKind.i64 (n : Int), Value.bool false, undef, Value.slice (some { block := g, off := off }) n cap, Value.pointer (some { block := g, off := off }), Value.agg A0, Value.bool true, Value.bool false, undef, Value.tuple #[Value.int IntKind.i64 K3, Value.int IntKind.i64 (N3 : Int), Value.int IntKind.i64 (L3 : Int), Value.bool true], Value.slice (some { block := g, off := off }) n cap, Value.pointer (some { block := g, off := off }), Value.agg A0, Value.tuple #[Value.int IntKind.i64 K3, Value.int IntKind.i64 (N3 : Int), Value.int IntKind.i64 (L3 : Int), Value.bool true], Value.int IntKind.i64 K3, Value.int IntKind.i64 (N3 : Int), Value.int IntKind.i64 (L3 : Int), Value.bool true, Value.bool true, Value.bool false, Value.bool false, Value.int IntKind.i64 K3, Value.bool false, Value.bool false, Value.bool false, Value.int IntKind.i64 (L3 : Int), Value.int IntKind.i64 (N3 : Int), Value.int IntKind.i64 (8 * (N3 : Int)), Value.bool false, Value.bool false, undef, Value.int IntKind.i64 (Kp : Int), Value.int IntKind.i64 (N3 : Int), Value.int IntKind.i64 ((N3 : Int) - 1), Value.bool true, Value.bool false, undef, Value.int IntKind.i64 (Kp : Int), Value.int IntKind.i64 (8 * (Kp : Int)), Value.int IntKind.i64 (8 * (Kp : Int) / 12), Value.int IntKind.i64 (F1 : Int), Value.slice (some { block := w2.heap.size, off := 0 }) 1 1, Value.int IntKind.i64 (Kp : Int), Value.int IntKind.i64 (8 * (Kp : Int)), Value.int IntKind.i64 (8 * (Kp : Int) + 7), Value.int IntKind.i64 ((8 * (Kp : Int) + 7) / 12), Value.int IntKind.i64 (L1 : Int), Value.int IntKind.i64 (L1 : Int), Value.slice (some { block := w2.heap.size, off := 0 }) 1 1, Value.pointer (some { block := w2.heap.size, off := 0 }), Value.int IntKind.i64 (F1 : Int), Value.bool true, Value.slice (some { block := w2.heap.size, off := 0 }) 1 1, Value.int IntKind.i64 (L1 : Int), Value.slice (some { block := w3.heap.size, off := 0 }) 1 1, Value.slice (some { block := gp, off := 0 }) 2 cp, Value.slice (some { block := gp, off := 0 }) 2 cp, Value.slice (some { block := gp, off := 0 }) 2 cp, Value.int IntKind.i64 2, Value.int IntKind.i64 1, Value.pointer (some { block := gp, off := 1 }), Value.int IntKind.i64 (L1 : Int), Value.slice (some { block := g, off := off }) n cap, Value.int IntKind.i64 (n : Int), .bool dd, undef, Value.slice (some { block := w4.heap.size, off := 0 }) 0 0, Value.int IntKind.i64 (ip : Int), Value.slice (some { block := gp, off := 0 }) 2 cp, Value.int IntKind.i64 2, Value.bool true, u94, u95, x0, x1, x2, x3, x4, x5, x6, x7, x8, x9, x10, x11, x12, u109, u110, u111, u112, u113, u114, u115, u116, u117, u118, u119, u120, u121, u122, u123, u124, u125, undef, undef, undef, undef, undef, undef, undef, undef, undef, undef, undef, undef, undef, undef, undef, undef, undef, undef, undef], defers := [] } ∧ (listed.getD 0 false = true → x0 = .slice (some ⟨g, off, none⟩) n cap) ∧ (listed.getD 1 false = true → x1 = .slice (some ⟨gp, 0, none⟩) 2 cp) ∧ (listed.getD 2 false = true → x2 = .int .i64 (ip : Int)) ∧ (listed.getD 3 false = true → x3 = .pointer (some ⟨gp, ip, none⟩)) ∧ (listed.getD 4 false = true → x4 = .int .i64 (FI : Int)) ∧ (listed.getD 5 false = true → x5 = .pointer (some ⟨g, off + FI * 16, none⟩)) ∧ (listed.getD 6 false = true → x6 = .agg AI) ∧ (listed.getD 7 false = true → x7 = .slice (some ⟨gp, 0, none⟩) 2 cp) ∧ (listed.getD 8 false = true → x8 = .int .i64 (ip : Int)) ∧ (listed.getD 9 false = true → x9 = .pointer (some ⟨gp, ip, none⟩)) ∧ (listed.getD 10 false = true → x10 = .int .i64 (FI : Int)) ∧ (listed.getD 11 false = true → x11 = .bool false) ∧ (listed.getD 12 false = true → x12 = .bool true)) (by kernel_rfl) ?h0a (fun _ _ _ h => h.1) ?hstepa ?henda
                      case h0a =>
                        refine ⟨rfl, (Below.refl _ _).drew, _, _, _, _, _, _, _, _, _, _, _, _, _, rfl, ?_, ?_, ?_, ?_, ?_, ?_, ?_, ?_, ?_, ?_, ?_, ?_, ?_⟩ <;> (intro h; exact absurd h (by decide))
                      case hstepa =>
                        rintro listed act W i o ⟨hs, hB, x0, x1, x2, x3, x4, x5, x6, x7, x8, x9, x10, x11, x12, rfl, e0, e1, e2, e3, e4, e5, e6, e7, e8, e9, e10, e11, e12⟩ hun hio hpre
                        have HB := Lib.hid hB
                        have E0 := Lib.hid e0
                        have E1 := Lib.hid e1
                        have E2 := Lib.hid e2
                        have E3 := Lib.hid e3
                        have E4 := Lib.hid e4
                        have E5 := Lib.hid e5
                        have E6 := Lib.hid e6
                        have E7 := Lib.hid e7
                        have E8 := Lib.hid e8
                        have E9 := Lib.hid e9
                        have E10 := Lib.hid e10
                        have E11 := Lib.hid e11
                        have E12 := Lib.hid e12
                        have HS := Lib.hid hs
                        have HU := Lib.hid hun
                        have PRE := Lib.hid hpre
                        clear e0 e1 e2 e3 e4 e5 e6 e7 e8 e9 e10 e11 e12 hs hpre hB hun
                        match i, hio with
                        | 0, hio =>
                          clear hio
                          refine wpOp_by rfl fun K HK => ?_
                          go_wp2_with (fail)
                          exact HK.out _ _ ⟨by rw [Array.size_setIfInBounds, HS.out], HB.out, _, _, _, _, _, _, _, _, _, _, _, _, _, rfl, fun _ => rfl, fun h => E1.out ((listed_set h).resolve_left (by decide)), fun h => E2.out ((listed_set h).resolve_left (by decide)), fun h => E3.out ((listed_set h).resolve_left (by decide)), fun h => E4.out ((listed_set h).resolve_left (by decide)), fun h => E5.out ((listed_set h).resolve_left (by decide)), fun h => E6.out ((listed_set h).resolve_left (by decide)), fun h => E7.out ((listed_set h).resolve_left (by decide)), fun h => E8.out ((listed_set h).resolve_left (by decide)), fun h => E9.out ((listed_set h).resolve_left (by decide)), fun h => E10.out ((listed_set h).resolve_left (by decide)), fun h => E11.out ((listed_set h).resolve_left (by decide)), fun h => E12.out ((listed_set h).resolve_left (by decide))⟩
                        | 1, hio =>
                          clear hio
                          refine wpOp_by rfl fun K HK => ?_
                          go_wp2_with (fail)
                          exact HK.out _ _ ⟨by rw [Array.size_setIfInBounds, HS.out], HB.out, _, _, _, _, _, _, _, _, _, _, _, _, _, rfl, fun h => E0.out ((listed_set h).resolve_left (by decide)), fun _ => rfl, fun h => E2.out ((listed_set h).resolve_left (by decide)), fun h => E3.out ((listed_set h).resolve_left (by decide)), fun h => E4.out ((listed_set h).resolve_left (by decide)), fun h => E5.out ((listed_set h).resolve_left (by decide)), fun h => E6.out ((listed_set h).resolve_left (by decide)), fun h => E7.out ((listed_set h).resolve_left (by decide)), fun h => E8.out ((listed_set h).resolve_left (by decide)), fun h => E9.out ((listed_set h).resolve_left (by decide)), fun h => E10.out ((listed_set h).resolve_left (by decide)), fun h => E11.out ((listed_set h).resolve_left (by decide)), fun h => E12.out ((listed_set h).resolve_left (by decide))⟩
                        | 2, hio =>
                          clear hio
                          refine wpOp_by rfl fun K HK => ?_
                          go_wp2_with (fail)
                          exact HK.out _ _ ⟨by rw [Array.size_setIfInBounds, HS.out], HB.out, _, _, _, _, _, _, _, _, _, _, _, _, _, rfl, fun h => E0.out ((listed_set h).resolve_left (by decide)), fun h => E1.out ((listed_set h).resolve_left (by decide)), fun _ => rfl, fun h => E3.out ((listed_set h).resolve_left (by decide)), fun h => E4.out ((listed_set h).resolve_left (by decide)), fun h => E5.out ((listed_set h).resolve_left (by decide)), fun h => E6.out ((listed_set h).resolve_left (by decide)), fun h => E7.out ((listed_set h).resolve_left (by decide)), fun h => E8.out ((listed_set h).resolve_left (by decide)), fun h => E9.out ((listed_set h).resolve_left (by decide)), fun h => E10.out ((listed_set h).resolve_left (by decide)), fun h => E11.out ((listed_set h).resolve_left (by decide)), fun h => E12.out ((listed_set h).resolve_left (by decide))⟩
                        | 3, hio =>
                          simp only [List.getElem?_toArray, List.getElem?_cons_succ, List.getElem?_cons_zero, Option.some.injEq] at hio
                          subst hio
                          have p1 := PRE.out ⟨1, .data⟩ (by simp) rfl
                          have p2 := PRE.out ⟨2, .data⟩ (by simp) rfl
                          obtain rfl := E1.out p1
                          obtain rfl := E2.out p2
                          refine wpOp_by rfl fun K HK => ?_
                          go_wp2_with (fail)
                          exact HK.out _ _ ⟨by rw [Array.size_setIfInBounds, HS.out], HB.out, _, _, _, _, _, _, _, _, _, _, _, _, _, rfl, fun h => E0.out ((listed_set h).resolve_left (by decide)), fun _ => rfl, fun _ => rfl, fun _ => rfl, fun h => E4.out ((listed_set h).resolve_left (by decide)), fun h => E5.out ((listed_set h).resolve_left (by decide)), fun h => E6.out ((listed_set h).resolve_left (by decide)), fun h => E7.out ((listed_set h).resolve_left (by decide)), fun h => E8.out ((listed_set h).resolve_left (by decide)), fun h => E9.out ((listed_set h).resolve_left (by decide)), fun h => E10.out ((listed_set h).resolve_left (by decide)), fun h => E11.out ((listed_set h).resolve_left (by decide)), fun h => E12.out ((listed_set h).resolve_left (by decide))⟩
                        | 4, hio =>
                          simp only [List.getElem?_toArray, List.getElem?_cons_succ, List.getElem?_cons_zero, Option.some.injEq] at hio
                          subst hio
                          have p3 := PRE.out ⟨3, .data⟩ (by simp) rfl
                          obtain rfl := E3.out p3
                          have pc := PI.out W HB.out
                          refine wpOp_by rfl fun K HK => ?_
                          go_wp2_with (fail)
                          exact HK.out _ _ ⟨by rw [Array.size_setIfInBounds, HS.out], HB.out, _, _, _, _, _, _, _, _, _, _, _, _, _, rfl, fun h => E0.out ((listed_set h).resolve_left (by decide)), fun h => E1.out ((listed_set h).resolve_left (by decide)), fun h => E2.out ((listed_set h).resolve_left (by decide)), fun _ => rfl, fun _ => rfl, fun h => E5.out ((listed_set h).resolve_left (by decide)), fun h => E6.out ((listed_set h).resolve_left (by decide)), fun h => E7.out ((listed_set h).resolve_left (by decide)), fun h => E8.out ((listed_set h).resolve_left (by decide)), fun h => E9.out ((listed_set h).resolve_left (by decide)), fun h => E10.out ((listed_set h).resolve_left (by decide)), fun h => E11.out ((listed_set h).resolve_left (by decide)), fun h => E12.out ((listed_set h).resolve_left (by decide))⟩
                        | 5, hio =>
                          simp only [List.getElem?_toArray, List.getElem?_cons_succ, List.getElem?_cons_zero, Option.some.injEq] at hio
                          subst hio
                          have p0 := PRE.out ⟨0, .data⟩ (by simp) rfl
                          have p4 := PRE.out ⟨4, .data⟩ (by simp) rfl
                          obtain rfl := E0.out p0
                          obtain rfl := E4.out p4
                          refine wpOp_by rfl fun K HK => ?_
                          go_wp2_with (fail)
                          exact HK.out _ _ ⟨by rw [Array.size_setIfInBounds, HS.out], HB.out, _, _, _, _, _, _, _, _, _, _, _, _, _, rfl, fun _ => rfl, fun h => E1.out ((listed_set h).resolve_left (by decide)), fun h => E2.out ((listed_set h).resolve_left (by decide)), fun h => E3.out ((listed_set h).resolve_left (by decide)), fun _ => rfl, fun _ => rfl, fun h => E6.out ((listed_set h).resolve_left (by decide)), fun h => E7.out ((listed_set h).resolve_left (by decide)), fun h => E8.out ((listed_set h).resolve_left (by decide)), fun h => E9.out ((listed_set h).resolve_left (by decide)), fun h => E10.out ((listed_set h).resolve_left (by decide)), fun h => E11.out ((listed_set h).resolve_left (by decide)), fun h => E12.out ((listed_set h).resolve_left (by decide))⟩
                        | 6, hio =>
                          simp only [List.getElem?_toArray, List.getElem?_cons_succ, List.getElem?_cons_zero, Option.some.injEq] at hio
                          subst hio
                          have p5 := PRE.out ⟨5, .data⟩ (by simp) rfl
                          obtain rfl := E5.out p5
                          refine wpOp_by rfl fun K HK => ?_
                          go_wp2_with (refine wpList_load_part rfl 93 _ rfl g (off + FI * 16) rfl AI _ (HCI.out W HB.out) Try.underlying93 rfl (fr_info _ ASI.out) ?_)
                          exact HK.out _ _ ⟨by rw [Array.size_setIfInBounds, HS.out], HB.out, _, _, _, _, _, _, _, _, _, _, _, _, _, rfl, fun h => E0.out ((listed_set h).resolve_left (by decide)), fun h => E1.out ((listed_set h).resolve_left (by decide)), fun h => E2.out ((listed_set h).resolve_left (by decide)), fun h => E3.out ((listed_set h).resolve_left (by decide)), fun h => E4.out ((listed_set h).resolve_left (by decide)), fun _ => rfl, fun _ => rfl, fun h => E7.out ((listed_set h).resolve_left (by decide)), fun h => E8.out ((listed_set h).resolve_left (by decide)), fun h => E9.out ((listed_set h).resolve_left (by decide)), fun h => E10.out ((listed_set h).resolve_left (by decide)), fun h => E11.out ((listed_set h).resolve_left (by decide)), fun h => E12.out ((listed_set h).resolve_left (by decide))⟩
                        | 7, hio =>
                          clear hio
                          refine wpOp_by rfl fun K HK => ?_
                          go_wp2_with (fail)
                          exact HK.out _ _ ⟨by rw [Array.size_setIfInBounds, HS.out], HB.out, _, _, _, _, _, _, _, _, _, _, _, _, _, rfl, fun h => E0.out ((listed_set h).resolve_left (by decide)), fun h => E1.out ((listed_set h).resolve_left (by decide)), fun h => E2.out ((listed_set h).resolve_left (by decide)), fun h => E3.out ((listed_set h).resolve_left (by decide)), fun h => E4.out ((listed_set h).resolve_left (by decide)), fun h => E5.out ((listed_set h).resolve_left (by decide)), fun h => E6.out ((listed_set h).resolve_left (by decide)), fun _ => rfl, fun h => E8.out ((listed_set h).resolve_left (by decide)), fun h => E9.out ((listed_set h).resolve_left (by decide)), fun h => E10.out ((listed_set h).resolve_left (by decide)), fun h => E11.out ((listed_set h).resolve_left (by decide)), fun h => E12.out ((listed_set h).resolve_left (by decide))⟩
                        | 8, hio =>
                          clear hio
                          refine wpOp_by rfl fun K HK => ?_
                          go_wp2_with (fail)
                          exact HK.out _ _ ⟨by rw [Array.size_setIfInBounds, HS.out], HB.out, _, _, _, _, _, _, _, _, _, _, _, _, _, rfl, fun h => E0.out ((listed_set h).resolve_left (by decide)), fun h => E1.out ((listed_set h).resolve_left (by decide)), fun h => E2.out ((listed_set h).resolve_left (by decide)), fun h => E3.out ((listed_set h).resolve_left (by decide)), fun h => E4.out ((listed_set h).resolve_left (by decide)), fun h => E5.out ((listed_set h).resolve_left (by decide)), fun h => E6.out ((listed_set h).resolve_left (by decide)), fun h => E7.out ((listed_set h).resolve_left (by decide)), fun _ => rfl, fun h => E9.out ((listed_set h).resolve_left (by decide)), fun h => E10.out ((listed_set h).resolve_left (by decide)), fun h => E11.out ((listed_set h).resolve_left (by decide)), fun h => E12.out ((listed_set h).resolve_left (by decide))⟩
                        | 9, hio =>
                          simp only [List.getElem?_toArray, List.getElem?_cons_succ, List.getElem?_cons_zero, Option.some.injEq] at hio
                          subst hio
                          have p7 := PRE.out ⟨7, .data⟩ (by simp) rfl
                          have p8 := PRE.out ⟨8, .data⟩ (by simp) rfl
                          obtain rfl := E7.out p7
                          obtain rfl := E8.out p8
                          refine wpOp_by rfl fun K HK => ?_
                          go_wp2_with (fail)
                          exact HK.out _ _ ⟨by rw [Array.size_setIfInBounds, HS.out], HB.out, _, _, _, _, _, _, _, _, _, _, _, _, _, rfl, fun h => E0.out ((listed_set h).resolve_left (by decide)), fun h => E1.out ((listed_set h).resolve_left (by decide)), fun h => E2.out ((listed_set h).resolve_left (by decide)), fun h => E3.out ((listed_set h).resolve_left (by decide)), fun h => E4.out ((listed_set h).resolve_left (by decide)), fun h => E5.out ((listed_set h).resolve_left (by decide)), fun h => E6.out ((listed_set h).resolve_left (by decide)), fun _ => rfl, fun _ => rfl, fun _ => rfl, fun h => E10.out ((listed_set h).resolve_left (by decide)), fun h => E11.out ((listed_set h).resolve_left (by decide)), fun h => E12.out ((listed_set h).resolve_left (by decide))⟩
                        | 10, hio =>
                          simp only [List.getElem?_toArray, List.getElem?_cons_succ, List.getElem?_cons_zero, Option.some.injEq] at hio
                          subst hio
                          have p9 := PRE.out ⟨9, .data⟩ (by simp) rfl
                          obtain rfl := E9.out p9
                          have pc := PI.out W HB.out
                          refine wpOp_by rfl fun K HK => ?_
                          go_wp2_with (fail)
                          exact HK.out _ _ ⟨by rw [Array.size_setIfInBounds, HS.out], HB.out, _, _, _, _, _, _, _, _, _, _, _, _, _, rfl, fun h => E0.out ((listed_set h).resolve_left (by decide)), fun h => E1.out ((listed_set h).resolve_left (by decide)), fun h => E2.out ((listed_set h).resolve_left (by decide)), fun h => E3.out ((listed_set h).resolve_left (by decide)), fun h => E4.out ((listed_set h).resolve_left (by decide)), fun h => E5.out ((listed_set h).resolve_left (by decide)), fun h => E6.out ((listed_set h).resolve_left (by decide)), fun h => E7.out ((listed_set h).resolve_left (by decide)), fun h => E8.out ((listed_set h).resolve_left (by decide)), fun _ => rfl, fun _ => rfl, fun h => E11.out ((listed_set h).resolve_left (by decide)), fun h => E12.out ((listed_set h).resolve_left (by decide))⟩
                        | 11, hio =>
                          simp only [List.getElem?_toArray, List.getElem?_cons_succ, List.getElem?_cons_zero, Option.some.injEq] at hio
                          subst hio
                          have p6 := PRE.out ⟨6, .data⟩ (by simp) rfl
                          have p10 := PRE.out ⟨10, .data⟩ (by simp) rfl
                          obtain rfl := E6.out p6
                          obtain rfl := E10.out p10
                          refine wpOp_by rfl fun K HK => ?_
                          go_wp2_with fail
                          refine Calls.mono (LSI.out _) ?_
                          rintro e W' ⟨rfl, hb⟩
                          have HBB := Lib.hid hb
                          clear hb
                          go_wp2
                          exact HK.out _ _ ⟨by rw [Array.size_setIfInBounds, HS.out], HB.out.trans (HBB.out.mono HB.out.size), _, _, _, _, _, _, _, _, _, _, _, _, _, rfl, fun h => E0.out ((listed_set h).resolve_left (by decide)), fun h => E1.out ((listed_set h).resolve_left (by decide)), fun h => E2.out ((listed_set h).resolve_left (by decide)), fun h => E3.out ((listed_set h).resolve_left (by decide)), fun h => E4.out ((listed_set h).resolve_left (by decide)), fun h => E5.out ((listed_set h).resolve_left (by decide)), fun _ => rfl, fun h => E7.out ((listed_set h).resolve_left (by decide)), fun h => E8.out ((listed_set h).resolve_left (by decide)), fun h => E9.out ((listed_set h).resolve_left (by decide)), fun _ => rfl, fun _ => rfl, fun h => E12.out ((listed_set h).resolve_left (by decide))⟩
                        | 12, hio =>
                          simp only [List.getElem?_toArray, List.getElem?_cons_succ, List.getElem?_cons_zero, Option.some.injEq] at hio
                          subst hio
                          have p11 := PRE.out ⟨11, .data⟩ (by simp) rfl
                          obtain rfl := E11.out p11
                          refine wpOp_by rfl fun K HK => ?_
                          go_wp2_with (fail)
                          exact HK.out _ _ ⟨by rw [Array.size_setIfInBounds, HS.out], HB.out, _, _, _, _, _, _, _, _, _, _, _, _, _, rfl, fun h => E0.out ((listed_set h).resolve_left (by decide)), fun h => E1.out ((listed_set h).resolve_left (by decide)), fun h => E2.out ((listed_set h).resolve_left (by decide)), fun h => E3.out ((listed_set h).resolve_left (by decide)), fun h => E4.out ((listed_set h).resolve_left (by decide)), fun h => E5.out ((listed_set h).resolve_left (by decide)), fun h => E6.out ((listed_set h).resolve_left (by decide)), fun h => E7.out ((listed_set h).resolve_left (by decide)), fun h => E8.out ((listed_set h).resolve_left (by decide)), fun h => E9.out ((listed_set h).resolve_left (by decide)), fun h => E10.out ((listed_set h).resolve_left (by decide)), fun _ => rfl, fun _ => rfl⟩
                        | k + 13, hio => simp at hio
                      case henda =>
                        rintro listed act W1 ⟨hs, hB, x0, x1, x2, x3, x4, x5, x6, x7, x8, x9, x10, x11, x12, rfl, e0, e1, e2, e3, e4, e5, e6, e7, e8, e9, e10, e11, e12⟩ hall
                        obtain rfl := e0 (hall 0 (by decide))
                        obtain rfl := e1 (hall 1 (by decide))
                        obtain rfl := e2 (hall 2 (by decide))
                        obtain rfl := e3 (hall 3 (by decide))
                        obtain rfl := e4 (hall 4 (by decide))
                        obtain rfl := e5 (hall 5 (by decide))
                        obtain rfl := e6 (hall 6 (by decide))
                        obtain rfl := e7 (hall 7 (by decide))
                        obtain rfl := e8 (hall 8 (by decide))
                        obtain rfl := e9 (hall 9 (by decide))
                        obtain rfl := e10 (hall 10 (by decide))
                        obtain rfl := e11 (hall 11 (by decide))
                        obtain rfl := e12 (hall 12 (by decide))
                        clear hs
                        have BZ := Lib.hid (BWr.out.trans (hB.mono BWr.out.size))
                        clear hB hall
                        go_wp2
                        exact bodyPost_ret (v := .tuple #[.complex .f32 0 0, .slice (some ⟨W1.heap.size, 0, none⟩) 0 0, .int .i64 8]) (by simp [results, Try.results33, go_sem]) rfl (SkPost.bad Q.out (by decide) (BZ.out.alloc BZ.out.size _))
                    | true =>
                      have LSI : Hid (∀ w, Calls Try.prog 69 #[.agg AI, .int .i64 (FI : Int)] w fun e w' => e = .returned (.bool true) ∧ Below w.heap.size w w') := Lib.hid fun w => by rw [← hso]; exact LSX w
                      have HSO := Lib.hid hso
                      clear LSX OKI hso hAI hFI hs hb i1 hlt2 hi
                      go_wp2_with fail
                      generalize hdd : decide (n ≤ L1) = dd
                      have HDD := Lib.hid hdd
                      clear hdd
                      refine wp_region_inv (by kernel_rfl) (fun listed act W => listed.size = 13 ∧ Below wr.heap.size wr W ∧ ∃ x0 x1 x2 x3 x4 x5 x6 x7 x8 x9 x10 x11 x12, act = { tmps := #[Value.slice (some { block := g, off := off }) n cap, Value.int IntKind.i64 (Kp : Int), undef, undef, u4, u5, u6, Value.int IntKind.i64 K3, Value.int IntKind.i64 (N3 : Int), Value.int IntKind.i64 (L3 : Int), Value.bool true, Value.slice (some { block := gp, off := 0 }) 2 cp, Value.int IntKind.i64 (L1 : Int), u13, Value.int IntKind.i64 (ip : Int), u15, undef, undef, Value.slice (some { block := g, off := off }) n cap, Value.int IntKind.i64 (n : Int), Value.bool (decide (700 < (n : Int))), undef, Value.slice (some { block := g, off := off }) n cap, Value.int IntKind.i64 (n : Int), Value.bool false, undef, Value.slice (some { block := g, off := off }) n cap, Value.pointer (some { block := g, off := off }), Value.agg A0, Value.bool true, Value.bool false, undef, Value.tuple #[Value.int IntKind.i64 K3, Value.int IntKind.i64 (N3 : Int), Value.int IntKind.i64 (L3 : Int), Value.bool true], Value.slice (some { block := g, off := off }) n cap, Value.pointer (some { block := g, off := off }), Value.agg A0, Value.tuple #[Value.int IntKind.i64 K3, Value.int IntKind.i64 (N3 : Int), Value.int IntKind.i64 (L3 : Int), Value.bool true], Value.int IntKind.i64 K3, Value.int IntKind.i64 (N3 : Int), Value.int IntKind.i64 (L3 : Int), Value.bool true, Value.bool true, Value.bool false, Value.bool false, Value.int IntKind.i64 K3, Value.bool false, Value.bool false, Value.bool false, Value.int IntKind.i64 (L3 : Int), Value.int IntKind.i64 (N3 : Int), Value.int IntKind.i64 (8 * (N3 : Int)), Value.bool false, Value.bool false, undef, Value.int IntKind.i64 (Kp : Int), Value.int IntKind.i64 (N3 : Int), Value.int IntKind.i64 ((N3 : Int) - 1), Value.bool true, Value.bool false, undef, Value.int IntKind.i64 (Kp : Int), Value.int IntKind.i64 (8 * (Kp : Int)), Value.int IntKind.i64 (8 * (Kp : Int) / 12), Value.int IntKind.i64 (F1 : Int), Value.slice (some { block := w2.heap.size, off := 0 }) 1 1, Value.int IntKind.i64 (Kp : Int), Value.int IntKind.i64 (8 * (Kp : Int)), Value.int IntKind.i64 (8 * (Kp : Int) + 7), Value.int IntKind.i64 ((8 * (Kp : Int) + 7) / 12), Value.int IntKind.i64 (L1 : Int), Value.int IntKind.i64 (L1 : Int), Value.slice (some { block := w2.heap.size, off := 0 }) 1 1, Value.pointer (some { block := w2.heap.size, off := 0 }), Value.int IntKind.i64 (F1 : Int), Value.bool true, Value.slice (some { block := w2.heap.size, off := 0 }) 1 1, Value.int IntKind.i64 (L1 : Int), Value.slice (some { block := w3.heap.size, off := 0 }) 1 1, Value.slice (some { block := gp, off := 0 }) 2 cp, Value.slice (some { block := gp, off := 0 }) 2 cp, Value.slice (some { block := gp, off := 0 }) 2 cp, Value.int IntKind.i64 2, Value.int IntKind.i64 1, Value.pointer (some { block := gp, off := 1 }), Value.int IntKind.i64 (L1 : Int), Value.slice (some { block := g, off := off }) n cap, Value.int IntKind.i64 (n : Int), .bool dd, undef, Value.slice (some { block := w4.heap.size, off := 0 }) 0 0, Value.int IntKind.i64 (ip : Int), Value.slice (some { block := gp, off := 0 }) 2 cp, Value.int IntKind.i64 2, Value.bool true, u94, u95, x0, x1, x2, x3, x4, x5, x6, x7, x8, x9, x10, x11, x12, u109, u110, u111, u112, u113, u114, u115, u116, u117, u118, u119, u120, u121, u122, u123, u124, u125, undef, undef, undef, undef, undef, undef, undef, undef, undef, undef, undef, undef, undef, undef, undef, undef, undef, undef, undef], defers := [] } ∧ (listed.getD 0 false = true → x0 = .slice (some ⟨g, off, none⟩) n cap) ∧ (listed.getD 1 false = true → x1 = .slice (some ⟨gp, 0, none⟩) 2 cp) ∧ (listed.getD 2 false = true → x2 = .int .i64 (ip : Int)) ∧ (listed.getD 3 false = true → x3 = .pointer (some ⟨gp, ip, none⟩)) ∧ (listed.getD 4 false = true → x4 = .int .i64 (FI : Int)) ∧ (listed.getD 5 false = true → x5 = .pointer (some ⟨g, off + FI * 16, none⟩)) ∧ (listed.getD 6 false = true → x6 = .agg AI) ∧ (listed.getD 7 false = true → x7 = .slice (some ⟨gp, 0, none⟩) 2 cp) ∧ (listed.getD 8 false = true → x8 = .int .i64 (ip : Int)) ∧ (listed.getD 9 false = true → x9 = .pointer (some ⟨gp, ip, none⟩)) ∧ (listed.getD 10 false = true → x10 = .int .i64 (FI : Int)) ∧ (listed.getD 11 false = true → x11 = .bool true) ∧ (listed.getD 12 false = true → x12 = .bool false)) (by kernel_rfl) ?h0b (fun _ _ _ h => h.1) ?hstepb ?hendb
                      case h0b =>
                        refine ⟨rfl, (Below.refl _ _).drew, _, _, _, _, _, _, _, _, _, _, _, _, _, rfl, ?_, ?_, ?_, ?_, ?_, ?_, ?_, ?_, ?_, ?_, ?_, ?_, ?_⟩ <;> (intro h; exact absurd h (by decide))
                      case hstepb =>
                        rintro listed act W i o ⟨hs, hB, x0, x1, x2, x3, x4, x5, x6, x7, x8, x9, x10, x11, x12, rfl, e0, e1, e2, e3, e4, e5, e6, e7, e8, e9, e10, e11, e12⟩ hun hio hpre
                        have HB := Lib.hid hB
                        have E0 := Lib.hid e0
                        have E1 := Lib.hid e1
                        have E2 := Lib.hid e2
                        have E3 := Lib.hid e3
                        have E4 := Lib.hid e4
                        have E5 := Lib.hid e5
                        have E6 := Lib.hid e6
                        have E7 := Lib.hid e7
                        have E8 := Lib.hid e8
                        have E9 := Lib.hid e9
                        have E10 := Lib.hid e10
                        have E11 := Lib.hid e11
                        have E12 := Lib.hid e12
                        have HS := Lib.hid hs
                        have HU := Lib.hid hun
                        have PRE := Lib.hid hpre
                        clear e0 e1 e2 e3 e4 e5 e6 e7 e8 e9 e10 e11 e12 hs hpre hB hun
                        match i, hio with
                        | 0, hio =>
                          clear hio
                          refine wpOp_by rfl fun K HK => ?_
                          go_wp2_with (fail)
                          exact HK.out _ _ ⟨by rw [Array.size_setIfInBounds, HS.out], HB.out, _, _, _, _, _, _, _, _, _, _, _, _, _, rfl, fun _ => rfl, fun h => E1.out ((listed_set h).resolve_left (by decide)), fun h => E2.out ((listed_set h).resolve_left (by decide)), fun h => E3.out ((listed_set h).resolve_left (by decide)), fun h => E4.out ((listed_set h).resolve_left (by decide)), fun h => E5.out ((listed_set h).resolve_left (by decide)), fun h => E6.out ((listed_set h).resolve_left (by decide)), fun h => E7.out ((listed_set h).resolve_left (by decide)), fun h => E8.out ((listed_set h).resolve_left (by decide)), fun h => E9.out ((listed_set h).resolve_left (by decide)), fun h => E10.out ((listed_set h).resolve_left (by decide)), fun h => E11.out ((listed_set h).resolve_left (by decide)), fun h => E12.out ((listed_set h).resolve_left (by decide))⟩
                        | 1, hio =>
                          clear hio
                          refine wpOp_by rfl fun K HK => ?_
                          go_wp2_with (fail)
                          exact HK.out _ _ ⟨by rw [Array.size_setIfInBounds, HS.out], HB.out, _, _, _, _, _, _, _, _, _, _, _, _, _, rfl, fun h => E0.out ((listed_set h).resolve_left (by decide)), fun _ => rfl, fun h => E2.out ((listed_set h).resolve_left (by decide)), fun h => E3.out ((listed_set h).resolve_left (by decide)), fun h => E4.out ((listed_set h).resolve_left (by decide)), fun h => E5.out ((listed_set h).resolve_left (by decide)), fun h => E6.out ((listed_set h).resolve_left (by decide)), fun h => E7.out ((listed_set h).resolve_left (by decide)), fun h => E8.out ((listed_set h).resolve_left (by decide)), fun h => E9.out ((listed_set h).resolve_left (by decide)), fun h => E10.out ((listed_set h).resolve_left (by decide)), fun h => E11.out ((listed_set h).resolve_left (by decide)), fun h => E12.out ((listed_set h).resolve_left (by decide))⟩
                        | 2, hio =>
                          clear hio
                          refine wpOp_by rfl fun K HK => ?_
                          go_wp2_with (fail)
                          exact HK.out _ _ ⟨by rw [Array.size_setIfInBounds, HS.out], HB.out, _, _, _, _, _, _, _, _, _, _, _, _, _, rfl, fun h => E0.out ((listed_set h).resolve_left (by decide)), fun h => E1.out ((listed_set h).resolve_left (by decide)), fun _ => rfl, fun h => E3.out ((listed_set h).resolve_left (by decide)), fun h => E4.out ((listed_set h).resolve_left (by decide)), fun h => E5.out ((listed_set h).resolve_left (by decide)), fun h => E6.out ((listed_set h).resolve_left (by decide)), fun h => E7.out ((listed_set h).resolve_left (by decide)), fun h => E8.out ((listed_set h).resolve_left (by decide)), fun h => E9.out ((listed_set h).resolve_left (by decide)), fun h => E10.out ((listed_set h).resolve_left (by decide)), fun h => E11.out ((listed_set h).resolve_left (by decide)), fun h => E12.out ((listed_set h).resolve_left (by decide))⟩
                        | 3, hio =>
                          simp only [List.getElem?_toArray, List.getElem?_cons_succ, List.getElem?_cons_zero, Option.some.injEq] at hio
                          subst hio
                          have p1 := PRE.out ⟨1, .data⟩ (by simp) rfl
                          have p2 := PRE.out ⟨2, .data⟩ (by simp) rfl
                          obtain rfl := E1.out p1
                          obtain rfl := E2.out p2
                          refine wpOp_by rfl fun K HK => ?_
                          go_wp2_with (fail)
                          exact HK.out _ _ ⟨by rw [Array.size_setIfInBounds, HS.out], HB.out, _, _, _, _, _, _, _, _, _, _, _, _, _, rfl, fun h => E0.out ((listed_set h).resolve_left (by decide)), fun _ => rfl, fun _ => rfl, fun _ => rfl, fun h => E4.out ((listed_set h).resolve_left (by decide)), fun h => E5.out ((listed_set h).resolve_left (by decide)), fun h => E6.out ((listed_set h).resolve_left (by decide)), fun h => E7.out ((listed_set h).resolve_left (by decide)), fun h => E8.out ((listed_set h).resolve_left (by decide)), fun h => E9.out ((listed_set h).resolve_left (by decide)), fun h => E10.out ((listed_set h).resolve_left (by decide)), fun h => E11.out ((listed_set h).resolve_left (by decide)), fun h => E12.out ((listed_set h).resolve_left (by decide))⟩
                        | 4, hio =>
                          simp only [List.getElem?_toArray, List.getElem?_cons_succ, List.getElem?_cons_zero, Option.some.injEq] at hio
                          subst hio
                          have p3 := PRE.out ⟨3, .data⟩ (by simp) rfl
                          obtain rfl := E3.out p3
                          have pc := PI.out W HB.out
                          refine wpOp_by rfl fun K HK => ?_
                          go_wp2_with (fail)
                          exact HK.out _ _ ⟨by rw [Array.size_setIfInBounds, HS.out], HB.out, _, _, _, _, _, _, _, _, _, _, _, _, _, rfl, fun h => E0.out ((listed_set h).resolve_left (by decide)), fun h => E1.out ((listed_set h).resolve_left (by decide)), fun h => E2.out ((listed_set h).resolve_left (by decide)), fun _ => rfl, fun _ => rfl, fun h => E5.out ((listed_set h).resolve_left (by decide)), fun h => E6.out ((listed_set h).resolve_left (by decide)), fun h => E7.out ((listed_set h).resolve_left (by decide)), fun h => E8.out ((listed_set h).resolve_left (by decide)), fun h => E9.out ((listed_set h).resolve_left (by decide)), fun h => E10.out ((listed_set h).resolve_left (by decide)), fun h => E11.out ((listed_set h).resolve_left (by decide)), fun h => E12.out ((listed_set h).resolve_left (by decide))⟩
                        | 5, hio =>
                          simp only [List.getElem?_toArray, List.getElem?_cons_succ, List.getElem?_cons_zero, Option.some.injEq] at hio
                          subst hio
                          have p0 := PRE.out ⟨0, .data⟩ (by simp) rfl
                          have p4 := PRE.out ⟨4, .data⟩ (by simp) rfl
                          obtain rfl := E0.out p0
                          obtain rfl := E4.out p4
                          refine wpOp_by rfl fun K HK => ?_
                          go_wp2_with (fail)
                          exact HK.out _ _ ⟨by rw [Array.size_setIfInBounds, HS.out], HB.out, _, _, _, _, _, _, _, _, _, _, _, _, _, rfl, fun _ => rfl, fun h => E1.out ((listed_set h).resolve_left (by decide)), fun h => E2.out ((listed_set h).resolve_left (by decide)), fun h => E3.out ((listed_set h).resolve_left (by decide)), fun _ => rfl, fun _ => rfl, fun h => E6.out ((listed_set h).resolve_left (by decide)), fun h => E7.out ((listed_set h).resolve_left (by decide)), fun h => E8.out ((listed_set h).resolve_left (by decide)), fun h => E9.out ((listed_set h).resolve_left (by decide)), fun h => E10.out ((listed_set h).resolve_left (by decide)), fun h => E11.out ((listed_set h).resolve_left (by decide)), fun h => E12.out ((listed_set h).resolve_left (by decide))⟩
                        | 6, hio =>
                          simp only [List.getElem?_toArray, List.getElem?_cons_succ, List.getElem?_cons_zero, Option.some.injEq] at hio
                          subst hio
                          have p5 := PRE.out ⟨5, .data⟩ (by simp) rfl
                          obtain rfl := E5.out p5
                          refine wpOp_by rfl fun K HK => ?_
                          go_wp2_with (refine wpList_load_part rfl 93 _ rfl g (off + FI * 16) rfl AI _ (HCI.out W HB.out) Try.underlying93 rfl (fr_info _ ASI.out) ?_)
                          exact HK.out _ _ ⟨by rw [Array.size_setIfInBounds, HS.out], HB.out, _, _, _, _, _, _, _, _, _, _, _, _, _, rfl, fun h => E0.out ((listed_set h).resolve_left (by decide)), fun h => E1.out ((listed_set h).resolve_left (by decide)), fun h => E2.out ((listed_set h).resolve_left (by decide)), fun h => E3.out ((listed_set h).resolve_left (by decide)), fun h => E4.out ((listed_set h).resolve_left (by decide)), fun _ => rfl, fun _ => rfl, fun h => E7.out ((listed_set h).resolve_left (by decide)), fun h => E8.out ((listed_set h).resolve_left (by decide)), fun h => E9.out ((listed_set h).resolve_left (by decide)), fun h => E10.out ((listed_set h).resolve_left (by decide)), fun h => E11.out ((listed_set h).resolve_left (by decide)), fun h => E12.out ((listed_set h).resolve_left (by decide))⟩
                        | 7, hio =>
                          clear hio
                          refine wpOp_by rfl fun K HK => ?_
                          go_wp2_with (fail)
                          exact HK.out _ _ ⟨by rw [Array.size_setIfInBounds, HS.out], HB.out, _, _, _, _, _, _, _, _, _, _, _, _, _, rfl, fun h => E0.out ((listed_set h).resolve_left (by decide)), fun h => E1.out ((listed_set h).resolve_left (by decide)), fun h => E2.out ((listed_set h).resolve_left (by decide)), fun h => E3.out ((listed_set h).resolve_left (by decide)), fun h => E4.out ((listed_set h).resolve_left (by decide)), fun h => E5.out ((listed_set h).resolve_left (by decide)), fun h => E6.out ((listed_set h).resolve_left (by decide)), fun _ => rfl, fun h => E8.out ((listed_set h).resolve_left (by decide)), fun h => E9.out ((listed_set h).resolve_left (by decide)), fun h => E10.out ((listed_set h).resolve_left (by decide)), fun h => E11.out ((listed_set h).resolve_left (by decide)), fun h => E12.out ((listed_set h).resolve_left (by decide))⟩
                        | 8, hio =>
                          clear hio
                          refine wpOp_by rfl fun K HK => ?_
                          go_wp2_with (fail)
                          exact HK.out _ _ ⟨by rw [Array.size_setIfInBounds, HS.out], HB.out, _, _, _, _, _, _, _, _, _, _, _, _, _, rfl, fun h => E0.out ((listed_set h).resolve_left (by decide)), fun h => E1.out ((listed_set h).resolve_left (by decide)), fun h => E2.out ((listed_set h).resolve_left (by decide)), fun h => E3.out ((listed_set h).resolve_left (by decide)), fun h => E4.out ((listed_set h).resolve_left (by decide)), fun h => E5.out ((listed_set h).resolve_left (by decide)), fun h => E6.out ((listed_set h).resolve_left (by decide)), fun h => E7.out ((listed_set h).resolve_left (by decide)), fun _ => rfl, fun h => E9.out ((listed_set h).resolve_left (by decide)), fun h => E10.out ((listed_set h).resolve_left (by decide)), fun h => E11.out ((listed_set h).resolve_left (by decide)), fun h => E12.out ((listed_set h).resolve_left (by decide))⟩
                        | 9, hio =>
                          simp only [List.getElem?_toArray, List.getElem?_cons_succ, List.getElem?_cons_zero, Option.some.injEq] at hio
                          subst hio
                          have p7 := PRE.out ⟨7, .data⟩ (by simp) rfl
                          have p8 := PRE.out ⟨8, .data⟩ (by simp) rfl
                          obtain rfl := E7.out p7
                          obtain rfl := E8.out p8
                          refine wpOp_by rfl fun K HK => ?_
                          go_wp2_with (fail)
                          exact HK.out _ _ ⟨by rw [Array.size_setIfInBounds, HS.out], HB.out, _, _, _, _, _, _, _, _, _, _, _, _, _, rfl, fun h => E0.out ((listed_set h).resolve_left (by decide)), fun h => E1.out ((listed_set h).resolve_left (by decide)), fun h => E2.out ((listed_set h).resolve_left (by decide)), fun h => E3.out ((listed_set h).resolve_left (by decide)), fun h => E4.out ((listed_set h).resolve_left (by decide)), fun h => E5.out ((listed_set h).resolve_left (by decide)), fun h => E6.out ((listed_set h).resolve_left (by decide)), fun _ => rfl, fun _ => rfl, fun _ => rfl, fun h => E10.out ((listed_set h).resolve_left (by decide)), fun h => E11.out ((listed_set h).resolve_left (by decide)), fun h => E12.out ((listed_set h).resolve_left (by decide))⟩
                        | 10, hio =>
                          simp only [List.getElem?_toArray, List.getElem?_cons_succ, List.getElem?_cons_zero, Option.some.injEq] at hio
                          subst hio
                          have p9 := PRE.out ⟨9, .data⟩ (by simp) rfl
                          obtain rfl := E9.out p9
                          have pc := PI.out W HB.out
                          refine wpOp_by rfl fun K HK => ?_
                          go_wp2_with (fail)
                          exact HK.out _ _ ⟨by rw [Array.size_setIfInBounds, HS.out], HB.out, _, _, _, _, _, _, _, _, _, _, _, _, _, rfl, fun h => E0.out ((listed_set h).resolve_left (by decide)), fun h => E1.out ((listed_set h).resolve_left (by decide)), fun h => E2.out ((listed_set h).resolve_left (by decide)), fun h => E3.out ((listed_set h).resolve_left (by decide)), fun h => E4.out ((listed_set h).resolve_left (by decide)), fun h => E5.out ((listed_set h).resolve_left (by decide)), fun h => E6.out ((listed_set h).resolve_left (by decide)), fun h => E7.out ((listed_set h).resolve_left (by decide)), fun h => E8.out ((listed_set h).resolve_left (by decide)), fun _ => rfl, fun _ => rfl, fun h => E11.out ((listed_set h).resolve_left (by decide)), fun h => E12.out ((listed_set h).resolve_left (by decide))⟩
                        | 11, hio =>
                          simp only [List.getElem?_toArray, List.getElem?_cons_succ, List.getElem?_cons_zero, Option.some.injEq] at hio
                          subst hio
                          have p6 := PRE.out ⟨6, .data⟩ (by simp) rfl
                          have p10 := PRE.out ⟨10, .data⟩ (by simp) rfl
                          obtain rfl := E6.out p6
                          obtain rfl := E10.out p10
                          refine wpOp_by rfl fun K HK => ?_
                          go_wp2_with fail
                          refine Calls.mono (LSI.out _) ?_
                          rintro e W' ⟨rfl, hb⟩
                          have HBB := Lib.hid hb
                          clear hb
                          go_wp2
                          exact HK.out _ _ ⟨by rw [Array.size_setIfInBounds, HS.out], HB.out.trans (HBB.out.mono HB.out.size), _, _, _, _, _, _, _, _, _, _, _, _, _, rfl, fun h => E0.out ((listed_set h).resolve_left (by decide)), fun h => E1.out ((listed_set h).resolve_left (by decide)), fun h => E2.out ((listed_set h).resolve_left (by decide)), fun h => E3.out ((listed_set h).resolve_left (by decide)), fun h => E4.out ((listed_set h).resolve_left (by decide)), fun h => E5.out ((listed_set h).resolve_left (by decide)), fun _ => rfl, fun h => E7.out ((listed_set h).resolve_left (by decide)), fun h => E8.out ((listed_set h).resolve_left (by decide)), fun h => E9.out ((listed_set h).resolve_left (by decide)), fun _ => rfl, fun _ => rfl, fun h => E12.out ((listed_set h).resolve_left (by decide))⟩
                        | 12, hio =>
                          simp only [List.getElem?_toArray, List.getElem?_cons_succ, List.getElem?_cons_zero, Option.some.injEq] at hio
                          subst hio
                          have p11 := PRE.out ⟨11, .data⟩ (by simp) rfl
                          obtain rfl := E11.out p11
                          refine wpOp_by rfl fun K HK => ?_
                          go_wp2_with (fail)
                          exact HK.out _ _ ⟨by rw [Array.size_setIfInBounds, HS.out], HB.out, _, _, _, _, _, _, _, _, _, _, _, _, _, rfl, fun h => E0.out ((listed_set h).resolve_left (by decide)), fun h => E1.out ((listed_set h).resolve_left (by decide)), fun h => E2.out ((listed_set h).resolve_left (by decide)), fun h => E3.out ((listed_set h).resolve_left (by decide)), fun h => E4.out ((listed_set h).resolve_left (by decide)), fun h => E5.out ((listed_set h).resolve_left (by decide)), fun h => E6.out ((listed_set h).resolve_left (by decide)), fun h => E7.out ((listed_set h).resolve_left (by decide)), fun h => E8.out ((listed_set h).resolve_left (by decide)), fun h => E9.out ((listed_set h).resolve_left (by decide)), fun h => E10.out ((listed_set h).resolve_left (by decide)), fun _ => rfl, fun _ => rfl⟩
                        | k + 13, hio => simp at hio
                      case hendb =>
                        rintro listed act W1 ⟨hs, hB, x0, x1, x2, x3, x4, x5, x6, x7, x8, x9, x10, x11, x12, rfl, e0, e1, e2, e3, e4, e5, e6, e7, e8, e9, e10, e11, e12⟩ hall
                        obtain rfl := e0 (hall 0 (by decide))
                        obtain rfl := e1 (hall 1 (by decide))
                        obtain rfl := e2 (hall 2 (by decide))
                        obtain rfl := e3 (hall 3 (by decide))
                        obtain rfl := e4 (hall 4 (by decide))
                        obtain rfl := e5 (hall 5 (by decide))
                        obtain rfl := e6 (hall 6 (by decide))
                        obtain rfl := e7 (hall 7 (by decide))
                        obtain rfl := e8 (hall 8 (by decide))
                        obtain rfl := e9 (hall 9 (by decide))
                        obtain rfl := e10 (hall 10 (by decide))
                        obtain rfl := e11 (hall 11 (by decide))
                        obtain rfl := e12 (hall 12 (by decide))
                        clear hs
                        have BZ := Lib.hid hB
                        have OZ : Hid (OwnU w4.heap.size u13 (12 * ip + 0) (payF fun j => f (16 * F1 + j)) W1) := Lib.hid (ownsRow_belowB ho.out hB)
                        clear hB hall ho
                        go_wp2
                        go_loopw [13, 15] (fun d vj wq => ∃ j : Nat, j ≤ 12 ∧ vj = .int .i64 (j : Int) ∧ Hid (OwnU w4.heap.size d (12 * ip + j) (payF fun j => f (16 * F1 + j)) wq) ∧ Hid (Below w4.heap.size w4 wq)) (fun _ vj _ => 12 - (intOf vj).toNat)
                        case atStart => exact ⟨0, by omega, rfl, OZ, Lib.hid (PRB.out.trans (BZ.out.mono PRB.out.size))⟩
                        case round =>
                          obtain ⟨j, hj, rfl, ho2, hb2⟩ := hrel
                          have BQ : Hid (Below w.heap.size w wr) := Lib.hid (B4.out.trans (hb2.out.mono HW.out))
                          by_cases hj2 : j < 12
                          · have tj : (j : Int) < 12 := by omega
                            have HJ := Lib.hid hj2
                            have pc := PC.out wr hb2.out ip HI1.out
                            rw [HFI.out] at pc
                            have cb : wr.cell? ⟨g, off + FI * 16 + j, none⟩ = some (.int .u8 (f (FI * 16 + j))) := by
                              rw [Nat.add_assoc]
                              exact CA.out wr BQ.out (FI * 16 + j) (by omega)
                            obtain ⟨y, hy⟩ : ∃ y, f (FI * 16 + j) = y := ⟨_, rfl⟩
                            rw [hy] at cb
                            have NX : Hid (∀ x, x < 12 * ip + j + 1 → catU (payF fun j => f (16 * F1 + j)) (12 * ip + j) (fun _ => y) x = (payF fun j => f (16 * F1 + j)) x) := Lib.hid fun x hx => by
                              by_cases hx2 : x < 12 * ip + j
                              · exact catU_lo hx2
                              · have e : x = 12 * ip + j := by omega
                                unfold catU
                                rw [if_neg hx2, ← hy]
                                show f (FI * 16 + j) = f (16 * F1 + (x / 12 * 16 + x % 12))
                                congr 1
                                have := HFI.out
                                omega
                            clear hy hj2 hj
                            go_wp2_with (at_builtin; refine wpList_append_u rfl _ _ rfl w4.heap.size _ (12 * ip + j) (payF fun j => f (16 * F1 + j)) rfl (ho2.out.alloc _) wr.heap.size 0 1 1 (fun _ => y) rfl (fun j0 hj0 => by obtain rfl : j0 = 0 := (by omega); exact (World.cell?_alloc_new _ _ _ _).trans rfl) (by have := HI1.out; have := HJ.out; omega) (by have := hb2.out.size; rw [World.size_alloc]; omega) w4 (hb2.out.alloc hb2.out.size _) ?_; intro v9 w9 h1 h2; have H1 := Lib.hid h1; have H2 := Lib.hid h2; clear h1 h2)
                            go_roundw
                            case rel => exact ⟨j + 1, by have := HJ.out; omega, by go_num, Lib.hid (OwnU.congr H1.out NX.out), H2⟩
                            case measure => have := HJ.out; simp [intOf]; omega
                          · obtain rfl : j = 12 := by omega
                            have O9 : Hid (OwnU w4.heap.size _ (12 * (ip + 1)) (payF fun j => f (16 * F1 + j)) wr) := Lib.hid (by rw [show 12 * (ip + 1) = 12 * ip + 12 from by omega]; exact ho2.out)
                            have S9 : Hid (∀ i2, i2 < ip + 1 → okAt f 0 (F1 + i2) = true) := Lib.hid fun i2 h2 => by
                              rcases Nat.lt_or_ge i2 ip with h | h
                              · exact HS0.out i2 h
                              · obtain rfl : i2 = ip := by omega
                                rw [HFI.out]; exact HSO.out
                            clear ho2 hj2 hj
                            go_wp2
                            have hdd := HDD.out
                            subst hdd
                            go_roundw
                            case rel => exact ⟨ip + 1, HI1.out, by go_num, O9, hb2, S9⟩
                            case measure => have := HI1.out; simp [intOf]; omega
                  · obtain rfl : ip = 2 := by omega
                    obtain ⟨g2, c2, rfl, hc2, hg2, hgs, hcell⟩ := ho.out.form (by decide)
                    have BWr : Hid (Below w.heap.size w wr) := Lib.hid (B4.out.trans (hb.out.mono HW.out))
                    have SV : Hid (skS f Kp = true) := Lib.hid (by
                      have h0 := hs.out 0 (by decide)
                      have h1 := hs.out 1 (by decide)
                      rw [Nat.add_zero] at h0
                      rw [HF1.out] at h1
                      rw [SSE.out, h0, h1]
                      rfl)
                    have RP := Lib.hid (l09Point_any (some ⟨g2, p, none⟩) (12 * 2 - p) (c2 - p) (skB f Kp) (by have := HPM.out; have := HF1.out; omega) BY2.out wr (.inr ⟨g2, p, rfl, hgs, fun j hj => by rw [hcell (p + j) (by omega), EQB.out]⟩))
                    have su : ∀ W, (Instr.slice 45 (.slice (some ⟨g2, 0, none⟩) (12 * 2) c2) (some (.int .i64 (p : Int))) none none).run Try.prog W = .ok (.slice (some ⟨g2, p, none⟩) (12 * 2 - p) (c2 - p)) W := fun W => slice_fromU g2 (12 * 2) c2 p (by have := HPM.out; have := HF1.out; omega) hc2 W
                    have pc0 := PC.out wr hb.out 0 (by decide)
                    rw [Nat.add_zero] at pc0
                    have PRW : Hid (PR 1 w.heap.size w4.heap.size w4 (.slice (some ⟨gp, 0, none⟩) 2 cp) (skN Kp) (FL (skQ Kp))) := Lib.hid (by
                      rw [NN.out, QQ.out, if_neg (by have := HF1.out; omega)]
                      exact O4.out.pr)
                    have BWP := Lib.hid hb.out
                    clear ho hb hs hcell hgs hg2 hc2 hlt2 hi
                    cases hob : okB (skB f Kp) with
                    | true =>
                      have Q : Hid (skC f n (Kp : Int) = 0) := Lib.hid (by rw [SI2.out, SV.out, if_pos rfl, hob, if_pos rfl])
                      rw [hob] at RP
                      clear hob
                      go_wp2_with fail
                      refine RP.out.mono ?_
                      rintro e w9 ⟨rfl, b⟩
                      have B9 := Lib.hid (BWr.out.trans (b.mono BWr.out.size))
                      have B9P := Lib.hid (BWP.out.trans (b.mono BWP.out.size))
                      clear b
                      go_wp2
                      exact bodyPost_ret (v := .tuple #[.complex .f32 (reB (skB f Kp)) (imB (skB f Kp)), .slice (some ⟨gp, 0, none⟩) 2 cp, .int .i64 0]) (by simp [results, Try.results33, go_sem]) rfl (SkPost.good Q.out (pr_wide B9P.out PRW.out) B9.out)
                    | false =>
                      have Q : Hid (skC f n (Kp : Int) = 5) := Lib.hid (by rw [SI2.out, SV.out, if_pos rfl, hob]; exact if_neg (by decide))
                      rw [hob] at RP
                      clear hob
                      go_wp2_with fail
                      refine RP.out.mono ?_
                      rintro e w9 ⟨rfl, b⟩
                      have B9 := Lib.hid (BWr.out.trans (b.mono BWr.out.size))
                      have B9P := Lib.hid (BWP.out.trans (b.mono BWP.out.size))
                      clear b
                      go_wp2
                      exact bodyPost_ret (v := .tuple #[.complex .f32 0 0, .slice (some ⟨w9.heap.size, 0, none⟩) 0 0, .int .i64 5]) (by simp [results, Try.results33, go_sem]) rfl (SkPost.bad Q.out (by decide) (B9.out.alloc B9.out.size _))
            · have dl : ((L1 : Int) != (F1 : Int)) = false := by simp; omega
              by_cases hl : n ≤ L1
              · have nl : (n : Int) ≤ (L1 : Int) := by omega
                have Q : Hid (skC f n (Kp : Int) = 5) := Lib.hid (by rw [SI.out, if_pos hl])
                clear hl
                go_enter Try.func33, Try.ntmps33
                go_wp2_with (refine wpList_load_part rfl 93 _ rfl g off rfl A0 _ (HC.out w BW.out) Try.underlying93 rfl (fr_info _ AS.out) ?_)
                refine (LS.out _).mono ?_
                rintro e w1 ⟨rfl, b⟩
                have B1 := Lib.hid b
                clear b
                go_wp2_with (refine wpList_load_part rfl 93 _ rfl g off rfl A0 _ (HC.out w1 B1.out) Try.underlying93 rfl (fr_info _ AS.out) ?_)
                refine (HD.out _).mono ?_
                rintro e w2 ⟨rfl, b⟩
                have B2 := Lib.hid (B1.out.trans (b.mono B1.out.size))
                clear b
                go_wp2_with fail
                refine (IND.out _).mono ?_
                rintro e w2' ⟨rfl, rfl⟩
                obtain ⟨w3, hw3⟩ : ∃ x, w2.alloc (.cells #[.int .i64 (F1 : Int)] 2) = x := ⟨_, rfl⟩
                have R3 : Hid (w3.heap[w2.heap.size]? = some (.cells #[.int .i64 (F1 : Int)] 2 (0, 0))) := Lib.hid (by rw [← hw3]; exact World.alloc_heap_new w2 _)
                have B3 : Hid (Below w.heap.size w w3) := Lib.hid (by rw [← hw3]; exact B2.out.alloc B2.out.size _)
                have c0 : w3.cell? ⟨w2.heap.size, 0, none⟩ = some (.int .i64 (F1 : Int)) := Lib.cell_of_heap R3.out 0
                go_wp2_with fail
                exact bodyPost_ret (v := .tuple #[.complex .f32 0 0, .slice (some ⟨w3.heap.size, 0, none⟩) 0 0, .int .i64 5]) (by simp [results, Try.results33, go_sem]) rfl (SkPost.bad Q.out (by decide) (B3.out.alloc B3.out.size _))
              · have nl : ¬ ((n : Int) ≤ (L1 : Int)) := by omega
                have nl2 : (L1 : Int) < (n : Int) := by omega
                have SI2 : Hid (skC f n (Kp : Int) = if skS f Kp then (if okB (skB f Kp) then 0 else 5) else 8) := Lib.hid (by rw [SI.out, if_neg hl])
                have BY2 := Lib.hid (BYT.out (by omega))
                have HL := Lib.hid (show L1 < n by omega)
                have HF1 := Lib.hid (show F1 = L1 by omega)
                clear hl SI BYT
                go_enter Try.func33, Try.ntmps33
                go_wp2_with (refine wpList_load_part rfl 93 _ rfl g off rfl A0 _ (HC.out w BW.out) Try.underlying93 rfl (fr_info _ AS.out) ?_)
                refine (LS.out _).mono ?_
                rintro e w1 ⟨rfl, b⟩
                have B1 := Lib.hid b
                clear b
                go_wp2_with (refine wpList_load_part rfl 93 _ rfl g off rfl A0 _ (HC.out w1 B1.out) Try.underlying93 rfl (fr_info _ AS.out) ?_)
                refine (HD.out _).mono ?_
                rintro e w2 ⟨rfl, b⟩
                have B2 := Lib.hid (B1.out.trans (b.mono B1.out.size))
                clear b
                go_wp2_with fail
                refine (IND.out _).mono ?_
                rintro e w2' ⟨rfl, rfl⟩
                obtain ⟨w3, hw3⟩ : ∃ x, w2.alloc (.cells #[.int .i64 (F1 : Int)] 2) = x := ⟨_, rfl⟩
                have R3 : Hid (w3.heap[w2.heap.size]? = some (.cells #[.int .i64 (F1 : Int)] 2 (0, 0))) := Lib.hid (by rw [← hw3]; exact World.alloc_heap_new w2 _)
                have B3 : Hid (Below w.heap.size w w3) := Lib.hid (by rw [← hw3]; exact B2.out.alloc B2.out.size _)
                have c0 : w3.cell? ⟨w2.heap.size, 0, none⟩ = some (.int .i64 (F1 : Int)) := Lib.cell_of_heap R3.out 0
                go_wp2_with fail
                have PC : Hid (∀ W, Below w3.heap.size w3 W → ∀ j, j < 1 → W.cell? ⟨w2.heap.size, j, none⟩ = some (.int .i64 ((F1 + j : Nat) : Int))) := Lib.hid fun W hW j hj => by
                  obtain rfl : j = 0 := (by omega)
                  exact (Below.cell (p := ⟨w2.heap.size, 0, none⟩) hW (Array.getElem?_eq_some_iff.1 R3.out).1).trans (Lib.cell_of_heap R3.out 0)
                have HW : Hid (w.heap.size ≤ w3.heap.size) := Lib.hid B3.out.size
                have O5 : Hid (OwnU w3.heap.size (.slice (some ⟨w3.heap.size, 0, none⟩) 0 0) (12 * 0) (payF fun j => f (16 * F1 + j)) (w3.alloc (.cells #[] 5))) := Lib.hid (World.ownsRow_made (size := 1) w3 #[] 0 (Nat.le_refl _) (by unfold maxLen; omega) rfl)
                have B5 : Hid (Below w3.heap.size w3 (w3.alloc (.cells #[] 5))) := Lib.hid ((Below.refl _ _).alloc (Nat.le_refl _) _)
                generalize w3.alloc (.cells #[] 5) = w5 at O5 B5 ⊢
                go_loopw [13, 14] (fun d vi wr => ∃ ip : Nat, ip ≤ 1 ∧ vi = .int .i64 (ip : Int) ∧ Hid (OwnU w3.heap.size d (12 * ip) (payF fun j => f (16 * F1 + j)) wr) ∧ Hid (Below w3.heap.size w3 wr) ∧ Hid (∀ i2, i2 < ip → okAt f 0 (F1 + i2) = true)) (fun _ vi _ => 1 - (intOf vi).toNat)
                case atStart => exact ⟨0, by omega, rfl, O5, B5, Lib.hid (fun i2 h => absurd h (by omega))⟩
                case round =>
                  obtain ⟨ip, hi, rfl, ho, hb, hs⟩ := hrel
                  by_cases hlt2 : ip < 1
                  · have ti : (ip : Int) < 1 := by omega
                    have i1 : ip < 1 := hlt2
                    obtain ⟨FI, hFI⟩ : ∃ x, F1 + ip = x := ⟨_, rfl⟩
                    have FL1 : FI < n := by have := HL.out; have := HF1.out; omega
                    have fi : (FI : Int) < (n : Int) := by omega
                    have BWr : Hid (Below w.heap.size w wr) := Lib.hid (B3.out.trans (hb.out.mono HW.out))
                    have PI : Hid (∀ W, Below wr.heap.size wr W → W.cell? ⟨w2.heap.size, ip, none⟩ = some (.int .i64 (FI : Int))) := Lib.hid fun W hW => by rw [← hFI]; exact PC.out W (hb.out.trans (hW.mono hb.out.size)) ip i1
                    obtain ⟨AI, hAI⟩ : ∃ x, Q16 (frK f FI) = x := ⟨_, rfl⟩
                    have ASI : Hid (AI.size = 16) := Lib.hid (by rw [← hAI]; exact arr_size _ _ _)
                    have CI : Hid (∀ W, Below wr.heap.size wr W → ∀ j, j < 16 → W.cell? ⟨g, off + FI * 16 + j, none⟩ = some (.int .u8 (f (FI * 16 + j)))) := Lib.hid fun W hW j hj => by
                      rw [Nat.add_assoc]
                      exact CA.out W (BWr.out.trans (hW.mono BWr.out.size)) (FI * 16 + j) (by omega)
                    have HCI : Hid (∀ W, Below wr.heap.size wr W → ∀ j u, AI[j]? = some u → W.cell? ⟨g, off + FI * 16 + j, none⟩ = some u) := Lib.hid fun W hW j u e => by
                      rw [← hAI] at e
                      have hj : j < 16 := by
                        have := (Array.getElem?_eq_some_iff.1 e).1
                        rwa [arr_size] at this
                      rw [CI.out W hW j hj, ← e, arr_get _ _ _ _ hj]
                      rfl
                    have LSX := l09Sound_any FI (frK f FI) (fun j hj => HF.out (FI * 16 + j) (by omega)) (by omega)
                    have OKI : okAt f 0 FI = sndF FI (frK f FI) := okAt_in (by omega)
                    rw [← OKI, hAI] at LSX
                    have FIX : Hid (FI = F1 ∨ FI = L1) := Lib.hid (by have := HF1.out; omega)
                    have HS0 := Lib.hid hs.out
                    have HFI := Lib.hid hFI
                    have HI1 := Lib.hid i1
                    have PRB := Lib.hid hb.out
                    cases hso : okAt f 0 FI with
                    | false =>
                      have LSI : Hid (∀ w, Calls Try.prog 69 #[.agg AI, .int .i64 (FI : Int)] w fun e w' => e = .returned (.bool false) ∧ Below w.heap.size w w') := Lib.hid fun w => by rw [← hso]; exact LSX w
                      have Q : Hid (skC f n (Kp : Int) = 8) := Lib.hid (by
                        have : skS f Kp = false := by
                          rw [SSE.out]
                          rcases FIX.out with h | h
                          · rw [← h, hso]; rfl
                          · rw [← h, hso]; simp
                        rw [SI2.out, this]; exact if_neg (by decide))
                      clear LSX OKI hso hAI hFI hs hb i1 hlt2 hi
                      go_wp2_with fail
                      generalize hdd : decide (n ≤ F1) = dd
                      have HDD := Lib.hid hdd
                      clear hdd
                      refine wp_region_inv (by kernel_rfl) (fun listed act W => listed.size = 13 ∧ Below wr.heap.size wr W ∧ ∃ x0 x1 x2 x3 x4 x5 x6 x7 x8 x9 x10 x11 x12, act = { tmps := #[Value.slice (some { block := g, off := off }) n cap, Value.int IntKind.i64 (Kp : Int), undef, undef, u4, u5, u6, Value.int IntKind.i64 K3, Value.int IntKind.i64 (N3 : Int), Value.int IntKind.i64 (L3 : Int), Value.bool true, Value.slice (some { block := w2.heap.size, off := 0 }) 1 1, Value.int IntKind.i64 (L1 : Int), u13, Value.int IntKind.i64 (ip : Int), u15, undef, undef, Value.slice (some { block := g, off := off }) n cap, Value.int IntKind.i64 (n : Int), Value.bool (decide (700 < (n : Int))), undef, Value.slice (some { block := g, off := off }) n cap, Value.int IntKind.i64 (n : Int), Value.bool false, undef, Value.slice (some { block := g, off := off }) n cap, Value.pointer (some { block := g, off := off }), Value.agg A0, Value.bool true, Value.bool false, undef, Value.tuple #[Value.int IntKind.i64 K3, Value.int IntKind.i64 (N3 : Int), Value.int IntKind.i64 (L3 : Int), Value.bool true], Value.slice (some { block := g, off := off }) n cap, Value.pointer (some { block := g, off := off }), Value.agg A0, Value.tuple #[Value.int IntKind.i64 K3, Value.int IntKind.i64 (N3 : Int), Value.int IntKind.i64 (L3 : Int), Value.bool true], Value.int IntKind.i64 K3, Value.int IntKind.i64 (N3 : Int), Value.int IntKind.i64 (L3 : Int), Value.bool true, Value.bool true, Value.bool false, Value.bool false, Value.int IntKind.i64 K3, Value.bool false, Value.bool false, Value.bool false, Value.int IntKind.i64 (L3 : Int), Value.int IntKind.i64 (N3 : Int), Value.int IntKind.i64 (8 * (N3 : Int)), Value.bool false, Value.bool false, undef, Value.int IntKind.i64 (Kp : Int), Value.int IntKind.i64 (N3 : Int), Value.int IntKind.i64 ((N3 : Int) - 1), Value.bool true, Value.bool false, undef, Value.int IntKind.i64 (Kp : Int), Value.int IntKind.i64 (8 * (Kp : Int)), Value.int IntKind.i64 (8 * (Kp : Int) / 12), Value.int IntKind.i64 (F1 : Int), Value.slice (some { block := w2.heap.size, off := 0 }) 1 1, Value.int IntKind.i64 (Kp : Int), Value.int IntKind.i64 (8 * (Kp : Int)), Value.int IntKind.i64 (8 * (Kp : Int) + 7), Value.int IntKind.i64 ((8 * (Kp : Int) + 7) / 12), Value.int IntKind.i64 (L1 : Int), Value.int IntKind.i64 (L1 : Int), Value.slice (some { block := w2.heap.size, off := 0 }) 1 1, Value.pointer (some { block := w2.heap.size, off := 0 }), Value.int IntKind.i64 (F1 : Int), Value.bool false, undef, undef, undef, undef, Value.slice (some { block := w2.heap.size, off := 0 }) 1 1, Value.slice (some { block := w2.heap.size, off := 0 }) 1 1, Value.int IntKind.i64 1, Value.int IntKind.i64 0, Value.pointer (some { block := w2.heap.size, off := 0 }), Value.int IntKind.i64 (F1 : Int), Value.slice (some { block := g, off := off }) n cap, Value.int IntKind.i64 (n : Int), .bool dd, undef, Value.slice (some { block := w3.heap.size, off := 0 }) 0 0, Value.int IntKind.i64 (ip : Int), Value.slice (some { block := w2.heap.size, off := 0 }) 1 1, Value.int IntKind.i64 1, Value.bool true, u94, u95, x0, x1, x2, x3, x4, x5, x6, x7, x8, x9, x10, x11, x12, u109, u110, u111, u112, u113, u114, u115, u116, u117, u118, u119, u120, u121, u122, u123, u124, u125, undef, undef, undef, undef, undef, undef, undef, undef, undef, undef, undef, undef, undef, undef, undef, undef, undef, undef, undef], defers := [] } ∧ (listed.getD 0 false = true → x0 = .slice (some ⟨g, off, none⟩) n cap) ∧ (listed.getD 1 false = true → x1 = .slice (some ⟨w2.heap.size, 0, none⟩) 1 1) ∧ (listed.getD 2 false = true → x2 = .int .i64 (ip : Int)) ∧ (listed.getD 3 false = true → x3 = .pointer (some ⟨w2.heap.size, ip, none⟩)) ∧ (listed.getD 4 false = true → x4 = .int .i64 (FI : Int)) ∧ (listed.getD 5 false = true → x5 = .pointer (some ⟨g, off + FI * 16, none⟩)) ∧ (listed.getD 6 false = true → x6 = .agg AI) ∧ (listed.getD 7 false = true → x7 = .slice (some ⟨w2.heap.size, 0, none⟩) 1 1) ∧ (listed.getD 8 false = true → x8 = .int .i64 (ip : Int)) ∧ (listed.getD 9 false = true → x9 = .pointer (some ⟨w2.heap.size, ip, none⟩)) ∧ (listed.getD 10 false = true → x10 = .int .i64 (FI : Int)) ∧ (listed.getD 11 false = true → x11 = .bool false) ∧ (listed.getD 12 false = true → x12 = .bool true)) (by kernel_rfl) ?h0a (fun _ _ _ h => h.1) ?hstepa ?henda
                      case h0a =>
                        refine ⟨rfl, (Below.refl _ _).drew, _, _, _, _, _, _, _, _, _, _, _, _, _, rfl, ?_, ?_, ?_, ?_, ?_, ?_, ?_, ?_, ?_, ?_, ?_, ?_, ?_⟩ <;> (intro h; exact absurd h (by decide))
                      case hstepa =>
                        rintro listed act W i o ⟨hs, hB, x0, x1, x2, x3, x4, x5, x6, x7, x8, x9, x10, x11, x12, rfl, e0, e1, e2, e3, e4, e5, e6, e7, e8, e9, e10, e11, e12⟩ hun hio hpre
                        have HB := Lib.hid hB
                        have E0 := Lib.hid e0
                        have E1 := Lib.hid e1
                        have E2 := Lib.hid e2
                        have E3 := Lib.hid e3
                        have E4 := Lib.hid e4
                        have E5 := Lib.hid e5
                        have E6 := Lib.hid e6
                        have E7 := Lib.hid e7
                        have E8 := Lib.hid e8
                        have E9 := Lib.hid e9
                        have E10 := Lib.hid e10
                        have E11 := Lib.hid e11
                        have E12 := Lib.hid e12
                        have HS := Lib.hid hs
                        have HU := Lib.hid hun
                        have PRE := Lib.hid hpre
                        clear e0 e1 e2 e3 e4 e5 e6 e7 e8 e9 e10 e11 e12 hs hpre hB hun
                        match i, hio with
                        | 0, hio =>
                          clear hio
                          refine wpOp_by rfl fun K HK => ?_
                          go_wp2_with (fail)
                          exact HK.out _ _ ⟨by rw [Array.size_setIfInBounds, HS.out], HB.out, _, _, _, _, _, _, _, _, _, _, _, _, _, rfl, fun _ => rfl, fun h => E1.out ((listed_set h).resolve_left (by decide)), fun h => E2.out ((listed_set h).resolve_left (by decide)), fun h => E3.out ((listed_set h).resolve_left (by decide)), fun h => E4.out ((listed_set h).resolve_left (by decide)), fun h => E5.out ((listed_set h).resolve_left (by decide)), fun h => E6.out ((listed_set h).resolve_left (by decide)), fun h => E7.out ((listed_set h).resolve_left (by decide)), fun h => E8.out ((listed_set h).resolve_left (by decide)), fun h => E9.out ((listed_set h).resolve_left (by decide)), fun h => E10.out ((listed_set h).resolve_left (by decide)), fun h => E11.out ((listed_set h).resolve_left (by decide)), fun h => E12.out ((listed_set h).resolve_left (by decide))⟩
                        | 1, hio =>
                          clear hio
                          refine wpOp_by rfl fun K HK => ?_
                          go_wp2_with (fail)
                          exact HK.out _ _ ⟨by rw [Array.size_setIfInBounds, HS.out], HB.out, _, _, _, _, _, _, _, _, _, _, _, _, _, rfl, fun h => E0.out ((listed_set h).resolve_left (by decide)), fun _ => rfl, fun h => E2.out ((listed_set h).resolve_left (by decide)), fun h => E3.out ((listed_set h).resolve_left (by decide)), fun h => E4.out ((listed_set h).resolve_left (by decide)), fun h => E5.out ((listed_set h).resolve_left (by decide)), fun h => E6.out ((listed_set h).resolve_left (by decide)), fun h => E7.out ((listed_set h).resolve_left (by decide)), fun h => E8.out ((listed_set h).resolve_left (by decide)), fun h => E9.out ((listed_set h).resolve_left (by decide)), fun h => E10.out ((listed_set h).resolve_left (by decide)), fun h => E11.out ((listed_set h).resolve_left (by decide)), fun h => E12.out ((listed_set h).resolve_left (by decide))⟩
                        | 2, hio =>
                          clear hio
                          refine wpOp_by rfl fun K HK => ?_
                          go_wp2_with (fail)
                          exact HK.out _ _ ⟨by rw [Array.size_setIfInBounds, HS.out], HB.out, _, _, _, _, _, _, _, _, _, _, _, _, _, rfl, fun h => E0.out ((listed_set h).resolve_left (by decide)), fun h => E1.out ((listed_set h).resolve_left (by decide)), fun _ => rfl, fun h => E3.out ((listed_set h).resolve_left (by decide)), fun h => E4.out ((listed_set h).resolve_left (by decide)), fun h => E5.out ((listed_set h).resolve_left (by decide)), fun h => E6.out ((listed_set h).resolve_left (by decide)), fun h => E7.out ((listed_set h).resolve_left (by decide)), fun h => E8.out ((listed_set h).resolve_left (by decide)), fun h => E9.out ((listed_set h).resolve_left (by decide)), fun h => E10.out ((listed_set h).resolve_left (by decide)), fun h => E11.out ((listed_set h).resolve_left (by decide)), fun h => E12.out ((listed_set h).resolve_left (by decide))⟩
                        | 3, hio =>
                          simp only [List.getElem?_toArray, List.getElem?_cons_succ, List.getElem?_cons_zero, Option.some.injEq] at hio
                          subst hio
                          have p1 := PRE.out ⟨1, .data⟩ (by simp) rfl
                          have p2 := PRE.out ⟨2, .data⟩ (by simp) rfl
                          obtain rfl := E1.out p1
                          obtain rfl := E2.out p2
                          refine wpOp_by rfl fun K HK => ?_
                          go_wp2_with (fail)
                          exact HK.out _ _ ⟨by rw [Array.size_setIfInBounds, HS.out], HB.out, _, _, _, _, _, _, _, _, _, _, _, _, _, rfl, fun h => E0.out ((listed_set h).resolve_left (by decide)), fun _ => rfl, fun _ => rfl, fun _ => rfl, fun h => E4.out ((listed_set h).resolve_left (by decide)), fun h => E5.out ((listed_set h).resolve_left (by decide)), fun h => E6.out ((listed_set h).resolve_left (by decide)), fun h => E7.out ((listed_set h).resolve_left (by decide)), fun h => E8.out ((listed_set h).resolve_left (by decide)), fun h => E9.out ((listed_set h).resolve_left (by decide)), fun h => E10.out ((listed_set h).resolve_left (by decide)), fun h => E11.out ((listed_set h).resolve_left (by decide)), fun h => E12.out ((listed_set h).resolve_left (by decide))⟩
                        | 4, hio =>
                          simp only [List.getElem?_toArray, List.getElem?_cons_succ, List.getElem?_cons_zero, Option.some.injEq] at hio
                          subst hio
                          have p3 := PRE.out ⟨3, .data⟩ (by simp) rfl
                          obtain rfl := E3.out p3
                          have pc := PI.out W HB.out
                          refine wpOp_by rfl fun K HK => ?_
                          go_wp2_with (fail)
                          exact HK.out _ _ ⟨by rw [Array.size_setIfInBounds, HS.out], HB.out, _, _, _, _, _, _, _, _, _, _, _, _, _, rfl, fun h => E0.out ((listed_set h).resolve_left (by decide)), fun h => E1.out ((listed_set h).resolve_left (by decide)), fun h => E2.out ((listed_set h).resolve_left (by decide)), fun _ => rfl, fun _ => rfl, fun h => E5.out ((listed_set h).resolve_left (by decide)), fun h => E6.out ((listed_set h).resolve_left (by decide)), fun h => E7.out ((listed_set h).resolve_left (by decide)), fun h => E8.out ((listed_set h).resolve_left (by decide)), fun h => E9.out ((listed_set h).resolve_left (by decide)), fun h => E10.out ((listed_set h).resolve_left (by decide)), fun h => E11.out ((listed_set h).resolve_left (by decide)), fun h => E12.out ((listed_set h).resolve_left (by decide))⟩
                        | 5, hio =>
                          simp only [List.getElem?_toArray, List.getElem?_cons_succ, List.getElem?_cons_zero, Option.some.injEq] at hio
                          subst hio
                          have p0 := PRE.out ⟨0, .data⟩ (by simp) rfl
                          have p4 := PRE.out ⟨4, .data⟩ (by simp) rfl
                          obtain rfl := E0.out p0
                          obtain rfl := E4.out p4
                          refine wpOp_by rfl fun K HK => ?_
                          go_wp2_with (fail)
                          exact HK.out _ _ ⟨by rw [Array.size_setIfInBounds, HS.out], HB.out, _, _, _, _, _, _, _, _, _, _, _, _, _, rfl, fun _ => rfl, fun h => E1.out ((listed_set h).resolve_left (by decide)), fun h => E2.out ((listed_set h).resolve_left (by decide)), fun h => E3.out ((listed_set h).resolve_left (by decide)), fun _ => rfl, fun _ => rfl, fun h => E6.out ((listed_set h).resolve_left (by decide)), fun h => E7.out ((listed_set h).resolve_left (by decide)), fun h => E8.out ((listed_set h).resolve_left (by decide)), fun h => E9.out ((listed_set h).resolve_left (by decide)), fun h => E10.out ((listed_set h).resolve_left (by decide)), fun h => E11.out ((listed_set h).resolve_left (by decide)), fun h => E12.out ((listed_set h).resolve_left (by decide))⟩
                        | 6, hio =>
                          simp only [List.getElem?_toArray, List.getElem?_cons_succ, List.getElem?_cons_zero, Option.some.injEq] at hio
                          subst hio
                          have p5 := PRE.out ⟨5, .data⟩ (by simp) rfl
                          obtain rfl := E5.out p5
                          refine wpOp_by rfl fun K HK => ?_
                          go_wp2_with (refine wpList_load_part rfl 93 _ rfl g (off + FI * 16) rfl AI _ (HCI.out W HB.out) Try.underlying93 rfl (fr_info _ ASI.out) ?_)
                          exact HK.out _ _ ⟨by rw [Array.size_setIfInBounds, HS.out], HB.out, _, _, _, _, _, _, _, _, _, _, _, _, _, rfl, fun h => E0.out ((listed_set h).resolve_left (by decide)), fun h => E1.out ((listed_set h).resolve_left (by decide)), fun h => E2.out ((listed_set h).resolve_left (by decide)), fun h => E3.out ((listed_set h).resolve_left (by decide)), fun h => E4.out ((listed_set h).resolve_left (by decide)), fun _ => rfl, fun _ => rfl, fun h => E7.out ((listed_set h).resolve_left (by decide)), fun h => E8.out ((listed_set h).resolve_left (by decide)), fun h => E9.out ((listed_set h).resolve_left (by decide)), fun h => E10.out ((listed_set h).resolve_left (by decide)), fun h => E11.out ((listed_set h).resolve_left (by decide)), fun h => E12.out ((listed_set h).resolve_left (by decide))⟩
                        | 7, hio =>
                          clear hio
                          refine wpOp_by rfl fun K HK => ?_
                          go_wp2_with (fail)
                          exact HK.out _ _ ⟨by rw [Array.size_setIfInBounds, HS.out], HB.out, _, _, _, _, _, _, _, _, _, _, _, _, _, rfl, fun h => E0.out ((listed_set h).resolve_left (by decide)), fun h => E1.out ((listed_set h).resolve_left (by decide)), fun h => E2.out ((listed_set h).resolve_left (by decide)), fun h => E3.out ((listed_set h).resolve_left (by decide)), fun h => E4.out ((listed_set h).resolve_left (by decide)), fun h => E5.out ((listed_set h).resolve_left (by decide)), fun h => E6.out ((listed_set h).resolve_left (by decide)), fun _ => rfl, fun h => E8.out ((listed_set h).resolve_left (by decide)), fun h => E9.out ((listed_set h).resolve_left (by decide)), fun h => E10.out ((listed_set h).resolve_left (by decide)), fun h => E11.out ((listed_set h).resolve_left (by decide)), fun h => E12.out ((listed_set h).resolve_left (by decide))⟩
                        | 8, hio =>
                          clear hio
                          refine wpOp_by rfl fun K HK => ?_
                          go_wp2_with (fail)
                          exact HK.out _ _ ⟨by rw [Array.size_setIfInBounds, HS.out], HB.out, _, _, _, _, _, _, _, _, _, _, _, _, _, rfl, fun h => E0.out ((listed_set h).resolve_left (by decide)), fun h => E1.out ((listed_set h).resolve_left (by decide)), fun h => E2.out ((listed_set h).resolve_left (by decide)), fun h => E3.out ((listed_set h).resolve_left (by decide)), fun h => E4.out ((listed_set h).resolve_left (by decide)), fun h => E5.out ((listed_set h).resolve_left (by decide)), fun h => E6.out ((listed_set h).resolve_left (by decide)), fun h => E7.out ((listed_set h).resolve_left (by decide)), fun _ => rfl, fun h => E9.out ((listed_set h).resolve_left (by decide)), fun h => E10.out ((listed_set h).resolve_left (by decide)), fun h => E11.out ((listed_set h).resolve_left (by decide)), fun h => E12.out ((listed_set h).resolve_left (by decide))⟩
                        | 9, hio =>
                          simp only [List.getElem?_toArray, List.getElem?_cons_succ, List.getElem?_cons_zero, Option.some.injEq] at hio
                          subst hio
                          have p7 := PRE.out ⟨7, .data⟩ (by simp) rfl
                          have p8 := PRE.out ⟨8, .data⟩ (by simp) rfl
                          obtain rfl := E7.out p7
                          obtain rfl := E8.out p8
                          refine wpOp_by rfl fun K HK => ?_
                          go_wp2_with (fail)
                          exact HK.out _ _ ⟨by rw [Array.size_setIfInBounds, HS.out], HB.out, _, _, _, _, _, _, _, _, _, _, _, _, _, rfl, fun h => E0.out ((listed_set h).resolve_left (by decide)), fun h => E1.out ((listed_set h).resolve_left (by decide)), fun h => E2.out ((listed_set h).resolve_left (by decide)), fun h => E3.out ((listed_set h).resolve_left (by decide)), fun h => E4.out ((listed_set h).resolve_left (by decide)), fun h => E5.out ((listed_set h).resolve_left (by decide)), fun h => E6.out ((listed_set h).resolve_left (by decide)), fun _ => rfl, fun _ => rfl, fun _ => rfl, fun h => E10.out ((listed_set h).resolve_left (by decide)), fun h => E11.out ((listed_set h).resolve_left (by decide)), fun h => E12.out ((listed_set h).resolve_left (by decide))⟩
                        | 10, hio =>
                          simp only [List.getElem?_toArray, List.getElem?_cons_succ, List.getElem?_cons_zero, Option.some.injEq] at hio
                          subst hio
                          have p9 := PRE.out ⟨9, .data⟩ (by simp) rfl
                          obtain rfl := E9.out p9
                          have pc := PI.out W HB.out
                          refine wpOp_by rfl fun K HK => ?_
                          go_wp2_with (fail)
                          exact HK.out _ _ ⟨by rw [Array.size_setIfInBounds, HS.out], HB.out, _, _, _, _, _, _, _, _, _, _, _, _, _, rfl, fun h => E0.out ((listed_set h).resolve_left (by decide)), fun h => E1.out ((listed_set h).resolve_left (by decide)), fun h => E2.out ((listed_set h).resolve_left (by decide)), fun h => E3.out ((listed_set h).resolve_left (by decide)), fun h => E4.out ((listed_set h).resolve_left (by decide)), fun h => E5.out ((listed_set h).resolve_left (by decide)), fun h => E6.out ((listed_set h).resolve_left (by decide)), fun h => E7.out ((listed_set h).resolve_left (by decide)), fun h => E8.out ((listed_set h).resolve_left (by decide)), fun _ => rfl, fun _ => rfl, fun h => E11.out ((listed_set h).resolve_left (by decide)), fun h => E12.out ((listed_set h).resolve_left (by decide))⟩
                        | 11, hio =>
                          simp only [List.getElem?_toArray, List.getElem?_cons_succ, List.getElem?_cons_zero, Option.some.injEq] at hio
                          subst hio
                          have p6 := PRE.out ⟨6, .data⟩ (by simp) rfl
                          have p10 := PRE.out ⟨10, .data⟩ (by simp) rfl
                          obtain rfl := E6.out p6
                          obtain rfl := E10.out p10
                          refine wpOp_by rfl fun K HK => ?_
                          go_wp2_with fail
                          refine Calls.mono (LSI.out _) ?_
                          rintro e W' ⟨rfl, hb⟩
                          have HBB := Lib.hid hb
                          clear hb
                          go_wp2
                          exact HK.out _ _ ⟨by rw [Array.size_setIfInBounds, HS.out], HB.out.trans (HBB.out.mono HB.out.size), _, _, _, _, _, _, _, _, _, _, _, _, _, rfl, fun h => E0.out ((listed_set h).resolve_left (by decide)), fun h => E1.out ((listed_set h).resolve_left (by decide)), fun h => E2.out ((listed_set h).resolve_left (by decide)), fun h => E3.out ((listed_set h).resolve_left (by decide)), fun h => E4.out ((listed_set h).resolve_left (by decide)), fun h => E5.out ((listed_set h).resolve_left (by decide)), fun _ => rfl, fun h => E7.out ((listed_set h).resolve_left (by decide)), fun h => E8.out ((listed_set h).resolve_left (by decide)), fun h => E9.out ((listed_set h).resolve_left (by decide)), fun _ => rfl, fun _ => rfl, fun h => E12.out ((listed_set h).resolve_left (by decide))⟩
                        | 12, hio =>
                          simp only [List.getElem?_toArray, List.getElem?_cons_succ, List.getElem?_cons_zero, Option.some.injEq] at hio
                          subst hio
                          have p11 := PRE.out ⟨11, .data⟩ (by simp) rfl
                          obtain rfl := E11.out p11
                          refine wpOp_by rfl fun K HK => ?_
                          go_wp2_with (fail)
                          exact HK.out _ _ ⟨by rw [Array.size_setIfInBounds, HS.out], HB.out, _, _, _, _, _, _, _, _, _, _, _, _, _, rfl, fun h => E0.out ((listed_set h).resolve_left (by decide)), fun h => E1.out ((listed_set h).resolve_left (by decide)), fun h => E2.out ((listed_set h).resolve_left (by decide)), fun h => E3.out ((listed_set h).resolve_left (by decide)), fun h => E4.out ((listed_set h).resolve_left (by decide)), fun h => E5.out ((listed_set h).resolve_left (by decide)), fun h => E6.out ((listed_set h).resolve_left (by decide)), fun h => E7.out ((listed_set h).resolve_left (by decide)), fun h => E8.out ((listed_set h).resolve_left (by decide)), fun h => E9.out ((listed_set h).resolve_left (by decide)), fun h => E10.out ((listed_set h).resolve_left (by decide)), fun _ => rfl, fun _ => rfl⟩
                        | k + 13, hio => simp at hio
                      case henda =>
                        rintro listed act W1 ⟨hs, hB, x0, x1, x2, x3, x4, x5, x6, x7, x8, x9, x10, x11, x12, rfl, e0, e1, e2, e3, e4, e5, e6, e7, e8, e9, e10, e11, e12⟩ hall
                        obtain rfl := e0 (hall 0 (by decide))
                        obtain rfl := e1 (hall 1 (by decide))
                        obtain rfl := e2 (hall 2 (by decide))
                        obtain rfl := e3 (hall 3 (by decide))
                        obtain rfl := e4 (hall 4 (by decide))
                        obtain rfl := e5 (hall 5 (by decide))
                        obtain rfl := e6 (hall 6 (by decide))
                        obtain rfl := e7 (hall 7 (by decide))
                        obtain rfl := e8 (hall 8 (by decide))
                        obtain rfl := e9 (hall 9 (by decide))
                        obtain rfl := e10 (hall 10 (by decide))
                        obtain rfl := e11 (hall 11 (by decide))
                        obtain rfl := e12 (hall 12 (by decide))
                        clear hs
                        have BZ := Lib.hid (BWr.out.trans (hB.mono BWr.out.size))
                        clear hB hall
                        go_wp2
                        exact bodyPost_ret (v := .tuple #[.complex .f32 0 0, .slice (some ⟨W1.heap.size, 0, none⟩) 0 0, .int .i64 8]) (by simp [results, Try.results33, go_sem]) rfl (SkPost.bad Q.out (by decide) (BZ.out.alloc BZ.out.size _))
                    | true =>
                      have LSI : Hid (∀ w, Calls Try.prog 69 #[.agg AI, .int .i64 (FI : Int)] w fun e w' => e = .returned (.bool true) ∧ Below w.heap.size w w') := Lib.hid fun w => by rw [← hso]; exact LSX w
                      have HSO := Lib.hid hso
                      clear LSX OKI hso hAI hFI hs hb i1 hlt2 hi
                      go_wp2_with fail
                      generalize hdd : decide (n ≤ F1) = dd
                      have HDD := Lib.hid hdd
                      clear hdd
                      refine wp_region_inv (by kernel_rfl) (fun listed act W => listed.size = 13 ∧ Below wr.heap.size wr W ∧ ∃ x0 x1 x2 x3 x4 x5 x6 x7 x8 x9 x10 x11 x12, act = { tmps := #[Value.slice (some { block := g, off := off }) n cap, Value.int IntKind.i64 (Kp : Int), undef, undef, u4, u5, u6, Value.int IntKind.i64 K3, Value.int IntKind.i64 (N3 : Int), Value.int IntKind.i64 (L3 : Int), Value.bool true, Value.slice (some { block := w2.heap.size, off := 0 }) 1 1, Value.int IntKind.i64 (L1 : Int), u13, Value.int IntKind.i64 (ip : Int), u15, undef, undef, Value.slice (some { block := g, off := off }) n cap, Value.int IntKind.i64 (n : Int), Value.bool (decide (700 < (n : Int))), undef, Value.slice (some { block := g, off := off }) n cap, Value.int IntKind.i64 (n : Int), Value.bool false, undef, Value.slice (some { block := g, off := off }) n cap, Value.pointer (some { block := g, off := off }), Value.agg A0, Value.bool true, Value.bool false, undef, Value.tuple #[Value.int IntKind.i64 K3, Value.int IntKind.i64 (N3 : Int), Value.int IntKind.i64 (L3 : Int), Value.bool true], Value.slice (some { block := g, off := off }) n cap, Value.pointer (some { block := g, off := off }), Value.agg A0, Value.tuple #[Value.int IntKind.i64 K3, Value.int IntKind.i64 (N3 : Int), Value.int IntKind.i64 (L3 : Int), Value.bool true], Value.int IntKind.i64 K3, Value.int IntKind.i64 (N3 : Int), Value.int IntKind.i64 (L3 : Int), Value.bool true, Value.bool true, Value.bool false, Value.bool false, Value.int IntKind.i64 K3, Value.bool false, Value.bool false, Value.bool false, Value.int IntKind.i64 (L3 : Int), Value.int IntKind.i64 (N3 : Int), Value.int IntKind.i64 (8 * (N3 : Int)), Value.bool false, Value.bool false, undef, Value.int IntKind.i64 (Kp : Int), Value.int IntKind.i64 (N3 : Int), Value.int IntKind.i64 ((N3 : Int) - 1), Value.bool true, Value.bool false, undef, Value.int IntKind.i64 (Kp : Int), Value.int IntKind.i64 (8 * (Kp : Int)), Value.int IntKind.i64 (8 * (Kp : Int) / 12), Value.int IntKind.i64 (F1 : Int), Value.slice (some { block := w2.heap.size, off := 0 }) 1 1, Value.int IntKind.i64 (Kp : Int), Value.int IntKind.i64 (8 * (Kp : Int)), Value.int IntKind.i64 (8 * (Kp : Int) + 7), Value.int IntKind.i64 ((8 * (Kp : Int) + 7) / 12), Value.int IntKind.i64 (L1 : Int), Value.int IntKind.i64 (L1 : Int), Value.slice (some { block := w2.heap.size, off := 0 }) 1 1, Value.pointer (some { block := w2.heap.size, off := 0 }), Value.int IntKind.i64 (F1 : Int), Value.bool false, undef, undef, undef, undef, Value.slice (some { block := w2.heap.size, off := 0 }) 1 1, Value.slice (some { block := w2.heap.size, off := 0 }) 1 1, Value.int IntKind.i64 1, Value.int IntKind.i64 0, Value.pointer (some { block := w2.heap.size, off := 0 }), Value.int IntKind.i64 (F1 : Int), Value.slice (some { block := g, off := off }) n cap, Value.int IntKind.i64 (n : Int), .bool dd, undef, Value.slice (some { block := w3.heap.size, off := 0 }) 0 0, Value.int IntKind.i64 (ip : Int), Value.slice (some { block := w2.heap.size, off := 0 }) 1 1, Value.int IntKind.i64 1, Value.bool true, u94, u95, x0, x1, x2, x3, x4, x5, x6, x7, x8, x9, x10, x11, x12, u109, u110, u111, u112, u113, u114, u115, u116, u117, u118, u119, u120, u121, u122, u123, u124, u125, undef, undef, undef, undef, undef, undef, undef, undef, undef, undef, undef, undef, undef, undef, undef, undef, undef, undef, undef], defers := [] } ∧ (listed.getD 0 false = true → x0 = .slice (some ⟨g, off, none⟩) n cap) ∧ (listed.getD 1 false = true → x1 = .slice (some ⟨w2.heap.size, 0, none⟩) 1 1) ∧ (listed.getD 2 false = true → x2 = .int .i64 (ip : Int)) ∧ (listed.getD 3 false = true → x3 = .pointer (some ⟨w2.heap.size, ip, none⟩)) ∧ (listed.getD 4 false = true → x4 = .int .i64 (FI : Int)) ∧ (listed.getD 5 false = true → x5 = .pointer (some ⟨g, off + FI * 16, none⟩)) ∧ (listed.getD 6 false = true → x6 = .agg AI) ∧ (listed.getD 7 false = true → x7 = .slice (some ⟨w2.heap.size, 0, none⟩) 1 1) ∧ (listed.getD 8 false = true → x8 = .int .i64 (ip : Int)) ∧ (listed.getD 9 false = true → x9 = .pointer (some ⟨w2.heap.size, ip, none⟩)) ∧ (listed.getD 10 false = true → x10 = .int .i64 (FI : Int)) ∧ (listed.getD 11 false = true → x11 = .bool true) ∧ (listed.getD 12 false = true → x12 = .bool false)) (by kernel_rfl) ?h0b (fun _ _ _ h => h.1) ?hstepb ?hendb
                      case h0b =>
                        refine ⟨rfl, (Below.refl _ _).drew, _, _, _, _, _, _, _, _, _, _, _, _, _, rfl, ?_, ?_, ?_, ?_, ?_, ?_, ?_, ?_, ?_, ?_, ?_, ?_, ?_⟩ <;> (intro h; exact absurd h (by decide))
                      case hstepb =>
                        rintro listed act W i o ⟨hs, hB, x0, x1, x2, x3, x4, x5, x6, x7, x8, x9, x10, x11, x12, rfl, e0, e1, e2, e3, e4, e5, e6, e7, e8, e9, e10, e11, e12⟩ hun hio hpre
                        have HB := Lib.hid hB
                        have E0 := Lib.hid e0
                        have E1 := Lib.hid e1
                        have E2 := Lib.hid e2
                        have E3 := Lib.hid e3
                        have E4 := Lib.hid e4
                        have E5 := Lib.hid e5
                        have E6 := Lib.hid e6
                        have E7 := Lib.hid e7
                        have E8 := Lib.hid e8
                        have E9 := Lib.hid e9
                        have E10 := Lib.hid e10
                        have E11 := Lib.hid e11
                        have E12 := Lib.hid e12
                        have HS := Lib.hid hs
                        have HU := Lib.hid hun
                        have PRE := Lib.hid hpre
                        clear e0 e1 e2 e3 e4 e5 e6 e7 e8 e9 e10 e11 e12 hs hpre hB hun
                        match i, hio with
                        | 0, hio =>
                          clear hio
                          refine wpOp_by rfl fun K HK => ?_
                          go_wp2_with (fail)
                          exact HK.out _ _ ⟨by rw [Array.size_setIfInBounds, HS.out], HB.out, _, _, _, _, _, _, _, _, _, _, _, _, _, rfl, fun _ => rfl, fun h => E1.out ((listed_set h).resolve_left (by decide)), fun h => E2.out ((listed_set h).resolve_left (by decide)), fun h => E3.out ((listed_set h).resolve_left (by decide)), fun h => E4.out ((listed_set h).resolve_left (by decide)), fun h => E5.out ((listed_set h).resolve_left (by decide)), fun h => E6.out ((listed_set h).resolve_left (by decide)), fun h => E7.out ((listed_set h).resolve_left (by decide)), fun h => E8.out ((listed_set h).resolve_left (by decide)), fun h => E9.out ((listed_set h).resolve_left (by decide)), fun h => E10.out ((listed_set h).resolve_left (by decide)), fun h => E11.out ((listed_set h).resolve_left (by decide)), fun h => E12.out ((listed_set h).resolve_left (by decide))⟩
                        | 1, hio =>
                          clear hio
                          refine wpOp_by rfl fun K HK => ?_
                          go_wp2_with (fail)
                          exact HK.out _ _ ⟨by rw [Array.size_setIfInBounds, HS.out], HB.out, _, _, _, _, _, _, _, _, _, _, _, _, _, rfl, fun h => E0.out ((listed_set h).resolve_left (by decide)), fun _ => rfl, fun h => E2.out ((listed_set h).resolve_left (by decide)), fun h => E3.out ((listed_set h).resolve_left (by decide)), fun h => E4.out ((listed_set h).resolve_left (by decide)), fun h => E5.out ((listed_set h).resolve_left (by decide)), fun h => E6.out ((listed_set h).resolve_left (by decide)), fun h => E7.out ((listed_set h).resolve_left (by decide)), fun h => E8.out ((listed_set h).resolve_left (by decide)), fun h => E9.out ((listed_set h).resolve_left (by decide)), fun h => E10.out ((listed_set h).resolve_left (by decide)), fun h => E11.out ((listed_set h).resolve_left (by decide)), fun h => E12.out ((listed_set h).resolve_left (by decide))⟩
                        | 2, hio =>
                          clear hio
                          refine wpOp_by rfl fun K HK => ?_
                          go_wp2_with (fail)
                          exact HK.out _ _ ⟨by rw [Array.size_setIfInBounds, HS.out], HB.out, _, _, _, _, _, _, _, _, _, _, _, _, _, rfl, fun h => E0.out ((listed_set h).resolve_left (by decide)), fun h => E1.out ((listed_set h).resolve_left (by decide)), fun _ => rfl, fun h => E3.out ((listed_set h).resolve_left (by decide)), fun h => E4.out ((listed_set h).resolve_left (by decide)), fun h => E5.out ((listed_set h).resolve_left (by decide)), fun h => E6.out ((listed_set h).resolve_left (by decide)), fun h => E7.out ((listed_set h).resolve_left (by decide)), fun h => E8.out ((listed_set h).resolve_left (by decide)), fun h => E9.out ((listed_set h).resolve_left (by decide)), fun h => E10.out ((listed_set h).resolve_left (by decide)), fun h => E11.out ((listed_set h).resolve_left (by decide)), fun h => E12.out ((listed_set h).resolve_left (by decide))⟩
                        | 3, hio =>
                          simp only [List.getElem?_toArray, List.getElem?_cons_succ, List.getElem?_cons_zero, Option.some.injEq] at hio
                          subst hio
                          have p1 := PRE.out ⟨1, .data⟩ (by simp) rfl
                          have p2 := PRE.out ⟨2, .data⟩ (by simp) rfl
                          obtain rfl := E1.out p1
                          obtain rfl := E2.out p2
                          refine wpOp_by rfl fun K HK => ?_
                          go_wp2_with (fail)
                          exact HK.out _ _ ⟨by rw [Array.size_setIfInBounds, HS.out], HB.out, _, _, _, _, _, _, _, _, _, _, _, _, _, rfl, fun h => E0.out ((listed_set h).resolve_left (by decide)), fun _ => rfl, fun _ => rfl, fun _ => rfl, fun h => E4.out ((listed_set h).resolve_left (by decide)), fun h => E5.out ((listed_set h).resolve_left (by decide)), fun h => E6.out ((listed_set h).resolve_left (by decide)), fun h => E7.out ((listed_set h).resolve_left (by decide)), fun h => E8.out ((listed_set h).resolve_left (by decide)), fun h => E9.out ((listed_set h).resolve_left (by decide)), fun h => E10.out ((listed_set h).resolve_left (by decide)), fun h => E11.out ((listed_set h).resolve_left (by decide)), fun h => E12.out ((listed_set h).resolve_left (by decide))⟩
                        | 4, hio =>
                          simp only [List.getElem?_toArray, List.getElem?_cons_succ, List.getElem?_cons_zero, Option.some.injEq] at hio
                          subst hio
                          have p3 := PRE.out ⟨3, .data⟩ (by simp) rfl
                          obtain rfl := E3.out p3
                          have pc := PI.out W HB.out
                          refine wpOp_by rfl fun K HK => ?_
                          go_wp2_with (fail)
                          exact HK.out _ _ ⟨by rw [Array.size_setIfInBounds, HS.out], HB.out, _, _, _, _, _, _, _, _, _, _, _, _, _, rfl, fun h => E0.out ((listed_set h).resolve_left (by decide)), fun h => E1.out ((listed_set h).resolve_left (by decide)), fun h => E2.out ((listed_set h).resolve_left (by decide)), fun _ => rfl, fun _ => rfl, fun h => E5.out ((listed_set h).resolve_left (by decide)), fun h => E6.out ((listed_set h).resolve_left (by decide)), fun h => E7.out ((listed_set h).resolve_left (by decide)), fun h => E8.out ((listed_set h).resolve_left (by decide)), fun h => E9.out ((listed_set h).resolve_left (by decide)), fun h => E10.out ((listed_set h).resolve_left (by decide)), fun h => E11.out ((listed_set h).resolve_left (by decide)), fun h => E12.out ((listed_set h).resolve_left (by decide))⟩
                        | 5, hio =>
                          simp only [List.getElem?_toArray, List.getElem?_cons_succ, List.getElem?_cons_zero, Option.some.injEq] at hio
                          subst hio
                          have p0 := PRE.out ⟨0, .data⟩ (by simp) rfl
                          have p4 := PRE.out ⟨4, .data⟩ (by simp) rfl
                          obtain rfl := E0.out p0
                          obtain rfl := E4.out p4
                          refine wpOp_by rfl fun K HK => ?_
                          go_wp2_with (fail)
                          exact HK.out _ _ ⟨by rw [Array.size_setIfInBounds, HS.out], HB.out, _, _, _, _, _, _, _, _, _, _, _, _, _, rfl, fun _ => rfl, fun h => E1.out ((listed_set h).resolve_left (by decide)), fun h => E2.out ((listed_set h).resolve_left (by decide)), fun h => E3.out ((listed_set h).resolve_left (by decide)), fun _ => rfl, fun _ => rfl, fun h => E6.out ((listed_set h).resolve_left (by decide)), fun h => E7.out ((listed_set h).resolve_left (by decide)), fun h => E8.out ((listed_set h).resolve_left (by decide)), fun h => E9.out ((listed_set h).resolve_left (by decide)), fun h => E10.out ((listed_set h).resolve_left (by decide)), fun h => E11.out ((listed_set h).resolve_left (by decide)), fun h => E12.out ((listed_set h).resolve_left (by decide))⟩
                        | 6, hio =>
                          simp only [List.getElem?_toArray, List.getElem?_cons_succ, List.getElem?_cons_zero, Option.some.injEq] at hio
                          subst hio
                          have p5 := PRE.out ⟨5, .data⟩ (by simp) rfl
                          obtain rfl := E5.out p5
                          refine wpOp_by rfl fun K HK => ?_
                          go_wp2_with (refine wpList_load_part rfl 93 _ rfl g (off + FI * 16) rfl AI _ (HCI.out W HB.out) Try.underlying93 rfl (fr_info _ ASI.out) ?_)
                          exact HK.out _ _ ⟨by rw [Array.size_setIfInBounds, HS.out], HB.out, _, _, _, _, _, _, _, _, _, _, _, _, _, rfl, fun h => E0.out ((listed_set h).resolve_left (by decide)), fun h => E1.out ((listed_set h).resolve_left (by decide)), fun h => E2.out ((listed_set h).resolve_left (by decide)), fun h => E3.out ((listed_set h).resolve_left (by decide)), fun h => E4.out ((listed_set h).resolve_left (by decide)), fun _ => rfl, fun _ => rfl, fun h => E7.out ((listed_set h).resolve_left (by decide)), fun h => E8.out ((listed_set h).resolve_left (by decide)), fun h => E9.out ((listed_set h).resolve_left (by decide)), fun h => E10.out ((listed_set h).resolve_left (by decide)), fun h => E11.out ((listed_set h).resolve_left (by decide)), fun h => E12.out ((listed_set h).resolve_left (by decide))⟩
                        | 7, hio =>
                          clear hio
                          refine wpOp_by rfl fun K HK => ?_
                          go_wp2_with (fail)
                          exact HK.out _ _ ⟨by rw [Array.size_setIfInBounds, HS.out], HB.out, _, _, _, _, _, _, _, _, _, _, _, _, _, rfl, fun h => E0.out ((listed_set h).resolve_left (by decide)), fun h => E1.out ((listed_set h).resolve_left (by decide)), fun h => E2.out ((listed_set h).resolve_left (by decide)), fun h => E3.out ((listed_set h).resolve_left (by decide)), fun h => E4.out ((listed_set h).resolve_left (by decide)), fun h => E5.out ((listed_set h).resolve_left (by decide)), fun h => E6.out ((listed_set h).resolve_left (by decide)), fun _ => rfl, fun h => E8.out ((listed_set h).resolve_left (by decide)), fun h => E9.out ((listed_set h).resolve_left (by decide)), fun h => E10.out ((listed_set h).resolve_left (by decide)), fun h => E11.out ((listed_set h).resolve_left (by decide)), fun h => E12.out ((listed_set h).resolve_left (by decide))⟩
                        | 8, hio =>
                          clear hio
                          refine wpOp_by rfl fun K HK => ?_
                          go_wp2_with (fail)
                          exact HK.out _ _ ⟨by rw [Array.size_setIfInBounds, HS.out], HB.out, _, _, _, _, _, _, _, _, _, _, _, _, _, rfl, fun h => E0.out ((listed_set h).resolve_left (by decide)), fun h => E1.out ((listed_set h).resolve_left (by decide)), fun h => E2.out ((listed_set h).resolve_left (by decide)), fun h => E3.out ((listed_set h).resolve_left (by decide)), fun h => E4.out ((listed_set h).resolve_left (by decide)), fun h => E5.out ((listed_set h).resolve_left (by decide)), fun h => E6.out ((listed_set h).resolve_left (by decide)), fun h => E7.out ((listed_set h).resolve_left (by decide)), fun _ => rfl, fun h => E9.out ((listed_set h).resolve_left (by decide)), fun h => E10.out ((listed_set h).resolve_left (by decide)), fun h => E11.out ((listed_set h).resolve_left (by decide)), fun h => E12.out ((listed_set h).resolve_left (by decide))⟩
                        | 9, hio =>
                          simp only [List.getElem?_toArray, List.getElem?_cons_succ, List.getElem?_cons_zero, Option.some.injEq] at hio
                          subst hio
                          have p7 := PRE.out ⟨7, .data⟩ (by simp) rfl
                          have p8 := PRE.out ⟨8, .data⟩ (by simp) rfl
                          obtain rfl := E7.out p7
                          obtain rfl := E8.out p8
                          refine wpOp_by rfl fun K HK => ?_
                          go_wp2_with (fail)
                          exact HK.out _ _ ⟨by rw [Array.size_setIfInBounds, HS.out], HB.out, _, _, _, _, _, _, _, _, _, _, _, _, _, rfl, fun h => E0.out ((listed_set h).resolve_left (by decide)), fun h => E1.out ((listed_set h).resolve_left (by decide)), fun h => E2.out ((listed_set h).resolve_left (by decide)), fun h => E3.out ((listed_set h).resolve_left (by decide)), fun h => E4.out ((listed_set h).resolve_left (by decide)), fun h => E5.out ((listed_set h).resolve_left (by decide)), fun h => E6.out ((listed_set h).resolve_left (by decide)), fun _ => rfl, fun _ => rfl, fun _ => rfl, fun h => E10.out ((listed_set h).resolve_left (by decide)), fun h => E11.out ((listed_set h).resolve_left (by decide)), fun h => E12.out ((listed_set h).resolve_left (by decide))⟩
                        | 10, hio =>
                          simp only [List.getElem?_toArray, List.getElem?_cons_succ, List.getElem?_cons_zero, Option.some.injEq] at hio
                          subst hio
                          have p9 := PRE.out ⟨9, .data⟩ (by simp) rfl
                          obtain rfl := E9.out p9
                          have pc := PI.out W HB.out
                          refine wpOp_by rfl fun K HK => ?_
                          go_wp2_with (fail)
                          exact HK.out _ _ ⟨by rw [Array.size_setIfInBounds, HS.out], HB.out, _, _, _, _, _, _, _, _, _, _, _, _, _, rfl, fun h => E0.out ((listed_set h).resolve_left (by decide)), fun h => E1.out ((listed_set h).resolve_left (by decide)), fun h => E2.out ((listed_set h).resolve_left (by decide)), fun h => E3.out ((listed_set h).resolve_left (by decide)), fun h => E4.out ((listed_set h).resolve_left (by decide)), fun h => E5.out ((listed_set h).resolve_left (by decide)), fun h => E6.out ((listed_set h).resolve_left (by decide)), fun h => E7.out ((listed_set h).resolve_left (by decide)), fun h => E8.out ((listed_set h).resolve_left (by decide)), fun _ => rfl, fun _ => rfl, fun h => E11.out ((listed_set h).resolve_left (by decide)), fun h => E12.out ((listed_set h).resolve_left (by decide))⟩
                        | 11, hio =>
                          simp only [List.getElem?_toArray, List.getElem?_cons_succ, List.getElem?_cons_zero, Option.some.injEq] at hio
                          subst hio
                          have p6 := PRE.out ⟨6, .data⟩ (by simp) rfl
                          have p10 := PRE.out ⟨10, .data⟩ (by simp) rfl
                          obtain rfl := E6.out p6
                          obtain rfl := E10.out p10
                          refine wpOp_by rfl fun K HK => ?_
                          go_wp2_with fail
                          refine Calls.mono (LSI.out _) ?_
                          rintro e W' ⟨rfl, hb⟩
                          have HBB := Lib.hid hb
                          clear hb
                          go_wp2
                          exact HK.out _ _ ⟨by rw [Array.size_setIfInBounds, HS.out], HB.out.trans (HBB.out.mono HB.out.size), _, _, _, _, _, _, _, _, _, _, _, _, _, rfl, fun h => E0.out ((listed_set h).resolve_left (by decide)), fun h => E1.out ((listed_set h).resolve_left (by decide)), fun h => E2.out ((listed_set h).resolve_left (by decide)), fun h => E3.out ((listed_set h).resolve_left (by decide)), fun h => E4.out ((listed_set h).resolve_left (by decide)), fun h => E5.out ((listed_set h).resolve_left (by decide)), fun _ => rfl, fun h => E7.out ((listed_set h).resolve_left (by decide)), fun h => E8.out ((listed_set h).resolve_left (by decide)), fun h => E9.out ((listed_set h).resolve_left (by decide)), fun _ => rfl, fun _ => rfl, fun h => E12.out ((listed_set h).resolve_left (by decide))⟩
                        | 12, hio =>
                          simp only [List.getElem?_toArray, List.getElem?_cons_succ, List.getElem?_cons_zero, Option.some.injEq] at hio
                          subst hio
                          have p11 := PRE.out ⟨11, .data⟩ (by simp) rfl
                          obtain rfl := E11.out p11
                          refine wpOp_by rfl fun K HK => ?_
                          go_wp2_with (fail)
                          exact HK.out _ _ ⟨by rw [Array.size_setIfInBounds, HS.out], HB.out, _, _, _, _, _, _, _, _, _, _, _, _, _, rfl, fun h => E0.out ((listed_set h).resolve_left (by decide)), fun h => E1.out ((listed_set h).resolve_left (by decide)), fun h => E2.out ((listed_set h).resolve_left (by decide)), fun h => E3.out ((listed_set h).resolve_left (by decide)), fun h => E4.out ((listed_set h).resolve_left (by decide)), fun h => E5.out ((listed_set h).resolve_left (by decide)), fun h => E6.out ((listed_set h).resolve_left (by decide)), fun h => E7.out ((listed_set h).resolve_left (by decide)), fun h => E8.out ((listed_set h).resolve_left (by decide)), fun h => E9.out ((listed_set h).resolve_left (by decide)), fun h => E10.out ((listed_set h).resolve_left (by decide)), fun _ => rfl, fun _ => rfl⟩
                        | k + 13, hio => simp at hio
                      case hendb =>
                        rintro listed act W1 ⟨hs, hB, x0, x1, x2, x3, x4, x5, x6, x7, x8, x9, x10, x11, x12, rfl, e0, e1, e2, e3, e4, e5, e6, e7, e8, e9, e10, e11, e12⟩ hall
                        obtain rfl := e0 (hall 0 (by decide))
                        obtain rfl := e1 (hall 1 (by decide))
                        obtain rfl := e2 (hall 2 (by decide))
                        obtain rfl := e3 (hall 3 (by decide))
                        obtain rfl := e4 (hall 4 (by decide))
                        obtain rfl := e5 (hall 5 (by decide))
                        obtain rfl := e6 (hall 6 (by decide))
                        obtain rfl := e7 (hall 7 (by decide))
                        obtain rfl := e8 (hall 8 (by decide))
                        obtain rfl := e9 (hall 9 (by decide))
                        obtain rfl := e10 (hall 10 (by decide))
                        obtain rfl := e11 (hall 11 (by decide))
                        obtain rfl := e12 (hall 12 (by decide))
                        clear hs
                        have BZ := Lib.hid hB
                        have OZ : Hid (OwnU w3.heap.size u13 (12 * ip + 0) (payF fun j => f (16 * F1 + j)) W1) := Lib.hid (ownsRow_belowB ho.out hB)
                        clear hB hall ho
                        go_wp2
                        go_loopw [13, 15] (fun d vj wq => ∃ j : Nat, j ≤ 12 ∧ vj = .int .i64 (j : Int) ∧ Hid (OwnU w3.heap.size d (12 * ip + j) (payF fun j => f (16 * F1 + j)) wq) ∧ Hid (Below w3.heap.size w3 wq)) (fun _ vj _ => 12 - (intOf vj).toNat)
                        case atStart => exact ⟨0, by omega, rfl, OZ, Lib.hid (PRB.out.trans (BZ.out.mono PRB.out.size))⟩
                        case round =>
                          obtain ⟨j, hj, rfl, ho2, hb2⟩ := hrel
                          have BQ : Hid (Below w.heap.size w wr) := Lib.hid (B3.out.trans (hb2.out.mono HW.out))
                          by_cases hj2 : j < 12
                          · have tj : (j : Int) < 12 := by omega
                            have HJ := Lib.hid hj2
                            have pc := PC.out wr hb2.out ip HI1.out
                            rw [HFI.out] at pc
                            have cb : wr.cell? ⟨g, off + FI * 16 + j, none⟩ = some (.int .u8 (f (FI * 16 + j))) := by
                              rw [Nat.add_assoc]
                              exact CA.out wr BQ.out (FI * 16 + j) (by omega)
                            obtain ⟨y, hy⟩ : ∃ y, f (FI * 16 + j) = y := ⟨_, rfl⟩
                            rw [hy] at cb
                            have NX : Hid (∀ x, x < 12 * ip + j + 1 → catU (payF fun j => f (16 * F1 + j)) (12 * ip + j) (fun _ => y) x = (payF fun j => f (16 * F1 + j)) x) := Lib.hid fun x hx => by
                              by_cases hx2 : x < 12 * ip + j
                              · exact catU_lo hx2
                              · have e : x = 12 * ip + j := by omega
                                unfold catU
                                rw [if_neg hx2, ← hy]
                                show f (FI * 16 + j) = f (16 * F1 + (x / 12 * 16 + x % 12))
                                congr 1
                                have := HFI.out
                                omega
                            clear hy hj2 hj
                            go_wp2_with (at_builtin; refine wpList_append_u rfl _ _ rfl w3.heap.size _ (12 * ip + j) (payF fun j => f (16 * F1 + j)) rfl (ho2.out.alloc _) wr.heap.size 0 1 1 (fun _ => y) rfl (fun j0 hj0 => by obtain rfl : j0 = 0 := (by omega); exact (World.cell?_alloc_new _ _ _ _).trans rfl) (by have := HI1.out; have := HJ.out; omega) (by have := hb2.out.size; rw [World.size_alloc]; omega) w3 (hb2.out.alloc hb2.out.size _) ?_; intro v9 w9 h1 h2; have H1 := Lib.hid h1; have H2 := Lib.hid h2; clear h1 h2)
                            go_roundw
                            case rel => exact ⟨j + 1, by have := HJ.out; omega, by go_num, Lib.hid (OwnU.congr H1.out NX.out), H2⟩
                            case measure => have := HJ.out; simp [intOf]; omega
                          · obtain rfl : j = 12 := by omega
                            have O9 : Hid (OwnU w3.heap.size _ (12 * (ip + 1)) (payF fun j => f (16 * F1 + j)) wr) := Lib.hid (by rw [show 12 * (ip + 1) = 12 * ip + 12 from by omega]; exact ho2.out)
                            have S9 : Hid (∀ i2, i2 < ip + 1 → okAt f 0 (F1 + i2) = true) := Lib.hid fun i2 h2 => by
                              rcases Nat.lt_or_ge i2 ip with h | h
                              · exact HS0.out i2 h
                              · obtain rfl : i2 = ip := by omega
                                rw [HFI.out]; exact HSO.out
                            clear ho2 hj2 hj
                            go_wp2
                            have hdd := HDD.out
                            subst hdd
                            go_roundw
                            case rel => exact ⟨ip + 1, HI1.out, by go_num, O9, hb2, S9⟩
                            case measure => have := HI1.out; simp [intOf]; omega
                  · obtain rfl : ip = 1 := by omega
                    obtain ⟨g2, c2, rfl, hc2, hg2, hgs, hcell⟩ := ho.out.form (by decide)
                    have BWr : Hid (Below w.heap.size w wr) := Lib.hid (B3.out.trans (hb.out.mono HW.out))
                    have SV : Hid (skS f Kp = true) := Lib.hid (by
                      have h0 := hs.out 0 (by decide)
                      rw [Nat.add_zero] at h0
                      rw [SSE.out, ← HF1.out, h0]
                      rfl)
                    have RP := Lib.hid (l09Point_any (some ⟨g2, p, none⟩) (12 * 1 - p) (c2 - p) (skB f Kp) (by have := HPM.out; have := HF1.out; omega) BY2.out wr (.inr ⟨g2, p, rfl, hgs, fun j hj => by rw [hcell (p + j) (by omega), EQB.out]⟩))
                    have su : ∀ W, (Instr.slice 45 (.slice (some ⟨g2, 0, none⟩) (12 * 1) c2) (some (.int .i64 (p : Int))) none none).run Try.prog W = .ok (.slice (some ⟨g2, p, none⟩) (12 * 1 - p) (c2 - p)) W := fun W => slice_fromU g2 (12 * 1) c2 p (by have := HPM.out; have := HF1.out; omega) hc2 W
                    have pc0 := PC.out wr hb.out 0 (by decide)
                    rw [Nat.add_zero] at pc0
                    have PRW : Hid (PR 1 w.heap.size w3.heap.size w3 (.slice (some ⟨w2.heap.size, 0, none⟩) 1 1) (skN Kp) (FL (skQ Kp))) := Lib.hid (by
                      rw [NN.out, QQ.out, if_pos HF1.out]
                      refine ⟨_, _, rfl, .inr ⟨w2.heap.size, rfl, B2.out.size, (Array.getElem?_eq_some_iff.1 R3.out).1, Nat.le_refl _, fun j hj => ?_, fun j _ => Lib.frozen_of_heap R3.out j⟩⟩
                      obtain rfl : j = 0 := (by omega)
                      exact Lib.cell_of_heap R3.out 0)
                    have BWP := Lib.hid hb.out
                    clear ho hb hs hcell hgs hg2 hc2 hlt2 hi
                    cases hob : okB (skB f Kp) with
                    | true =>
                      have Q : Hid (skC f n (Kp : Int) = 0) := Lib.hid (by rw [SI2.out, SV.out, if_pos rfl, hob, if_pos rfl])
                      rw [hob] at RP
                      clear hob
                      go_wp2_with fail
                      refine RP.out.mono ?_
                      rintro e w9 ⟨rfl, b⟩
                      have B9 := Lib.hid (BWr.out.trans (b.mono BWr.out.size))
                      have B9P := Lib.hid (BWP.out.trans (b.mono BWP.out.size))
                      clear b
                      go_wp2
                      exact bodyPost_ret (v := .tuple #[.complex .f32 (reB (skB f Kp)) (imB (skB f Kp)), .slice (some ⟨w2.heap.size, 0, none⟩) 1 1, .int .i64 0]) (by simp [results, Try.results33, go_sem]) rfl (SkPost.good Q.out (pr_wide B9P.out PRW.out) B9.out)
                    | false =>
                      have Q : Hid (skC f n (Kp : Int) = 5) := Lib.hid (by rw [SI2.out, SV.out, if_pos rfl, hob]; exact if_neg (by decide))
                      rw [hob] at RP
                      clear hob
                      go_wp2_with fail
                      refine RP.out.mono ?_
                      rintro e w9 ⟨rfl, b⟩
                      have B9 := Lib.hid (BWr.out.trans (b.mono BWr.out.size))
                      have B9P := Lib.hid (BWP.out.trans (b.mono BWP.out.size))
                      clear b
                      go_wp2
                      exact bodyPost_ret (v := .tuple #[.complex .f32 0 0, .slice (some ⟨w9.heap.size, 0, none⟩) 0 0, .int .i64 5]) (by simp [results, Try.results33, go_sem]) rfl (SkPost.bad Q.out (by decide) (B9.out.alloc B9.out.size _))

          · have Q : Hid (skC f n k = 2) := Lib.hid (by unfold skC; rw [C0.out, if_pos rfl, if_neg hr])
            have ii : (decide (0 ≤ k) && decide (k ≤ (upN f : Int) - 1)) = false := by
              rw [← Bool.not_eq_true]
              simp
              omega
            rw [ii] at IND
            generalize upN f = N3 at HD l1 IND n9
            generalize upL f = L3 at HD l1
            generalize upK f = K3 at HD k1
            clear h hf hbig hn hc hA0 LS0 OK0 hok hsg hk3 hl3 hr ii
            go_enter Try.func33, Try.ntmps33
            go_wp2_with (refine wpList_load_part rfl 93 _ rfl g off rfl A0 _ (HC.out w BW.out) Try.underlying93 rfl (fr_info _ AS.out) ?_)
            refine (LS.out _).mono ?_
            rintro e w1 ⟨rfl, b⟩
            have B1 := Lib.hid b
            clear b
            go_wp2_with (refine wpList_load_part rfl 93 _ rfl g off rfl A0 _ (HC.out w1 B1.out) Try.underlying93 rfl (fr_info _ AS.out) ?_)
            refine (HD.out _).mono ?_
            rintro e w2 ⟨rfl, b⟩
            have B2 := Lib.hid (B1.out.trans (b.mono B1.out.size))
            clear b
            go_wp2_with fail
            refine (IND.out _).mono ?_
            rintro e w2' ⟨rfl, rfl⟩
            go_wp2
            exact bodyPost_ret (v := .tuple #[.complex .f32 0 0, .slice (some ⟨w2.heap.size, 0, none⟩) 0 0, .int .i64 2]) (by simp [results, Try.results33, go_sem]) rfl (SkPost.bad Q.out (by decide) (B2.out.alloc B2.out.size _))
        · have Q : Hid (skC f n k = 5) := Lib.hid (sk_ck (by rw [CK2.out, if_neg (fun hh => hl3 hh.2)]) (by decide))
          have k1 : (upK f != 1) = false := by simpa using hk3
          have l1 : ((upL f : Int) != 8 * (upN f : Int)) = true := by simp; omega
          generalize upN f = N3 at HD l1 n9
          generalize upL f = L3 at HD l1
          generalize upK f = K3 at HD k1
          clear h hf hbig hn hc hA0 LS0 OK0 hok hsg hk3 hl3
          go_enter Try.func33, Try.ntmps33
          go_wp2_with (refine wpList_load_part rfl 93 _ rfl g off rfl A0 _ (HC.out w BW.out) Try.underlying93 rfl (fr_info _ AS.out) ?_)
          refine (LS.out _).mono ?_
          rintro e w1 ⟨rfl, b⟩
          have B1 := Lib.hid b
          clear b
          go_wp2_with (refine wpList_load_part rfl 93 _ rfl g off rfl A0 _ (HC.out w1 B1.out) Try.underlying93 rfl (fr_info _ AS.out) ?_)
          refine (HD.out _).mono ?_
          rintro e w2 ⟨rfl, b⟩
          have B2 := Lib.hid (B1.out.trans (b.mono B1.out.size))
          clear b
          go_wp2
          exact bodyPost_ret (v := .tuple #[.complex .f32 0 0, .slice (some ⟨w2.heap.size, 0, none⟩) 0 0, .int .i64 5]) (by simp [results, Try.results33, go_sem]) rfl (SkPost.bad Q.out (by decide) (B2.out.alloc B2.out.size _))
      · have Q : Hid (skC f n k = 5) := Lib.hid (sk_ck (by rw [CK2.out, if_neg (fun hh => hk3 hh.1)]) (by decide))
        have k1 : (upK f != 1) = true := by simpa using hk3
        generalize upN f = N3 at HD n9
        generalize upL f = L3 at HD
        generalize upK f = K3 at HD k1
        clear h hf hbig hn hc hA0 LS0 OK0 hok hsg hk3
        go_enter Try.func33, Try.ntmps33
        go_wp2_with (refine wpList_load_part rfl 93 _ rfl g off rfl A0 _ (HC.out w BW.out) Try.underlying93 rfl (fr_info _ AS.out) ?_)
        refine (LS.out _).mono ?_
        rintro e w1 ⟨rfl, b⟩
        have B1 := Lib.hid b
        clear b
        go_wp2_with (refine wpList_load_part rfl 93 _ rfl g off rfl A0 _ (HC.out w1 B1.out) Try.underlying93 rfl (fr_info _ AS.out) ?_)
        refine (HD.out _).mono ?_
        rintro e w2 ⟨rfl, b⟩
        have B2 := Lib.hid (B1.out.trans (b.mono B1.out.size))
        clear b
        go_wp2
        exact bodyPost_ret (v := .tuple #[.complex .f32 0 0, .slice (some ⟨w2.heap.size, 0, none⟩) 0 0, .int .i64 5]) (by simp [results, Try.results33, go_sem]) rfl (SkPost.bad Q.out (by decide) (B2.out.alloc B2.out.size _))
end Go.Proofs.Ytkijgadkgfapgaa
