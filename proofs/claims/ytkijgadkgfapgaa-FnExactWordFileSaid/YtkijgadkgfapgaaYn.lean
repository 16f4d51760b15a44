/-
  CONTRACTS: UnpackFrames by the program.
-/
import Derived.Test.YtkijgadkgfapgaaYm
namespace Go.Proofs.Ytkijgadkgfapgaa
open Go.ChangeShapes Go.WideShapes Go.ChangeAt Go.RowKit
theorem bdN_all {f : Nat → Int} {n : Nat} (h : ∀ k, k < n → okAt f 0 k = true) : bdN f n = 0 := by
  have := bdN_run (f := f) (m := 0) n (fun j hj => by rw [Nat.zero_add]; exact h j hj)
  rw [Nat.zero_add] at this
  rw [this]
  exact bad_zero f
theorem bdN_some {f : Nat → Int} {n k : Nat} (hk : k < n) (h : okAt f 0 k = false) : bdN f n ≠ 0 := by
  have := bad_at h n hk
  intro e
  have e2 : (bad f n).length = 0 := e
  rw [List.getElem?_eq_none (by omega)] at this
  cases this
theorem slice_twelve (g n c : Nat) (hn : 12 ≤ n) (hc : n ≤ c) (w : World) : (Instr.slice 45 (.slice (some ⟨g, 0, none⟩) n c) (some (.int .i64 12)) none none).run Try.prog w = .ok (.slice (some ⟨g, if c = 12 then 0 else 12, none⟩) (n - 12) (c - 12)) w := by
  have hs : ∀ w, (sizeOf (Try.prog.elem 45)).run Try.prog w = .ok 1 w := fun w => by kernel_rfl
  rw [run_slice_l (P := Try.prog) (w := w) 45 (some ⟨g, 0, none⟩) n c (by kernel_rfl) .i64 12 (by omega) (by omega), hs]
  simp only [Result.andThen_ok, sliced]
  by_cases h : c = 12
  · simp [h]
  · simp [h, Go.WideShapes.add_plain]
set_option maxRecDepth 20000 in
set_option maxHeartbeats 8000000 in
theorem iUnpack_any (n : Nat) (hn : n ≤ 1048576) (f : Nat → Int) (hf : ByF (16 * n) f) (a : Option Addr) (cap : Nat) (w : World) (h : FrR w.heap.size w a n f) (hk : SlOk a n cap) :
    Calls Try.prog 27 #[.slice a n cap] w (UpPost f n w) := by
  by_cases hbig : 700 < n
  · have Q : Hid (∀ a c w', Below w.heap.size w w' → UpPost f n w (.returned (.tuple #[.int .i64 0, .int .i64 0, .slice a 0 c, .int .i64 3])) w') := Lib.hid fun a c w' hb => UpPost.bad (upC_big hbig) (by decide) hb
    have nI : (700 : Int) < (n : Int) := by omega
    clear h hf hbig hn hk
    go_enter Try.func27, Try.ntmps27
    go_wp2
    exact bodyPost_ret (v := .tuple #[.int .i64 0, .int .i64 0, .slice none 0 0, .int .i64 3]) (by simp [results, Try.results27, go_sem]) rfl (Q.out _ _ _ (Below.refl _ _))
  have hn7 : n ≤ 700 := by omega
  have nI : (n : Int) ≤ 700 := by omega
  have FR := Lib.hid h
  have HF := Lib.hid hf
  have HN := Lib.hid hn7
  have HK := Lib.hid hk
  have OP := Lib.hid (open_any a n cap f 0 w (by omega) (by omega) hf h)
  have P8 : Hid (bdN f n ≠ 0 → ∀ a c w', Below w.heap.size w w' → UpPost f n w (.returned (.tuple #[.int .i64 0, .int .i64 0, .slice a 0 c, .int .i64 8])) w') := Lib.hid fun hb0 a c w' hb => UpPost.bad (upC_broken hn7 hb0) (by decide) hb
  have P5 : Hid (bdN f n = 0 → upG f n = false → ∀ a c w', Below w.heap.size w w' → UpPost f n w (.returned (.tuple #[.int .i64 0, .int .i64 0, .slice a 0 c, .int .i64 5])) w') := Lib.hid fun hb0 hg a c w' hb => UpPost.bad (upC_no hn7 hb0 hg) (by decide) hb
  have PG : Hid (bdN f n = 0 → upG f n = true → ∀ v w', PO w.heap.size w'.heap.size w' v (upL f) (FF (pdF f)) → Below w.heap.size w w' → CapOk v → UpPost f n w (.returned (.tuple #[.int .i64 (upK f), .int .i64 (upN f : Int), v, .int .i64 0])) w') := Lib.hid fun hb0 hg v w' hp hb hc => UpPost.good (upC_ok hn7 hb0 hg) hp hb hc
  clear h hf hbig hn hk hn7
  go_enter Try.func27, Try.ntmps27
  go_wp2_with fail
  refine OP.out.mono ?_
  rintro e w2 (⟨v, rfl, hok, o, b⟩ | ⟨k, hk, -, hbk, rfl, b⟩)
  · have BD := Lib.hid (bdN_all hok)
    have B2 := Lib.hid b
    have OO := Lib.hid o
    by_cases h0 : n = 0
    · subst h0
      have Q := Lib.hid (P5.out BD.out (upG_none f))
      have ON := Lib.hid (openHead_none a cap)
      obtain ⟨aV, cV, rfl, -⟩ := o.pr
      clear b o hok P5 P8 PG
      go_wp2_with fail
      refine (ON.out _).mono ?_
      rintro e w3 ⟨rfl, b⟩
      have B3 := Lib.hid (B2.out.trans (b.mono B2.out.size))
      clear b
      obtain ⟨w4, hw4⟩ : ∃ x, w3.alloc (.cells #[Value.int .i64 0, Value.int .i64 0, Value.int .i64 0] 100) = x := ⟨_, rfl⟩
      have T4 : Hid (w4.heap[w3.heap.size]? = some (.cells #[Value.int .i64 0, Value.int .i64 0, Value.int .i64 0] 100 (0, 0))) := Lib.hid (by rw [← hw4]; exact World.alloc_heap_new w3 _)
      obtain ⟨w5, hw5⟩ : ∃ x, w4.setRow w3.heap.size #[Value.int .i64 0, Value.int .i64 0, Value.int .i64 0] = x := ⟨_, rfl⟩
      have b : Below w3.heap.size w3 w5 := by rw [← hw5, ← hw4]; exact below_setRow ((Below.refl _ _).alloc (Nat.le_refl _) _) (Nat.le_refl _) _
      have S5 : Hid (w5.heap[w3.heap.size]? = some (.cells #[Value.int .i64 0, Value.int .i64 0, Value.int .i64 0] 100 (0, 0))) := Lib.hid (by rw [← hw5]; exact setRow_heap _ _ _ _ _ _ T4.out)
      have B5 := Lib.hid (B3.out.trans (b.mono B3.out.size))
      clear b
      go_wp2_with (refine wpList_store_row rfl 100 _ _ rfl w3.heap.size #[Value.int .i64 0, Value.int .i64 0, Value.int .i64 0] rfl rfl 100 _ T4.out (hd_info _ rfl) rfl (row3_one _ _ _) ?_; rw [hw5])
      go_wp2
      exact bodyPost_ret (v := .tuple #[.int .i64 0, .int .i64 0, .slice none 0 0, .int .i64 5]) (by simp [results, Try.results27, go_sem]) rfl (Q.out _ _ _ B5.out)
    · have hn1 : 1 ≤ n := by omega
      have O0 := hok 0 hn1
      obtain ⟨g, c, rfl, hc, hg, hgs, hcell⟩ := o.form (by omega)
      cases hsg : sgnOk (frK f 0) with
      | false =>
        have Q := Lib.hid (P5.out BD.out (upG_sign hsg))
        have ON := Lib.hid (openHead_no a n cap f hn1 HK.out HF.out w2 (FR.out.below b b.size) O0 hsg)
        clear b o hok P5 P8 PG hc hg hgs hcell hsg
        go_wp2_with fail
        refine ON.out.mono ?_
        rintro e w3 ⟨rfl, b⟩
        have B3 := Lib.hid (B2.out.trans (b.mono B2.out.size))
        clear b
        obtain ⟨w4, hw4⟩ : ∃ x, w3.alloc (.cells #[Value.int .i64 0, Value.int .i64 0, Value.int .i64 0] 100) = x := ⟨_, rfl⟩
        have T4 : Hid (w4.heap[w3.heap.size]? = some (.cells #[Value.int .i64 0, Value.int .i64 0, Value.int .i64 0] 100 (0, 0))) := Lib.hid (by rw [← hw4]; exact World.alloc_heap_new w3 _)
        obtain ⟨w5, hw5⟩ : ∃ x, w4.setRow w3.heap.size #[Value.int .i64 0, Value.int .i64 0, Value.int .i64 0] = x := ⟨_, rfl⟩
        have b : Below w3.heap.size w3 w5 := by rw [← hw5, ← hw4]; exact below_setRow ((Below.refl _ _).alloc (Nat.le_refl _) _) (Nat.le_refl _) _
        have S5 : Hid (w5.heap[w3.heap.size]? = some (.cells #[Value.int .i64 0, Value.int .i64 0, Value.int .i64 0] 100 (0, 0))) := Lib.hid (by rw [← hw5]; exact setRow_heap _ _ _ _ _ _ T4.out)
        have B5 := Lib.hid (B3.out.trans (b.mono B3.out.size))
        clear b
        go_wp2_with (refine wpList_store_row rfl 100 _ _ rfl w3.heap.size #[Value.int .i64 0, Value.int .i64 0, Value.int .i64 0] rfl rfl 100 _ T4.out (hd_info _ rfl) rfl (row3_one _ _ _) ?_; rw [hw5])
        go_wp2
        exact bodyPost_ret (v := .tuple #[.int .i64 0, .int .i64 0, .slice none 0 0, .int .i64 5]) (by simp [results, Try.results27, go_sem]) rfl (Q.out _ _ _ B5.out)
      | true =>
        have ON := Lib.hid (openHead_ok a n cap f hn1 HK.out HF.out w2 (FR.out.below b b.size) O0 hsg)
        have HD : Hid (hd3 f = #[.int .i64 (upK f), .int .i64 (upN f : Int), .int .i64 (upL f : Int)]) := Lib.hid rfl
        rw [HD.out] at ON
        have BF : ByF 16 (frK f 0) := fun j hj => HF.out (0 * 16 + j) (by omega)
        have LL := Lib.hid (upL_lt BF)
        have NL := Lib.hid (upN_lt BF)
        have US : Hid (upL f ≤ 12 * (n - 1) → upG f n = upS f n) := Lib.hid fun h3 => upG_is hn1 hsg h3
        have U2 : Hid (12 * (n - 1) < upL f → upG f n = false) := Lib.hid upG_long
        have DF : Hid (ByF (12 * (n - 1)) (pdF f)) := Lib.hid fun j hj => by unfold pdF; exact HF.out _ (by omega)
        have PF : Hid (∀ j, payF f (12 + j) = pdF f j) := Lib.hid fun j => by unfold payF pdF; congr 1; omega
        have KI := Lib.hid (fun (h : upL f ≤ 1048576) (hf : ByF (upL f) (pdF f)) => iPack_any (upK f) (upN f) (upL f) h (pdF f) hf)
        have KJ : Hid (PkPost (upK f) (upN f) (upL f) (pdF f) = fun w e w' => ∃ v, e = .returned (.tuple #[v, .int .i64 (hdC (upK f) (upN f) (upL f))]) ∧ PR 16 w.heap.size w'.heap.size w' v (pkM (upK f) (upN f) (upL f)) (FF (pkW (upK f) (upN f) (upL f) (pdF f))) ∧ Below w.heap.size w w') := Lib.hid rfl
        have SE : Hid (upS f n = samePic (pkW (upK f) (upN f) (upL f) (pdF f)) f (pkM (upK f) (upN f) (upL f)) n) := Lib.hid rfl
        have PM : Hid (upL f ≤ 1048576 → pkM (upK f) (upN f) (upL f) ≤ 1048576) := Lib.hid (pkM_le _ _ _)
        obtain ⟨L, hL⟩ : ∃ L, upL f = L := ⟨_, rfl⟩
        obtain ⟨N, hN⟩ : ∃ L, upN f = L := ⟨_, rfl⟩
        obtain ⟨K, hK⟩ : ∃ L, upK f = L := ⟨_, rfl⟩
        simp only [hL, hN, hK] at ON LL NL US U2 PG KI KJ SE PM ⊢
        generalize pdF f = D at DF KI KJ SE PG PF
        have P5' := Lib.hid (P5.out BD.out)
        have PG' := Lib.hid (PG.out BD.out)
        have LI : (L : Int) ≤ 4294967295 := by have := LL.out; omega
        have NI : (N : Int) ≤ 4294967295 := by have := NL.out; omega
        have n1 : (1 : Int) ≤ (n : Int) := by omega
        have HC := Lib.hid hc
        have dB : Hid (12 * (n - 1) ≤ 8388) := Lib.hid (by have := HN.out; omega)
        have dE : Hid (12 * n - 12 = 12 * (n - 1)) := Lib.hid (by omega)
        have sl12 : ∀ W, (Instr.slice 45 (.slice (some ⟨g, 0, none⟩) (12 * n) c) (some (.int .i64 12)) none none).run Try.prog W = .ok (.slice (some ⟨g, if c = 12 then 0 else 12, none⟩) (12 * (n - 1)) (c - 12)) W := fun W => by rw [← dE.out]; exact slice_twelve g (12 * n) c (by omega) hc W
        have nn : (12 : Int) ≤ ((12 * n : Nat) : Int) := by omega
        have P2 : Hid (∀ m, m ≤ 12 * (n - 1) → PO w.heap.size w2.heap.size w2 (.slice (some ⟨g, if c = 12 then 0 else 12, none⟩) m (c - 12)) m (FF D)) := Lib.hid fun m hm => by
          by_cases e0 : m = 0
          · rw [e0]; exact PO.empty _ _ _ _ _ _
          · rw [if_neg (by omega)]
            exact (PO.part (cap := c - 12) (off := 12) (m := m) OO.out g c rfl (by omega)).congr fun j _ => PF.out j
        obtain ⟨off, hoff⟩ : ∃ o, (if c = 12 then 0 else 12) = o := ⟨_, rfl⟩
        rw [hoff] at sl12 P2
        obtain ⟨d, hd⟩ : ∃ d, 12 * (n - 1) = d := ⟨_, rfl⟩
        rw [hd] at dB dE US U2 DF P2 sl12
        have DI : (d : Int) ≤ 8388 := by have := dB.out; omega
        have CD : Hid (d + 12 ≤ c) := Lib.hid (by omega)
        have CM : Hid (c ≤ maxLen) := Lib.hid OO.out.cap
        have FW : Hid (∀ W, Below w.heap.size w W → FrR W.heap.size W a n f) := Lib.hid fun W hW => FR.out.below hW hW.size
        clear b o hok P5 P8 PG hc hg hgs hcell hsg hd hL hN hK BF HD O0 hoff dE PF h0 hn1 OO
        generalize 12 * n = nd at sl12 nn
        go_wp2_with fail
        refine ON.out.mono ?_
        rintro e w3 ⟨rfl, b⟩
        have B3 := Lib.hid (B2.out.trans (b.mono B2.out.size))
        have P3 : Hid (∀ m, m ≤ d → PO w.heap.size w2.heap.size w3 (.slice (some ⟨g, off, none⟩) m (c - 12)) m (FF D)) := Lib.hid fun m hm => PO.below b (Nat.le_refl _) (P2.out m hm)
        have Z3 : Hid (w2.heap.size ≤ w3.heap.size) := Lib.hid b.size
        clear b
        obtain ⟨w4, hw4⟩ : ∃ x, w3.alloc (.cells #[Value.int .i64 0, Value.int .i64 0, Value.int .i64 0] 100) = x := ⟨_, rfl⟩
        have T4 : Hid (w4.heap[w3.heap.size]? = some (.cells #[Value.int .i64 0, Value.int .i64 0, Value.int .i64 0] 100 (0, 0))) := Lib.hid (by rw [← hw4]; exact World.alloc_heap_new w3 _)
        obtain ⟨w5, hw5⟩ : ∃ x, w4.setRow w3.heap.size #[.int .i64 K, .int .i64 (N : Int), .int .i64 (L : Int)] = x := ⟨_, rfl⟩
        have b : Below w3.heap.size w3 w5 := by rw [← hw5, ← hw4]; exact below_setRow ((Below.refl _ _).alloc (Nat.le_refl _) _) (Nat.le_refl _) _
        have S5 : Hid (w5.heap[w3.heap.size]? = some (.cells #[.int .i64 K, .int .i64 (N : Int), .int .i64 (L : Int)] 100 (0, 0))) := Lib.hid (by rw [← hw5]; exact setRow_heap _ _ _ _ _ _ T4.out)
        have B5 := Lib.hid (B3.out.trans (b.mono B3.out.size))
        have P6 : Hid (∀ m, m ≤ d → PO w.heap.size w2.heap.size w5 (.slice (some ⟨g, off, none⟩) m (c - 12)) m (FF D)) := Lib.hid fun m hm => PO.below b Z3.out (P3.out m hm)
        have Z5 : Hid (w2.heap.size ≤ w5.heap.size) := Lib.hid (Nat.le_trans Z3.out b.size)
        have s0 : w5.cell? ⟨w3.heap.size, 0, none⟩ = some (.int .i64 K) := Lib.cell_of_heap S5.out 0
        have s1 : w5.cell? ⟨w3.heap.size, 1, none⟩ = some (.int .i64 (N : Int)) := Lib.cell_of_heap S5.out 1
        have s2 : w5.cell? ⟨w3.heap.size, 2, none⟩ = some (.int .i64 (L : Int)) := Lib.cell_of_heap S5.out 2
        clear b
        by_cases hLd : d < L
        · have hLd' : (d : Int) < (L : Int) := by omega
          have Q := Lib.hid (P5'.out (U2.out hLd))
          clear P5' PG' US U2 KI KJ SE PM hLd
          go_wp2_with (refine wpList_store_row rfl 100 _ _ rfl w3.heap.size #[.int .i64 K, .int .i64 (N : Int), .int .i64 (L : Int)] rfl rfl 100 _ T4.out (hd_info _ rfl) rfl (row3_one _ _ _) ?_; rw [hw5])
          exact bodyPost_ret (v := .tuple #[.int .i64 0, .int .i64 0, .slice none 0 0, .int .i64 5]) (by simp [results, Try.results27, go_sem]) rfl (Q.out _ _ _ B5.out)
        · have hLd1 : L ≤ d := by omega
          have hLd' : (L : Int) ≤ (d : Int) := by omega
          have CO : Hid (CapOk (.slice (some ⟨g, off, none⟩) L (c - 12))) := Lib.hid ⟨_, _, _, rfl, by have := CD.out; omega, by have := CM.out; omega⟩
          have UE := US.out hLd1
          have hsl := fun W => slice_toF (some ⟨g, off, none⟩) d (c - 12) L (by have := CD.out; omega) (fun x hx => ⟨g, off, by cases hx; rfl⟩) (by have := dB.out; omega) W
          have L0 : (0 : Int) ≤ (L : Int) := by omega
          have LC : (L : Int) ≤ ((c - 12 : Nat) : Int) := by have := CD.out; omega
          have PD := Lib.hid (P6.out L hLd1)
          have YD : YrR w5.heap.size w5 (some ⟨g, off, none⟩) L D := by
            obtain ⟨x, y, e, h⟩ := PD.out.yr
            simp only [Value.slice.injEq] at e
            obtain ⟨rfl, -, rfl⟩ := e
            exact h
          have CALL := Lib.hid (KI.out (by have := dB.out; omega) (fun j hj => DF.out j (by omega)) (some ⟨g, off, none⟩) (c - 12) w5 YD)
          have M1 := Lib.hid (PM.out (by have := dB.out; omega))
          rw [KJ.out] at CALL
          rw [UE, SE.out] at P5' PG'
          clear US U2 KI KJ SE PM UE hLd1 hLd YD P6
          generalize hdC K N L = C at CALL
          generalize pkM K N L = m at CALL P5' PG' M1
          generalize pkW K N L D = G at CALL P5' PG'
          go_wp2_with (refine wpList_store_row rfl 100 _ _ rfl w3.heap.size #[.int .i64 K, .int .i64 (N : Int), .int .i64 (L : Int)] rfl rfl 100 _ T4.out (hd_info _ rfl) rfl (row3_one _ _ _) ?_; rw [hw5])
          clear hw4 hw5
          refine CALL.out.mono ?_
          rintro e w6 ⟨v, rfl, hp, b⟩
          obtain ⟨a4, c4, rfl, hf4⟩ := hp.fr
          have B6 := Lib.hid (B5.out.trans (b.mono B5.out.size))
          have P6 := Lib.hid (PO.below b Z5.out PD.out)
          have Z6 : Hid (w2.heap.size ≤ w6.heap.size) := Lib.hid (Nat.le_trans Z5.out b.size)
          have S6 := Lib.hid (far_rowJ b S5.out)
          have EQ := Lib.hid (equalFr_any a4 a m n c4 cap G f w6.heap.size w6 (Nat.le_refl _) M1.out (by have := HN.out; omega) hf4 (FW.out w6 B6.out))
          clear hp b hf4 s0 s1 s2
          go_wp2_with fail
          refine EQ.out.mono ?_
          rintro e w7 ⟨rfl, b⟩
          have B7 := Lib.hid (B6.out.trans (b.mono B6.out.size))
          have P7 := Lib.hid (PO.below b Z6.out P6.out)
          have Z7 : Hid (w2.heap.size ≤ w7.heap.size) := Lib.hid (Nat.le_trans Z6.out b.size)
          have S7 := Lib.hid (far_rowJ b S6.out)
          clear b EQ
          cases hs : samePic G f m n with
          | false =>
            have Q := Lib.hid (P5'.out hs)
            clear P5' PG' hs
            go_wp2
            exact bodyPost_ret (v := .tuple #[.int .i64 0, .int .i64 0, .slice none 0 0, .int .i64 5]) (by simp [results, Try.results27, go_sem]) rfl (Q.out _ _ _ B7.out)
          | true =>
            have Q := Lib.hid (PG'.out hs)
            have PF : Hid (∀ k, PO w.heap.size (w7.drewN k).heap.size (w7.drewN k) (.slice (some ⟨g, off, none⟩) L (c - 12)) L (FF D)) := Lib.hid fun k => PO.wide P7.out (Nat.le_refl _) Z7.out (Nat.le_refl _)
            have t0 : w7.cell? ⟨w3.heap.size, 0, none⟩ = some (.int .i64 K) := Lib.cell_of_heap S7.out 0
            have t1 : w7.cell? ⟨w3.heap.size, 1, none⟩ = some (.int .i64 (N : Int)) := Lib.cell_of_heap S7.out 1
            clear P5' PG' hs
            go_wp2
            go_quiet (fail)
            go_wp2
            exact bodyPost_ret (v := .tuple #[.int .i64 K, .int .i64 (N : Int), .slice (some ⟨g, off, none⟩) L (c - 12), .int .i64 0]) (by simp [results, Try.results27, go_sem]) rfl (Q.out _ _ (PF.out nq) (fdrewN B7.out nq) CO.out)
  · have Q := Lib.hid (P8.out (bdN_some hk hbk))
    have B2 := Lib.hid b
    clear b hbk hk P5 P8 PG
    go_wp2
    exact bodyPost_ret (v := .tuple #[.int .i64 0, .int .i64 0, .slice none 0 0, .int .i64 8]) (by simp [results, Try.results27, go_sem]) rfl (Q.out _ _ _ B2.out)
theorem toFe_any {a : Option Addr} {cap n : Nat} {f : Nat → Int} {B : Nat} {w : World} (hB : B ≤ w.heap.size) (h : FrR B w a n f) (hl : n ≤ 1048576) :
    Calls Try.prog 26 #[.slice a n cap] w fun e w' => ∃ v, e = .returned v ∧ PR 16 w.heap.size w'.heap.size w' v n (FF f) ∧ Below w.heap.size w w' ∧ ∀ a' n' c', v = .slice a' n' c' → SlOk a' n' c' :=
  (toFS_any a cap n f B w hB h hl).mono fun e w' ⟨he, _, hb, hs, hr⟩ => ⟨_, he, ⟨_, n, rfl, .inr ⟨w.heap.size, rfl, Nat.le_refl _, hs, Nat.le_refl _, fun j hj => by
    rw [Lib.cell_of_heap hr j, rowFr_get _ _ _ _ (by omega), if_pos (by omega)]; rfl, fun j _ => Lib.frozen_of_heap hr j⟩⟩, hb, fun a' n' c' e => by
    simp only [Value.slice.injEq] at e
    obtain ⟨rfl, rfl, rfl⟩ := e
    exact ⟨Nat.le_refl _, by omega, fun x hx => ⟨w.heap.size, 0, (Option.some.inj hx).symm⟩⟩⟩
def saF (a : Option Addr) (m cap : Nat) : Option Addr := if cap = m then a else a.map (·.add (m * 16))
theorem upD_le (f : Nat → Int) (n : Nat) : upD f n ≤ 1048576 := by
  unfold upD
  by_cases h : upC f n = 0
  · rw [if_pos h]
    by_cases hb : 700 < n
    · rw [upC_big hb] at h; cases h
    · have hn : n ≤ 700 := by omega
      by_cases h0 : bdN f n = 0
      · cases hg : upG f n with
        | false => rw [upC_no hn h0 hg] at h; cases h
        | true =>
          unfold upG at hg
          simp at hg
          omega
      · rw [upC_broken hn h0] at h; cases h
  · rw [if_neg h]; omega
theorem sUnpackU_any (n : Nat) (hn : n ≤ 1048576) (f : Nat → Int) (hf : ByF (16 * n) f) (a : Option Addr) (cap : Nat) (w : World) (h : FrR w.heap.size w a n f) :
    Calls Try.prog 25 #[.slice a n cap] w fun e w' => ∃ v, e = .returned (.tuple #[.int .i64 (upKK f n), .int .i64 (upNN f n), v, .int .i64 (upC f n)]) ∧ PO w.heap.size w'.heap.size w' v (upD f n) (FF (pdF f)) ∧ Below w.heap.size w w' := (sUnpack_any n hn f hf a cap w h).mono fun _ _ ⟨v, he, hp, hb, _⟩ => ⟨v, he, hp, hb⟩
theorem iUnpackU_any (n : Nat) (hn : n ≤ 1048576) (f : Nat → Int) (hf : ByF (16 * n) f) (a : Option Addr) (cap : Nat) (w : World) (h : FrR w.heap.size w a n f) (hk : SlOk a n cap) :
    Calls Try.prog 27 #[.slice a n cap] w fun e w' => ∃ v, e = .returned (.tuple #[.int .i64 (upKK f n), .int .i64 (upNN f n), v, .int .i64 (upC f n)]) ∧ PO w.heap.size w'.heap.size w' v (upD f n) (FF (pdF f)) ∧ Below w.heap.size w w' := (iUnpack_any n hn f hf a cap w h hk).mono fun _ _ ⟨v, he, hp, hb, _⟩ => ⟨v, he, hp, hb⟩
end Go.Proofs.Ytkijgadkgfapgaa
