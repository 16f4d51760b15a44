/-
  CONTRACTS: UnpackFrames by the specification.
-/
import Derived.Test.YtkijgadkgfapgaaYk
import Derived.Test.YtkijgadkgfapgaaYl
import Derived.Test.YtkijgadkgfapgaaHk
import Derived.Test.YtkijgadkgfapgaaHd
namespace Go.Proofs.Ytkijgadkgfapgaa
open Go.ChangeShapes Go.WideShapes Go.ChangeAt Go.RowKit
def upK (f : Nat → Int) : Int := frK f 0 3
def upN (f : Nat → Int) : Nat := hdB (fun j => frK f 0 (4 + j)) 0 4
def upL (f : Nat → Int) : Nat := hdB (fun j => frK f 0 (8 + j)) 0 4
/-- is the list what is packed? -/
def upS (f : Nat → Int) (n : Nat) : Bool := samePic (pkW (upK f) (upN f) (upL f) (pdF f)) f (pkM (upK f) (upN f) (upL f)) n
def upG (f : Nat → Int) (n : Nat) : Bool := decide (1 ≤ n) && sgnOk (frK f 0) && decide (upL f ≤ 12 * (n - 1)) && upS f n
def upC (f : Nat → Int) (n : Nat) : Int := if 700 < n then 3 else if bdN f n = 0 then (if upG f n then 0 else 5) else 8
def upKK (f : Nat → Int) (n : Nat) : Int := if upC f n = 0 then upK f else 0
def upNN (f : Nat → Int) (n : Nat) : Int := if upC f n = 0 then (upN f : Int) else 0
def upD (f : Nat → Int) (n : Nat) : Nat := if upC f n = 0 then upL f else 0
/-- a slice within its block's bounds -/
def CapOk (v : Value) : Prop := ∃ a m c, v = .slice a m c ∧ m ≤ c ∧ c ≤ maxLen
/-- what both sides answer -/
def UpPost (f : Nat → Int) (n : Nat) (w : World) : Ending → World → Prop := fun e w' => ∃ v, e = .returned (.tuple #[.int .i64 (upKK f n), .int .i64 (upNN f n), v, .int .i64 (upC f n)]) ∧ PO w.heap.size w'.heap.size w' v (upD f n) (FF (pdF f)) ∧ Below w.heap.size w w' ∧ (upC f n = 0 → CapOk v)
theorem UpPost.bad {f : Nat → Int} {n : Nat} {w w' : World} {a : Option Addr} {c : Nat} {C : Int} (h : upC f n = C) (h0 : C ≠ 0) (hb : Below w.heap.size w w') : UpPost f n w (.returned (.tuple #[.int .i64 0, .int .i64 0, .slice a 0 c, .int .i64 C])) w' := by
  have e : ¬ upC f n = 0 := by rw [h]; exact h0
  refine ⟨_, by unfold upKK upNN; rw [if_neg e, if_neg e, h], ?_, hb, fun h' => absurd h' e⟩
  unfold upD
  rw [if_neg e]
  exact PO.empty _ _ _ _ _ _
theorem UpPost.good {f : Nat → Int} {n : Nat} {w w' : World} {v : Value} (h : upC f n = 0) (hp : PO w.heap.size w'.heap.size w' v (upL f) (FF (pdF f))) (hb : Below w.heap.size w w') (hc : CapOk v) : UpPost f n w (.returned (.tuple #[.int .i64 (upK f), .int .i64 (upN f : Int), v, .int .i64 0])) w' := by
  refine ⟨v, by unfold upKK upNN; rw [if_pos h, if_pos h, h], ?_, hb, fun _ => hc⟩
  unfold upD
  rw [if_pos h]
  exact hp
theorem upC_big {f : Nat → Int} {n : Nat} (h : 700 < n) : upC f n = 3 := if_pos h
theorem upC_broken {f : Nat → Int} {n : Nat} (h : n ≤ 700) (hb : bdN f n ≠ 0) : upC f n = 8 := by unfold upC; rw [if_neg (by omega), if_neg hb]
theorem upC_no {f : Nat → Int} {n : Nat} (h : n ≤ 700) (hb : bdN f n = 0) (hg : upG f n = false) : upC f n = 5 := by unfold upC; rw [if_neg (by omega), if_pos hb, hg]; exact if_neg (by decide)
theorem upC_ok {f : Nat → Int} {n : Nat} (h : n ≤ 700) (hb : bdN f n = 0) (hg : upG f n = true) : upC f n = 0 := by unfold upC; rw [if_neg (by omega), if_pos hb, if_pos hg]
theorem upG_none (f : Nat → Int) : upG f 0 = false := rfl
theorem upG_sign {f : Nat → Int} {n : Nat} (h : sgnOk (frK f 0) = false) : upG f n = false := by unfold upG; rw [h]; simp
theorem upG_long {f : Nat → Int} {n : Nat} (h : 12 * (n - 1) < upL f) : upG f n = false := by unfold upG; rw [decide_eq_false (show ¬ upL f ≤ 12 * (n - 1) by omega)]; simp
theorem upG_is {f : Nat → Int} {n : Nat} (h1 : 1 ≤ n) (h2 : sgnOk (frK f 0) = true) (h3 : upL f ≤ 12 * (n - 1)) : upG f n = upS f n := by unfold upG; rw [decide_eq_true h1, h2, decide_eq_true h3]; simp
theorem upS_no {f : Nat → Int} {n : Nat} (hn : 1 ≤ n) (h : hdC (upK f) (upN f) (upL f) ≠ 0) : upS f n = false := by
  unfold upS samePic pkM
  rw [if_neg h, show ((0 : Nat) == n) = false by simp; omega]
  rfl
theorem upL_lt {f : Nat → Int} (hf : ByF 16 (frK f 0)) : upL f ≤ 4294967295 := by
  have := hdB_lt (fun j => frK f 0 (8 + j)) 0 4 (fun i hi => by simpa using hf (8 + i) (by omega))
  unfold upL
  omega
theorem upN_lt {f : Nat → Int} (hf : ByF 16 (frK f 0)) : upN f ≤ 4294967295 := by
  have := hdB_lt (fun j => frK f 0 (4 + j)) 0 4 (fun i hi => by simpa using hf (4 + i) (by omega))
  unfold upN
  omega
theorem OwnU.cap {base : Nat} {a : Option Addr} {c n : Nat} {q : Nat → Int} {w : World} (h : OwnU base (.slice a n c) n q w) : c ≤ maxLen := by
  rcases h.2 with ⟨e, h0⟩ | ⟨g, cap, cur, e, hb, hg, h3, h9, _⟩
  · simp only [Value.slice.injEq] at e
    obtain ⟨-, -, rfl⟩ := e
    exact Nat.zero_le _
  · simp only [Value.slice.injEq] at e
    obtain ⟨-, -, rfl⟩ := e
    exact h9
/-- how a slice of bytes of the call's own looks -/
theorem OwnU.gen {base : Nat} {v : Value} {n : Nat} {q : Nat → Int} {w : World} (h : OwnU base v n q w) : ∃ a cap, v = .slice a n cap ∧ n ≤ cap ∧ cap ≤ maxLen ∧ (∀ x, a = some x → ∃ b off, x = ⟨b, off, none⟩) ∧ YrR w.heap.size w a n q ∧ ∀ m, m ≤ n → PO base w.heap.size w (.slice a m cap) m (FF q) := by
  have hlt := h.lt
  rcases h.2 with ⟨rfl, h0⟩ | ⟨g, cap, cur, rfl, hb, hg, h3, h9, _⟩
  · exact ⟨none, 0, by rw [h0], by omega, Nat.zero_le _, fun x hx => (by cases hx), .inl h0, fun m hm => by rw [show m = 0 by omega]; exact PO.empty _ _ _ _ _ _⟩
  · refine ⟨_, cap, rfl, h3, h9, fun x hx => ⟨g, 0, by cases hx; rfl⟩, ?_, fun m hm => ?_⟩
    · by_cases h0 : n = 0
      · exact .inl h0
      · obtain ⟨g', c', e, h1, h2, h4, h5⟩ := h.form (by omega)
        have hg : g' = g := by simp at e; exact e.1.symm
        subst hg
        exact .inr ⟨g', 0, rfl, h4, fun j hj => by rw [Nat.zero_add]; exact h5 j hj⟩
    · have := PO.part (cap := cap) (off := 0) (m := m) h g cap rfl (by omega)
      refine this.congr fun j hj => by rw [Nat.zero_add]
set_option maxRecDepth 20000 in
set_option maxHeartbeats 8000000 in
theorem sOpen_any (n : Nat) (hn : n ≤ 1048576) (f : Nat → Int) (hf : ByF (16 * n) f) (a : Option Addr) (cap : Nat) (w : World) (h : FrR w.heap.size w a n f) :
    Calls Try.prog 62 #[.slice a n cap] w (UpPost f n w) := by
  by_cases hbig : 700 < n
  · have P : Hid (∀ a c w', Below w.heap.size w w' → UpPost f n w (.returned (.tuple #[.int .i64 0, .int .i64 0, .slice a 0 c, .int .i64 3])) w') := Lib.hid fun a c w' hb => UpPost.bad (upC_big hbig) (by decide) hb
    have nI : (700 : Int) < (n : Int) := by omega
    have B0 : Hid (Below w.heap.size w (w.alloc (.cells #[] 5))) := Lib.hid ((Below.refl _ w).alloc (Nat.le_refl _) _)
    clear h hf hbig hn
    go_enter Try.func62, Try.ntmps62
    go_wp2
    exact bodyPost_ret (v := .tuple #[.int .i64 0, .int .i64 0, .slice (some ⟨w.heap.size, 0, none⟩) 0 0, .int .i64 3]) (by simp [results, Try.results62, go_sem]) rfl (P.out _ _ _ B0.out)
  have hn7 : n ≤ 700 := by omega
  have nI : (n : Int) ≤ 700 := by omega
  have LB := Lib.hid (lBroken_any a n cap f w hn7 hf h)
  have FR := Lib.hid h
  have HF := Lib.hid hf
  have HN := Lib.hid hn7
  by_cases hbad : bdN f n = 0
  · by_cases h0 : n = 0
    · subst h0
      have P : Hid (∀ a c w', Below w.heap.size w w' → UpPost f 0 w (.returned (.tuple #[.int .i64 0, .int .i64 0, .slice a 0 c, .int .i64 5])) w') := Lib.hid fun a c w' hb => UpPost.bad (upC_no hn7 hbad (upG_none f)) (by decide) hb
      rw [hbad] at LB
      clear h hf hbig hn hn7 hbad
      go_enter Try.func62, Try.ntmps62
      go_wp2_with fail
      refine LB.out.mono ?_
      rintro e w1 ⟨v, rfl, o, b⟩
      obtain ⟨aL, cL, rfl, -⟩ := o.pr
      have B1 := Lib.hid b
      have BA := Lib.hid (b.alloc b.size (.cells #[] 5))
      clear o b
      go_wp2
      exact bodyPost_ret (v := .tuple #[.int .i64 0, .int .i64 0, .slice (some ⟨w1.heap.size, 0, none⟩) 0 0, .int .i64 5]) (by simp [results, Try.results62, go_sem]) rfl (P.out _ _ _ BA.out)
    · have hn1 : 1 ≤ n := by omega
      have P : Hid (upG f n = false → ∀ a c w', Below w.heap.size w w' → UpPost f n w (.returned (.tuple #[.int .i64 0, .int .i64 0, .slice a 0 c, .int .i64 5])) w') := Lib.hid fun hg a c w' hb => UpPost.bad (upC_no hn7 hbad hg) (by decide) hb
      have PG : Hid (upG f n = true → ∀ v w', PO w.heap.size w'.heap.size w' v (upL f) (FF (pdF f)) → Below w.heap.size w w' → CapOk v → UpPost f n w (.returned (.tuple #[.int .i64 (upK f), .int .i64 (upN f : Int), v, .int .i64 0])) w') := Lib.hid fun hg v w' hp hb hc => UpPost.good (upC_ok hn7 hbad hg) hp hb hc
      rw [hbad] at LB
      obtain ⟨g, off, ha, hg, hc⟩ : ∃ g off, a = some ⟨g, off, none⟩ ∧ g < w.heap.size ∧ ∀ j, j < 16 * n → w.cell? ⟨g, off + j, none⟩ = some (.int .u8 (f j)) := by
        rcases h with h | h
        · omega
        · exact h
      have BF : ByF 16 (frK f 0) := fun j hj => hf (0 * 16 + j) (by omega)
      have HD := Lib.hid (head_any (frK f 0) BF)
      have KE : Hid (frK f 0 3 = upK f) := Lib.hid rfl
      have NE : Hid (hdB (fun j => frK f 0 (4 + j)) 0 4 = upN f) := Lib.hid rfl
      have LE : Hid (hdB (fun j => frK f 0 (8 + j)) 0 4 = upL f) := Lib.hid rfl
      rw [KE.out, NE.out, LE.out] at HD
      have LL := Lib.hid (upL_lt BF)
      have NL := Lib.hid (upN_lt BF)
      have HC : Hid (∀ W, Below w.heap.size w W → ∀ j u, (Q16 (frK f 0))[j]? = some u → W.cell? ⟨g, off + j, none⟩ = some u) := Lib.hid fun W hW j u e => by
        have hj : j < 16 := by
          rcases Nat.lt_or_ge j 16 with h | h
          · exact h
          · rw [arr_none _ _ _ _ h] at e; cases e
        rw [hW.cell (p := ⟨g, off + j, none⟩) hg, hc j (by omega), ← e, arr_get _ _ _ _ hj]
        unfold frK
        rw [Nat.zero_mul, Nat.zero_add]
      have Q16S : Hid ((Q16 (frK f 0)).size = 16) := Lib.hid (arr_size _ _ _)
      have US : Hid (sgnOk (frK f 0) = true → upL f ≤ 12 * (n - 1) → upG f n = upS f n) := Lib.hid fun h2 h3 => upG_is hn1 h2 h3
      have U1 : Hid (sgnOk (frK f 0) = false → upG f n = false) := Lib.hid upG_sign
      have U2 : Hid (12 * (n - 1) < upL f → upG f n = false) := Lib.hid upG_long
      have U3 : Hid (hdC (upK f) (upN f) (upL f) ≠ 0 → upS f n = false) := Lib.hid (upS_no hn1)
      have DF : Hid (ByF (12 * (n - 1)) (pdF f)) := Lib.hid fun j hj => by unfold pdF; exact hf _ (by omega)
      obtain ⟨sg, hsg⟩ : ∃ s, sgnOk (frK f 0) = s := ⟨_, rfl⟩
      rw [hsg] at HD US U1
      generalize Q16 (frK f 0) = A at HC HD Q16S
      have DA : Hid (∀ W, Below w.heap.size w W → Calls Try.prog 98 #[.slice a n cap] W fun e w' => ∃ v, e = .returned v ∧ OwnU W.heap.size v (12 * (n - 1)) (pdF f) w' ∧ Below W.heap.size W w') := Lib.hid fun W hW => data_any a n cap f W hn1 hn7 (FR.out.below hW hW.size)
      have FW : Hid (∀ W, Below w.heap.size w W → FrR W.heap.size W a n f) := Lib.hid fun W hW => FR.out.below hW hW.size
      have n1 : (1 : Int) ≤ (n : Int) := by omega
      have ne : ((n : Int) == 0) = false := by simp; omega
      subst ha
      clear h hf hbig hn hn7 hbad hc hsg BF h0 hn1 hg FR KE NE LE
      go_enter Try.func62, Try.ntmps62
      go_wp2_with fail
      refine LB.out.mono ?_
      rintro e w1 ⟨v, rfl, o, b⟩
      obtain ⟨aL, cL, rfl, -⟩ := o.pr
      have B1 := Lib.hid b
      have H1 := Lib.hid (HC.out w1 b)
      clear o b
      go_wp2_with (refine wpList_load_part rfl 93 _ rfl g off rfl A _ H1.out Try.underlying93 rfl (fr_info _ Q16S.out) ?_)
      refine (HD.out _).mono ?_
      rintro e w2 ⟨rfl, b⟩
      have B2 := Lib.hid (B1.out.trans (b.mono B1.out.size))
      clear b
      have k0 := Nat.le_refl 0
      go_wp2_with fail
      refine (DA.out w2 B2.out).mono ?_
      rintro e w3 ⟨v, rfl, o, b⟩
      obtain ⟨aD, cD, rfl, hcD, hcM, haD, hyD, hpD⟩ := o.gen
      have B3 := Lib.hid (B2.out.trans (b.mono B2.out.size))
      clear b o
      have dB : Hid (12 * (n - 1) ≤ 8388) := Lib.hid (by have := HN.out; omega)
      obtain ⟨d, hd⟩ : ∃ d, 12 * (n - 1) = d := ⟨_, rfl⟩
      rw [hd] at dB US U2 DF hcD hyD hpD ⊢
      have HCD := Lib.hid hcD
      have HCM := Lib.hid hcM
      clear hcM
      have HYD := Lib.hid hyD
      have HPD := Lib.hid hpD
      have HAD := Lib.hid haD
      have BA := Lib.hid (B3.out.alloc B3.out.size (.cells #[] 5))
      have KI := Lib.hid (fun (h : upL f ≤ 1048576) (hf : ByF (upL f) (pdF f)) => sPack_any (upK f) (upN f) (upL f) h (pdF f) hf)
      have KJ : Hid (PkPost (upK f) (upN f) (upL f) (pdF f) = fun w e w' => ∃ v, e = .returned (.tuple #[v, .int .i64 (hdC (upK f) (upN f) (upL f))]) ∧ PR 16 w.heap.size w'.heap.size w' v (pkM (upK f) (upN f) (upL f)) (FF (pkW (upK f) (upN f) (upL f) (pdF f))) ∧ Below w.heap.size w w') := Lib.hid rfl
      have SE : Hid (upS f n = samePic (pkW (upK f) (upN f) (upL f) (pdF f)) f (pkM (upK f) (upN f) (upL f)) n) := Lib.hid rfl
      have PM : Hid (upL f ≤ 1048576 → pkM (upK f) (upN f) (upL f) ≤ 1048576) := Lib.hid (pkM_le _ _ _)
      obtain ⟨L, hL⟩ : ∃ L, upL f = L := ⟨_, rfl⟩
      obtain ⟨N, hN⟩ : ∃ L, upN f = L := ⟨_, rfl⟩
      obtain ⟨K, hK⟩ : ∃ L, upK f = L := ⟨_, rfl⟩
      simp only [hL, hN, hK] at LL NL US U2 U3 PG KI KJ SE PM ⊢
      generalize pdF f = D at DF HYD HPD KI KJ SE PG
      have LI : (L : Int) ≤ 4294967295 := by have := LL.out; omega
      have NI : (N : Int) ≤ 4294967295 := by have := NL.out; omega
      have DI : (d : Int) ≤ 8388 := by have := dB.out; omega
      clear hd hL hN hK hcD hyD hpD haD
      cases sg with
      | false =>
        have Q := Lib.hid (P.out (U1.out rfl))
        clear P PG US U1 U2 U3 KI KJ SE PM
        go_wp2
        exact bodyPost_ret (v := .tuple #[.int .i64 0, .int .i64 0, .slice (some ⟨w3.heap.size, 0, none⟩) 0 0, .int .i64 5]) (by simp [results, Try.results62, go_sem]) rfl (Q.out _ _ _ BA.out)
      | true =>
        by_cases hLd : d < L
        · have hLd' : (d : Int) < (L : Int) := by omega
          have Q := Lib.hid (P.out (U2.out hLd))
          clear P PG US U1 U2 U3 KI KJ SE PM hLd
          go_wp2
          exact bodyPost_ret (v := .tuple #[.int .i64 0, .int .i64 0, .slice (some ⟨w3.heap.size, 0, none⟩) 0 0, .int .i64 5]) (by simp [results, Try.results62, go_sem]) rfl (Q.out _ _ _ BA.out)
        · have hLd1 : L ≤ d := by omega
          have hLd' : (L : Int) ≤ (d : Int) := by omega
          have LLD := Lib.hid hLd1
          have UE := US.out rfl hLd1
          have hsl := fun W => slice_toF aD d cD L (by have := HCD.out; omega) HAD.out (by have := dB.out; omega) W
          have L0 : (0 : Int) ≤ (L : Int) := by omega
          have LC : (L : Int) ≤ (cD : Int) := by have := HCD.out; omega
          have CALL := Lib.hid (KI.out (by have := dB.out; omega) (fun j hj => DF.out j (by omega)) aD cD w3 (by
            rcases HYD.out with h | ⟨x, y, h1, h2, h3⟩
            · exact .inl (by omega)
            · exact .inr ⟨x, y, h1, h2, fun j hj => h3 j (by omega)⟩))
          have PD := Lib.hid (HPD.out L hLd1)
          have M1 := Lib.hid (PM.out (by have := dB.out; omega))
          rw [KJ.out] at CALL
          rw [UE, SE.out] at P PG
          rw [SE.out] at U3
          clear US U1 U2 KI KJ SE PM HYD HPD HAD UE hLd1 hLd
          generalize hdC K N L = C at CALL U3
          generalize pkM K N L = m at CALL U3 P PG M1
          generalize pkW K N L D = G at CALL U3 P PG
          go_wp2_with fail
          refine CALL.out.mono ?_
          rintro e w4 ⟨v, rfl, hp, b⟩
          obtain ⟨a4, c4, rfl, hf4⟩ := hp.fr
          have B4 := Lib.hid (B3.out.trans (b.mono B3.out.size))
          have P4 := Lib.hid (PO.below b (Nat.le_refl _) PD.out)
          have Z4 : Hid (w3.heap.size ≤ w4.heap.size) := Lib.hid b.size
          have BA4 := Lib.hid (B4.out.alloc B4.out.size (.cells #[] 5))
          have EQ := Lib.hid (sSameFr_any a4 (some ⟨g, off, none⟩) m n c4 cap G f w4.heap.size w4 (Nat.le_refl _) M1.out (by have := HN.out; omega) hf4 (FW.out w4 B4.out))
          clear hp b hf4
          by_cases hC : C = 0
          · subst hC
            go_wp2_with fail
            refine EQ.out.mono ?_
            rintro e w5 ⟨rfl, b⟩
            have B5 := Lib.hid (B4.out.trans (b.mono B4.out.size))
            have P5 := Lib.hid (PO.below b Z4.out P4.out)
            have Z5 : Hid (w3.heap.size ≤ w5.heap.size) := Lib.hid (Nat.le_trans Z4.out b.size)
            have BA5 := Lib.hid (B5.out.alloc B5.out.size (.cells #[] 5))
            clear b EQ
            cases hs : samePic G f m n with
            | false =>
              have Q := Lib.hid (P.out hs)
              have BA := BA5
              clear P PG hs
              go_wp2
              exact bodyPost_ret (v := .tuple #[.int .i64 0, .int .i64 0, .slice (some ⟨w5.heap.size, 0, none⟩) 0 0, .int .i64 5]) (by simp [results, Try.results62, go_sem]) rfl (Q.out _ _ _ BA.out)
            | true =>
              have Q := Lib.hid (PG.out hs)
              clear P PG hs
              have PF := Lib.hid (PO.wide P5.out B2.out.size Z5.out (Nat.le_refl _))
              have CO : Hid (CapOk (.slice aD L cD)) := Lib.hid ⟨_, _, _, rfl, Nat.le_trans LLD.out HCD.out, HCM.out⟩
              go_wp2
              exact bodyPost_ret (v := .tuple #[.int .i64 K, .int .i64 (N : Int), .slice aD L cD, .int .i64 0]) (by simp [results, Try.results62, go_sem]) rfl (Q.out _ _ PF.out B5.out CO.out)
          · have hC1 : (C == 0) = false := by simpa using hC
            have hC2 : (!(C == 0)) = true := by simpa using hC
            have hC3 : (C != 0) = true := by simpa using hC
            have Q := Lib.hid (P.out (U3.out hC))
            have BA := BA4
            clear P PG EQ
            go_wp2
            exact bodyPost_ret (v := .tuple #[.int .i64 0, .int .i64 0, .slice (some ⟨w4.heap.size, 0, none⟩) 0 0, .int .i64 5]) (by simp [results, Try.results62, go_sem]) rfl (Q.out _ _ _ BA.out)
  · have P : Hid (∀ a c w', Below w.heap.size w w' → UpPost f n w (.returned (.tuple #[.int .i64 0, .int .i64 0, .slice a 0 c, .int .i64 8])) w') := Lib.hid fun a c w' hb => UpPost.bad (upC_broken hn7 hbad) (by decide) hb
    have hb1 : (0 : Int) < (bdN f n : Int) := by omega
    generalize bdN f n = m at LB hb1
    clear h hf hbig hn hn7 hbad
    go_enter Try.func62, Try.ntmps62
    go_wp2_with fail
    refine LB.out.mono ?_
    rintro e w1 ⟨v, rfl, o, b⟩
    obtain ⟨aL, cL, rfl, -⟩ := o.pr
    have BA := Lib.hid (b.alloc b.size (.cells #[] 5))
    clear o b
    go_wp2
    exact bodyPost_ret (v := .tuple #[.int .i64 0, .int .i64 0, .slice (some ⟨w1.heap.size, 0, none⟩) 0 0, .int .i64 8]) (by simp [results, Try.results62, go_sem]) rfl (P.out _ _ _ BA.out)
set_option maxRecDepth 20000 in
theorem sUnpack_any (n : Nat) (hn : n ≤ 1048576) (f : Nat → Int) (hf : ByF (16 * n) f) (a : Option Addr) (cap : Nat) (w : World) (h : FrR w.heap.size w a n f) :
    Calls Try.prog 25 #[.slice a n cap] w (UpPost f n w) := by
  have SO := Lib.hid (sOpen_any n hn f hf a cap w h)
  clear hn hf h
  go_enter Try.func25, Try.ntmps25
  go_wp2_with fail
  refine SO.out.mono ?_
  rintro e w1 ⟨v, rfl, hp, b, hcv⟩
  have R : Hid (UpPost f n w (.returned (.tuple #[.int .i64 (upKK f n), .int .i64 (upNN f n), v, .int .i64 (upC f n)])) w1) := Lib.hid ⟨v, rfl, hp, b, hcv⟩
  generalize upKK f n = K at R ⊢
  generalize upNN f n = N at R ⊢
  generalize upC f n = C at R ⊢
  clear hp b hcv
  go_wp2
  exact bodyPost_ret (v := .tuple #[.int .i64 K, .int .i64 N, v, .int .i64 C]) (by simp [results, Try.results25, go_sem]) rfl R.out
end Go.Proofs.Ytkijgadkgfapgaa
