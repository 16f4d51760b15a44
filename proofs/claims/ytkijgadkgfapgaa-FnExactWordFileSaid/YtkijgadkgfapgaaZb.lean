/-
  CONTRACTS: ReadPointFile by the specification.
-/
import Derived.Test.YtkijgadkgfapgaaZa
import Derived.Test.YtkijgadkgfapgaaYz
namespace Go.Proofs.Ytkijgadkgfapgaa
open Go.ChangeShapes Go.WideShapes Go.ChangeAt Go.RowKit
/-- the bytes of the k-th point -/
def rpB (f : Nat → Int) (k : Nat) : Nat → Int := fun j => pdF f (8 * k + j)
def rpOk (f : Nat → Int) (m : Nat) : Bool := (List.range m).all fun k => okB (rpB f k)
def rpV (f : Nat → Int) : Nat → Nat × Nat := fun k => (reB (rpB f k), imB (rpB f k))
def rpC (f : Nat → Int) (n : Nat) : Int := if upC f n = 0 then (if upK f = 1 ∧ upL f = 8 * upN f then (if rpOk f (upN f) = true then 0 else 5) else 5) else upC f n
def rpN (f : Nat → Int) (n : Nat) : Nat := if rpC f n = 0 then upN f else 0
theorem up_good {f : Nat → Int} {n : Nat} (h : upC f n = 0) : upN f ≤ 256 ∧ n ≤ 700 ∧ upL f ≤ 12 * (n - 1) ∧ 1 ≤ n := by
  have h7 : n ≤ 700 := by
    rcases Nat.lt_or_ge 700 n with hb | hb
    · rw [upC_big hb] at h; cases h
    · exact hb
  have h0 : bdN f n = 0 := by
    by_cases e : bdN f n = 0
    · exact e
    · rw [upC_broken h7 e] at h; cases h
  have hg : upG f n = true := by
    cases e : upG f n with
    | true => rfl
    | false => rw [upC_no h7 h0 e] at h; cases h
  have hs := hg
  unfold upG at hs
  simp only [Bool.and_eq_true, decide_eq_true_eq] at hs
  obtain ⟨⟨⟨h1, _⟩, h3⟩, h4⟩ := hs
  refine ⟨?_, h7, h3, h1⟩
  unfold upS samePic at h4
  simp only [Bool.and_eq_true, beq_iff_eq] at h4
  have hm := h4.1
  by_cases hd : hdC (upK f) (upN f) (upL f) = 0
  · unfold hdC at hd
    split at hd
    · rename_i ho
      unfold hdOk at ho
      simp only [Bool.and_eq_true, decide_eq_true_eq] at ho
      omega
    · cases hd
  · unfold pkM at hm
    rw [if_neg hd] at hm
    omega
theorem rpN_le (f : Nat → Int) (n : Nat) : rpN f n ≤ 256 := by
  unfold rpN
  split
  · rename_i h
    unfold rpC at h
    split at h
    · rename_i h0
      exact (up_good h0).1
    · rename_i h0
      exact absurd h h0
  · omega
def RpPost (f : Nat → Int) (n : Nat) (w : World) : Ending → World → Prop := fun e w' => ∃ v, e = .returned (.tuple #[v, .int .i64 (rpC f n)]) ∧ PR 1 w.heap.size w'.heap.size w' v (rpN f n) (FCx (rpV f)) ∧ Below w.heap.size w w'
theorem RpPost.bad {f : Nat → Int} {n : Nat} {w w' : World} {a : Option Addr} {c : Nat} {C : Int} (h : rpC f n = C) (h0 : C ≠ 0) (hb : Below w.heap.size w w') : RpPost f n w (.returned (.tuple #[.slice a 0 c, .int .i64 C])) w' := by
  refine ⟨.slice a 0 c, by rw [h], ?_, hb⟩
  unfold rpN
  rw [h, if_neg h0]
  exact ⟨a, c, rfl, .inl rfl⟩
theorem RpPost.good {f : Nat → Int} {n : Nat} {w w' : World} {v : Value} (h : rpC f n = 0) (hp : PR 1 w.heap.size w'.heap.size w' v (upN f) (FCx (rpV f))) (hb : Below w.heap.size w w') : RpPost f n w (.returned (.tuple #[v, .int .i64 0])) w' := by
  refine ⟨v, by rw [h], ?_, hb⟩
  unfold rpN
  rw [h, if_pos rfl]
  exact hp
theorem rpOk_bad {f : Nat → Int} {m k : Nat} (hk : k < m) (h : okB (rpB f k) = false) : rpOk f m = false := by
  unfold rpOk
  rw [List.all_eq_false]
  exact ⟨k, by simpa using hk, by simp [h]⟩
theorem rpOk_all {f : Nat → Int} {m : Nat} (h : ∀ k, k < m → okB (rpB f k) = true) : rpOk f m = true := by
  unfold rpOk
  rw [List.all_eq_true]
  intro k hk
  exact h k (by simpa using hk)
theorem slice_fromO (g off n c p : Nat) (hp : p < n) (hn : n ≤ c) (w : World) : (Instr.slice 45 (.slice (some ⟨g, off, none⟩) n c) (some (.int .i64 (p : Int))) none none).run Try.prog w = .ok (.slice (some ⟨g, off + p, none⟩) (n - p) (c - p)) w := by
  have hs : ∀ w, (sizeOf (Try.prog.elem 45)).run Try.prog w = .ok 1 w := fun w => by kernel_rfl
  rw [run_slice_l (P := Try.prog) (w := w) 45 (some ⟨g, off, none⟩) n c (by kernel_rfl) .i64 (p : Int) (by omega) (by omega), hs]
  simp only [Result.andThen_ok, sliced, Int.toNat_natCast]
  simp [show ¬ c = p by omega, Go.WideShapes.add_plain]
theorem OwnCx.base {base b2 : Nat} {v : Value} {n : Nat} {q : Nat → Nat × Nat} {w : World} (hb : base ≤ b2) (h : OwnCx b2 v n q w) : OwnCx base v n q w := by
  obtain ⟨h1, h2⟩ := h
  refine ⟨h1, ?_⟩
  rcases h2 with h2 | ⟨g, cap, cur, e, h3, h4⟩
  · exact .inl h2
  · exact .inr ⟨g, cap, cur, e, Nat.le_trans hb h3, h4⟩
/-- what stands behind an opened file -/
theorem UpPost.open {f : Nat → Int} {n : Nat} {w : World} {e : Ending} {w' : World} (h : UpPost f n w e w') (hc : upC f n = 0) :
    ∃ a c, e = .returned (.tuple #[.int .i64 (upK f), .int .i64 (upN f : Int), .slice a (upL f) c, .int .i64 0]) ∧ upL f ≤ c ∧ c ≤ maxLen ∧ YrR w'.heap.size w' a (upL f) (pdF f) ∧ Below w.heap.size w w' := by
  obtain ⟨v, he, hp, hb, hcap⟩ := h
  obtain ⟨a0, m0, c0, rfl, h1, h2⟩ := hcap hc
  obtain ⟨a, c, e2, hy⟩ := hp.yr
  unfold upD at e2 hy
  rw [if_pos hc] at e2 hy
  simp only [Value.slice.injEq] at e2
  obtain ⟨rfl, rfl, rfl⟩ := e2
  refine ⟨a0, c0, ?_, h1, h2, hy, hb⟩
  rw [he]
  unfold upKK upNN
  rw [if_pos hc, if_pos hc, hc]
theorem UpPost.shut {f : Nat → Int} {n : Nat} {w : World} {e : Ending} {w' : World} (h : UpPost f n w e w') (hc : upC f n ≠ 0) :
    ∃ v, e = .returned (.tuple #[.int .i64 0, .int .i64 0, v, .int .i64 (upC f n)]) ∧ Below w.heap.size w w' := by
  obtain ⟨v, he, hp, hb, -⟩ := h
  refine ⟨v, ?_, hb⟩
  rw [he]
  unfold upKK upNN
  rw [if_neg hc, if_neg hc]
set_option maxRecDepth 20000 in
set_option maxHeartbeats 8000000 in
theorem sReadP_any (n : Nat) (hn : n ≤ 1048576) (f : Nat → Int) (hf : ByF (16 * n) f) (a : Option Addr) (cap : Nat) (w : World) (h : FrR w.heap.size w a n f) :
    Calls Try.prog 49 #[.slice a n cap] w (RpPost f n w) := by
  have SO := Lib.hid (sOpen_any n hn f hf a cap w h)
  by_cases hC : upC f n = 0
  · obtain ⟨hN, h7, hL, hn1⟩ := up_good hC
    have SO2 : Hid (Calls Try.prog 62 #[.slice a n cap] w fun e w' => ∃ a c, e = .returned (.tuple #[.int .i64 (upK f), .int .i64 (upN f : Int), .slice a (upL f) c, .int .i64 0]) ∧ upL f ≤ c ∧ c ≤ maxLen ∧ YrR w'.heap.size w' a (upL f) (pdF f) ∧ Below w.heap.size w w') := Lib.hid (SO.out.mono fun e w' h => h.open hC)
    have RC : Hid (rpC f n = if upK f = 1 ∧ upL f = 8 * upN f then (if rpOk f (upN f) = true then 0 else 5) else 5) := Lib.hid (by unfold rpC; rw [if_pos hC])
    have BP : Hid (ByF (upL f) (pdF f)) := Lib.hid fun j hj => by unfold pdF; exact hf _ (by omega)
    have hL9 : (upL f : Int) ≤ 8388 := by omega
    have hN9 : (upN f : Int) ≤ 256 := by omega
    by_cases hk : upK f = 1
    · have k1 : (upK f != 1) = false := by simpa using hk
      by_cases hl : upL f = 8 * upN f
      · have l1 : ((upL f : Int) != 8 * (upN f : Int)) = false := by simp; omega
        have n1 : decide (256 < (upN f : Int)) = false := by simp; omega
        have RC2 : Hid (rpC f n = if rpOk f (upN f) = true then 0 else 5) := Lib.hid (by rw [RC.out, if_pos ⟨hk, hl⟩])
        have RB : Hid (∀ k, k < upN f → ∀ i, i < 8 → 0 ≤ rpB f k i ∧ rpB f k i ≤ 255) := Lib.hid fun k hk i hi => BP.out _ (by omega)
        have G : Hid (∀ v w', rpC f n = 0 → PR 1 w.heap.size w'.heap.size w' v (upN f) (FCx (rpV f)) → Below w.heap.size w w' → RpPost f n w (.returned (.tuple #[v, .int .i64 0])) w') := Lib.hid fun v w' => RpPost.good
        have BD : Hid (∀ k, k < upN f → okB (rpB f k) = false → rpC f n = 5) := Lib.hid fun k hk ho => by rw [RC2.out, rpOk_bad hk ho]; exact if_neg (by decide)
        have GD : Hid ((∀ k, k < upN f → okB (rpB f k) = true) → rpC f n = 0) := Lib.hid fun ho => by rw [RC2.out, rpOk_all ho, if_pos rfl]
        have RV : Hid (∀ k, rpV f k = (reB (rpB f k), imB (rpB f k))) := Lib.hid fun k => rfl
        have RD : Hid (∀ k j, pdF f (8 * k + j) = rpB f k j) := Lib.hid fun k j => rfl
        have HLN := Lib.hid hl
        obtain ⟨L, eL⟩ : ∃ L, upL f = L := ⟨_, rfl⟩
        obtain ⟨N, eN⟩ : ∃ L, upN f = L := ⟨_, rfl⟩
        rw [eL] at SO2 l1 HLN hL9
        rw [eN] at SO2 l1 n1 RB BD GD HLN hN9 G
        generalize upK f = K at SO2 k1
        generalize pdF f = D at SO2 RD
        generalize rpB f = RF at RB BD GD RV RD
        generalize rpV f = V at G RV
        clear SO hC hN h7 hL hn1 RC BP hk hl RC2 hf h hn eL eN
        go_enter Try.func49, Try.ntmps49
        go_wp2_with fail
        refine SO2.out.mono ?_
        rintro e w1 ⟨a1, c1, rfl, hc1, hc2, hy, b⟩
        have B1 := Lib.hid b
        have HY := Lib.hid hy
        have HC1 := Lib.hid hc1
        clear hc1 hc2 hy b SO2
        have B2 := Lib.hid (B1.out.alloc B1.out.size (.cells #[] 55))
        have O2 := Lib.hid (OwnCx.made V w1 w1.heap.size (Nat.le_refl _))
        have HY2 : Hid (∀ W, Below w1.heap.size w1 W → YrR w1.heap.size W a1 L D) := Lib.hid fun W hW => HY.out.below hW (Nat.le_refl _)
        have Z2 : Hid (Below w1.heap.size w1 (w1.alloc (.cells #[] 55))) := Lib.hid ((Below.refl _ _).alloc (Nat.le_refl _) _)
        have Z1 : Hid (w.heap.size ≤ w1.heap.size) := Lib.hid B1.out.size
        go_wp2_with fail
        generalize w1.alloc (.cells #[] 55) = w2 at O2 B2 Z2 ⊢
        go_loopw [8, 9] (fun o vi wr => ∃ k : Nat, k ≤ N ∧ vi = .int .i64 ((8 * k : Nat) : Int) ∧ Hid (OwnCx w1.heap.size o k V wr) ∧ Hid (Below w1.heap.size w1 wr) ∧ Hid (∀ i, i < k → okB (RF i) = true)) (fun _ vi _ => L + 8 - (intOf vi).toNat)
        case atStart => exact ⟨0, by omega, rfl, O2, Z2, Lib.hid fun i h => absurd h (by omega)⟩
        case round =>
          obtain ⟨k, hk, rfl, ho, hb, hs⟩ := hrel
          have BW : Hid (Below w.heap.size w wr) := Lib.hid (B1.out.trans (hb.out.mono Z1.out))
          obtain ⟨i, hi⟩ : ∃ i, 8 * k = i := ⟨_, rfl⟩
          have HI := Lib.hid hi
          rw [hi]
          have iI : (i : Int) ≤ 8388 := by have := HLN.out; omega
          by_cases hlt : k < N
          · have ti : (i : Int) < (L : Int) := by have := HLN.out; omega
            obtain ⟨g, off, rfl, hg, hc⟩ : ∃ g off, a1 = some ⟨g, off, none⟩ ∧ g < w1.heap.size ∧ ∀ j, j < L → wr.cell? ⟨g, off + j, none⟩ = some (.int .u8 (D j)) := by
              rcases HY2.out wr hb.out with h | h
              · have := HLN.out; omega
              · exact h
            have su := slice_fromO g off L c1 i (by have := HLN.out; omega) HC1.out
            have LP := Lib.hid (l09Point_any (some ⟨g, off + i, none⟩) (L - i) (c1 - i) (RF k) (by have := HLN.out; omega) (RB.out k hlt) wr (.inr ⟨g, off + i, rfl, Nat.lt_of_lt_of_le hg hb.out.size, fun j hj => by rw [Nat.add_assoc, hc (i + j) (by omega), ← hi, RD.out]⟩))
            have HK := Lib.hid hlt
            have RVk := RV.out k
            have BDk := Lib.hid (BD.out k hlt)
            obtain ⟨x, hx⟩ : ∃ x, reB (RF k) = x := ⟨_, rfl⟩
            obtain ⟨y, hy⟩ : ∃ x, imB (RF k) = x := ⟨_, rfl⟩
            rw [hx, hy] at LP RVk
            have RVH := Lib.hid RVk
            clear RVk hc hg hi hk hlt hx hy
            cases hok : okB (RF k) with
            | true =>
              have HOK := Lib.hid hok
              rw [hok] at LP
              clear hok
              go_wp2_with fail
              refine LP.out.mono ?_
              rintro e w3 ⟨rfl, b⟩
              have B3 := Lib.hid (hb.out.trans (b.mono hb.out.size))
              have OW : Hid (OwnCx w1.heap.size u8 k V w3) := Lib.hid (ownsRow_belowB ho.out b)
              clear b
              go_wp2_with (at_builtin; refine wpList_append_cx rfl _ _ rfl w1.heap.size _ k V rfl (OW.out.alloc _) w3.heap.size 1 x y rfl ((World.cell?_alloc_new _ _ _ _).trans rfl) RVH.out (by have := HI.out; omega) (by have := B3.out.size; rw [World.size_alloc]; omega) w1 (B3.out.alloc B3.out.size _) ?_; intro v4 w4 h1 h2 h3; have O4 := Lib.hid h1; have B4 := Lib.hid h2; clear h1 h2 h3)
              go_roundw
              case rel => exact ⟨k + 1, HK.out, by have := HI.out; rw [Nat.mul_succ, this]; push_cast; rfl, O4, B4, Lib.hid fun i2 h2 => by
                rcases Nat.lt_or_ge i2 k with h | h
                · exact hs.out i2 h
                · obtain rfl : i2 = k := by omega
                  exact HOK.out⟩
              case measure => have := HK.out; have := HI.out; have := HLN.out; simp [intOf]; omega
            | false =>
              have Q := Lib.hid (BDk.out hok)
              rw [hok] at LP
              clear hok
              go_wp2_with fail
              refine LP.out.mono ?_
              rintro e w3 ⟨rfl, b⟩
              have B3 := Lib.hid (BW.out.trans (b.mono BW.out.size))
              clear b
              go_wp2
              exact bodyPost_ret (v := .tuple #[.slice (some ⟨w3.heap.size, 0, none⟩) 0 0, .int .i64 5]) (by simp [results, Try.results49, go_sem]) rfl (RpPost.bad Q.out (by decide) (B3.out.alloc B3.out.size _))
          · obtain rfl : k = N := by omega
            have ti : ¬ ((i : Int) < (L : Int)) := by have := HLN.out; omega
            have tge : (L : Int) ≤ (i : Int) := by omega
            have Q := Lib.hid (GD.out fun i h => hs.out i h)
            have PP := Lib.hid (OwnCx.pr (OwnCx.base Z1.out ho.out))
            clear hlt hk hi ho hb hs
            go_wp2_with fail
            exact bodyPost_ret (v := .tuple #[u8, .int .i64 0]) (by simp [results, Try.results49, go_sem]) rfl (G.out _ _ Q.out PP.out BW.out)
      · have l1 : ((upL f : Int) != 8 * (upN f : Int)) = true := by simp; omega
        have Q : Hid (rpC f n = 5) := Lib.hid (by rw [RC.out, if_neg (fun h => hl h.2)])
        generalize upL f = L at SO2 l1 hL9
        generalize upN f = N at SO2 l1 hN9
        generalize upK f = K at SO2 k1
        clear SO hC hN h7 hL hn1 RC BP hk hl hf h hn
        go_enter Try.func49, Try.ntmps49
        go_wp2_with fail
        refine SO2.out.mono ?_
        rintro e w1 ⟨a1, c1, rfl, hc1, hc2, hy, b⟩
        have B1 := Lib.hid b
        clear hc1 hc2 hy b SO2
        go_wp2
        exact bodyPost_ret (v := .tuple #[.slice (some ⟨w1.heap.size, 0, none⟩) 0 0, .int .i64 5]) (by simp [results, Try.results49, go_sem]) rfl (RpPost.bad Q.out (by decide) (B1.out.alloc B1.out.size _))
    · have k1 : (upK f != 1) = true := by simpa using hk
      have Q : Hid (rpC f n = 5) := Lib.hid (by rw [RC.out, if_neg (fun h => hk h.1)])
      generalize upL f = L at SO2 hL9
      generalize upN f = N at SO2 hN9
      generalize upK f = K at SO2 k1
      clear SO hC hN h7 hL hn1 RC BP hk hf h hn
      go_enter Try.func49, Try.ntmps49
      go_wp2_with fail
      refine SO2.out.mono ?_
      rintro e w1 ⟨a1, c1, rfl, hc1, hc2, hy, b⟩
      have B1 := Lib.hid b
      clear hc1 hc2 hy b SO2
      go_wp2
      exact bodyPost_ret (v := .tuple #[.slice (some ⟨w1.heap.size, 0, none⟩) 0 0, .int .i64 5]) (by simp [results, Try.results49, go_sem]) rfl (RpPost.bad Q.out (by decide) (B1.out.alloc B1.out.size _))
  · have SO2 : Hid (Calls Try.prog 62 #[.slice a n cap] w fun e w' => ∃ v, e = .returned (.tuple #[.int .i64 0, .int .i64 0, v, .int .i64 (upC f n)]) ∧ Below w.heap.size w w') := Lib.hid (SO.out.mono fun e w' h => h.shut hC)
    have Q : Hid (rpC f n = upC f n) := Lib.hid (by unfold rpC; rw [if_neg hC])
    have HC := Lib.hid hC
    have c1 : (upC f n != 0) = true := by simpa using hC
    generalize upC f n = C at SO2 Q HC c1
    clear SO hC hf h hn
    go_enter Try.func49, Try.ntmps49
    go_wp2_with fail
    refine SO2.out.mono ?_
    rintro e w1 ⟨v, rfl, b⟩
    have B1 := Lib.hid b
    clear b SO2
    go_wp2
    exact bodyPost_ret (v := .tuple #[.slice (some ⟨w1.heap.size, 0, none⟩) 0 0, .int .i64 C]) (by simp [results, Try.results49, go_sem]) rfl (RpPost.bad Q.out HC.out (B1.out.alloc B1.out.size _))
end Go.Proofs.Ytkijgadkgfapgaa
