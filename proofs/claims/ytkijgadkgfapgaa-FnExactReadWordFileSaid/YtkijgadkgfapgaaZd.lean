/-
  CONTRACTS: ReadPointFile by the program.
-/
import Derived.Test.YtkijgadkgfapgaaZc
namespace Go.Proofs.Ytkijgadkgfapgaa
open Go.ChangeShapes Go.WideShapes Go.ChangeAt Go.RowKit
set_option maxRecDepth 20000 in
set_option maxHeartbeats 4000000 in
theorem openF_good (n : Nat) (hn : n ≤ 1048576) (f : Nat → Int) (hf : ByF (16 * n) f) (a : Option Addr) (cap : Nat) (w : World) (h : FrR w.heap.size w a n f) (hk : SlOk a n cap) (k : Int) (hC : upC f n = 0) (hK : upK f = k) :
    Calls Try.prog 82 #[.slice a n cap, .int .i64 k] w fun e w' => ∃ a c, e = .returned (.tuple #[.int .i64 (upN f : Int), .slice a (upL f) c, .int .i64 0]) ∧ upL f ≤ c ∧ c ≤ maxLen ∧ YrR w'.heap.size w' a (upL f) (pdF f) ∧ Below w.heap.size w w' := by
  have SO : Hid (Calls Try.prog 27 #[.slice a n cap] w fun e w' => ∃ a c, e = .returned (.tuple #[.int .i64 (upK f), .int .i64 (upN f : Int), .slice a (upL f) c, .int .i64 0]) ∧ upL f ≤ c ∧ c ≤ maxLen ∧ YrR w'.heap.size w' a (upL f) (pdF f) ∧ Below w.heap.size w w') := Lib.hid ((iUnpack_any n hn f hf a cap w h hk).mono fun e w' h => h.open hC)
  rw [hK] at SO
  have HL := (up_good hC).2.2.1
  have h7 := (up_good hC).2.1
  have hL9 : (upL f : Int) ≤ 8388 := by omega
  generalize upL f = L at SO hL9 ⊢
  generalize upN f = N at SO ⊢
  generalize pdF f = D at SO ⊢
  clear hC hK hf h hk hn HL h7
  go_enter Try.func82, Try.ntmps82
  go_wp2_with fail
  refine SO.out.mono ?_
  rintro e w1 ⟨a1, c1, rfl, hc1, hc2, hy, b⟩
  have R : Hid (L ≤ c1 ∧ c1 ≤ maxLen ∧ YrR w1.heap.size w1 a1 L D ∧ Below w.heap.size w w1) := Lib.hid ⟨hc1, hc2, hy, b⟩
  clear hc1 hc2 hy b SO
  go_wp2
  exact bodyPost_ret (v := .tuple #[.int .i64 (N : Int), .slice a1 L c1, .int .i64 0]) (by simp [results, Try.results82, go_sem]) rfl ⟨a1, c1, rfl, R.out⟩
def ofC (f : Nat → Int) (n : Nat) : Int := if upC f n = 0 then 5 else upC f n
set_option maxRecDepth 20000 in
set_option maxHeartbeats 4000000 in
theorem openF_bad (n : Nat) (hn : n ≤ 1048576) (f : Nat → Int) (hf : ByF (16 * n) f) (a : Option Addr) (cap : Nat) (w : World) (h : FrR w.heap.size w a n f) (hk : SlOk a n cap) (k : Int) (hK : upC f n = 0 → upK f ≠ k) :
    Calls Try.prog 82 #[.slice a n cap, .int .i64 k] w fun e w' => e = .returned (.tuple #[.int .i64 0, .slice none 0 0, .int .i64 (ofC f n)]) ∧ Below w.heap.size w w' := by
  have SO := Lib.hid (iUnpack_any n hn f hf a cap w h hk)
  by_cases hC : upC f n = 0
  · have SO2 : Hid (Calls Try.prog 27 #[.slice a n cap] w fun e w' => ∃ a c, e = .returned (.tuple #[.int .i64 (upK f), .int .i64 (upN f : Int), .slice a (upL f) c, .int .i64 0]) ∧ upL f ≤ c ∧ c ≤ maxLen ∧ YrR w'.heap.size w' a (upL f) (pdF f) ∧ Below w.heap.size w w') := Lib.hid (SO.out.mono fun e w' h => h.open hC)
    have k1 : (upK f != k) = true := by simpa using hK hC
    have OF : ofC f n = 5 := by unfold ofC; rw [if_pos hC]
    rw [OF]
    generalize upL f = L at SO2
    generalize upN f = N at SO2
    generalize upK f = K at SO2 k1
    clear SO hC hK hf h hk hn OF
    go_enter Try.func82, Try.ntmps82
    go_wp2_with fail
    refine SO2.out.mono ?_
    rintro e w1 ⟨a1, c1, rfl, hc1, hc2, hy, b⟩
    have B1 := Lib.hid b
    clear hc1 hc2 hy b SO2
    go_wp2
    exact bodyPost_ret (v := .tuple #[.int .i64 0, .slice none 0 0, .int .i64 5]) (by simp [results, Try.results82, go_sem]) rfl ⟨rfl, B1.out⟩
  · have SO2 : Hid (Calls Try.prog 27 #[.slice a n cap] w fun e w' => ∃ v, e = .returned (.tuple #[.int .i64 0, .int .i64 0, v, .int .i64 (upC f n)]) ∧ Below w.heap.size w w') := Lib.hid (SO.out.mono fun e w' h => h.shut hC)
    have OF : ofC f n = upC f n := by unfold ofC; rw [if_neg hC]
    have c1 : (upC f n != 0) = true := by simpa using hC
    rw [OF]
    generalize upC f n = C at SO2 c1 ⊢
    clear SO hC hK hf h hk hn OF
    go_enter Try.func82, Try.ntmps82
    go_wp2_with fail
    refine SO2.out.mono ?_
    rintro e w1 ⟨v, rfl, b⟩
    have B1 := Lib.hid b
    clear b SO2
    go_wp2
    exact bodyPost_ret (v := .tuple #[.int .i64 0, .slice none 0 0, .int .i64 C]) (by simp [results, Try.results82, go_sem]) rfl ⟨rfl, B1.out⟩
set_option maxRecDepth 20000 in
set_option maxHeartbeats 4000000 in
/-- data of another length -/
theorem rdP_no (q len cap : Nat) (a : Option Addr) (h : len ≠ 8 * q) (hq : q ≤ 1000) (hl : len ≤ 20000) (r : Value) (hr : r = .func (.func 73) #[] #[]) (w : World) :
    Calls Try.prog 85 #[.int .i64 (q : Int), .slice a len cap, .int .i64 8, r] w fun e w' => e = .returned (.tuple #[.slice none 0 0, .int .i64 5]) ∧ Below w.heap.size w w' := by
  subst hr
  have lq : ((len : Int) != 8 * (q : Int)) = true := by simp; omega
  have qI : (q : Int) ≤ 1000 := by omega
  have lI : (len : Int) ≤ 20000 := by omega
  have q0 : (0 : Int) ≤ (q : Int) := by omega
  clear h hq hl
  go_enter Try.func85, Try.ntmps85
  obtain ⟨w1, hw1⟩ : ∃ x, ((w.alloc (.cells #[.func (.func 73) #[] #[]] 113)).alloc (.cells #[.slice none 0 0] 73)).alloc (.cells #[.int .i64 0] 2) = x := ⟨_, rfl⟩
  have S1 : w1.heap[w.heap.size + 1]? = some (.cells #[.slice none 0 0] 73 (0, 0)) := by
    rw [← hw1]
    have := World.alloc_heap_new (w.alloc (.cells #[.func (.func 73) #[] #[]] 113)) (.cells #[.slice none 0 0] 73)
    rw [World.size_alloc] at this
    exact (Below.heap_alloc _ _ _ (by simp)).trans this
  have S2 : w1.heap[w.heap.size + 1 + 1]? = some (.cells #[.int .i64 0] 2 (0, 0)) := by
    rw [← hw1]
    have := World.alloc_heap_new ((w.alloc (.cells #[.func (.func 73) #[] #[]] 113)).alloc (.cells #[.slice none 0 0] 73)) (.cells #[.int .i64 0] 2)
    rw [World.size_alloc, World.size_alloc] at this
    exact this
  have SB : Hid (Below w.heap.size w w1) := Lib.hid (by rw [← hw1]; exact (((Below.refl _ w).alloc (Nat.le_refl _) _).alloc (by simp) _).alloc (by simp; omega) _)
  have V1 : Hid (Boxed w1 (w.heap.size + 1) 73 (.slice none 0 0)) := Lib.hid S1
  have V2 : Hid (Boxed w1 (w.heap.size + 1 + 1) 2 (.int .i64 0)) := Lib.hid S2
  have c1 := V1.out.cell
  have f1 := V1.out.frozen
  have c2 : (w1.setCell ⟨w.heap.size + 1, 0, none⟩ (.slice none 0 0)).cell? ⟨w.heap.size + 1 + 1, 0, none⟩ = some (.int .i64 0) := (V2.out.other (by omega) _).cell
  have f2 : (w1.setCell ⟨w.heap.size + 1, 0, none⟩ (.slice none 0 0)).frozen? ⟨w.heap.size + 1 + 1, 0, none⟩ = false := (V2.out.other (by omega) _).frozen
  clear S1 S2
  go_wp2_with (rw [hw1])
  have z1 : ((w1.setCell ⟨w.heap.size + 1, 0, none⟩ (.slice none 0 0)).setCell ⟨w.heap.size + 1 + 1, 0, none⟩ (.int .i64 5)).cell? ⟨w.heap.size + 1, 0, none⟩ = some (.slice none 0 0) := ((V1.out.set (.slice none 0 0)).other (by omega) _).cell
  have z2 : ((w1.setCell ⟨w.heap.size + 1, 0, none⟩ (.slice none 0 0)).setCell ⟨w.heap.size + 1 + 1, 0, none⟩ (.int .i64 5)).cell? ⟨w.heap.size + 1 + 1, 0, none⟩ = some (.int .i64 5) := ((V2.out.other (by omega) (.slice none 0 0)).set (.int .i64 5)).cell
  exact bodyPost_ret (v := .tuple #[.slice none 0 0, .int .i64 5]) (by simp [results, Try.results85, go_sem, z1, z2]) rfl ⟨rfl, (SB.out.setCell (p := ⟨w.heap.size + 1, 0, none⟩) (by simp) _).setCell (p := ⟨w.heap.size + 1 + 1, 0, none⟩) (by simp; omega) _⟩
/-- the k-th point, read -/
theorem rdPt {f : Nat → Int} {k : Nat} (hb : ∀ i, i < 8 → 0 ≤ rpB f k i ∧ rpB f k i ≤ 255) (g off : Nat) (W : World) (hc : ∀ j, j < 8 → W.cell? ⟨g, off + j, none⟩ = some (.int .u8 (pdF f (8 * k + j)))) (hg : g < W.heap.size) :
    Calls Try.prog 73 #[.slice (some ⟨g, off, none⟩) 8 8] W fun e W' => (∃ x C, e = .returned (.tuple #[x, .int .i64 C]) ∧ (okB (rpB f k) = true → x = .complex .f32 (reB (rpB f k)) (imB (rpB f k)) ∧ C = 0) ∧ (okB (rpB f k) = false → C ≠ 0)) ∧ Below W.heap.size W W' := by
  refine (readPoint_any (some ⟨g, off, none⟩) 8 8 (rpB f k) (Nat.le_refl _) hb W (.inr ⟨g, off, rfl, hg, hc⟩)).mono ?_
  rintro e w' ⟨rfl, b⟩
  refine ⟨?_, b⟩
  cases h : okB (rpB f k) with
  | true => exact ⟨_, _, rfl, (fun _ => ⟨rfl, rfl⟩), (fun e => by cases e)⟩
  | false => exact ⟨.complex .f32 0 0, 2, rfl, (fun e => by cases e), (fun _ => by decide)⟩
set_option maxRecDepth 20000 in
set_option maxHeartbeats 4000000 in
theorem iReadP_any (n : Nat) (hn : n ≤ 1048576) (f : Nat → Int) (hf : ByF (16 * n) f) (a : Option Addr) (cap : Nat) (w : World) (h : FrR w.heap.size w a n f) (hk : SlOk a n cap) :
    Calls Try.prog 50 #[.slice a n cap] w (RpPost f n w) := by
  by_cases hK : upC f n = 0 ∧ upK f = 1
  · obtain ⟨hC, hK⟩ := hK
    obtain ⟨hN, h7, hL, hn1⟩ := up_good hC
    have OP := Lib.hid (openF_good n hn f hf a cap w h hk 1 hC hK)
    have RC : Hid (rpC f n = if upL f = 8 * upN f then (if rpOk f (upN f) = true then 0 else 5) else 5) := Lib.hid (by unfold rpC; rw [if_pos hC]; simp [hK])
    have BP : Hid (ByF (upL f) (pdF f)) := Lib.hid fun j hj => by unfold pdF; exact hf _ (by omega)
    have L9 : upL f ≤ 20000 := by omega
    by_cases hl : upL f = 8 * upN f
    · have RB : ∀ k, k < upN f → ∀ i, i < 8 → 0 ≤ rpB f k i ∧ rpB f k i ≤ 255 := fun k hk i hi => BP.out _ (by omega)
      have G : Hid (∀ v w', rpC f n = 0 → PR 1 w.heap.size w'.heap.size w' v (upN f) (FCx (rpV f)) → Below w.heap.size w w' → RpPost f n w (.returned (.tuple #[v, .int .i64 0])) w') := Lib.hid fun v w' => RpPost.good
      have BD : Hid (∀ v w', (∃ k, k < upN f ∧ okB (rpB f k) = false) → v = .slice none 0 0 → Below w.heap.size w w' → RpPost f n w (.returned (.tuple #[v, .int .i64 5])) w') := Lib.hid fun v w' ⟨k, hk, ho⟩ hv hb => by
        subst hv
        exact RpPost.bad (by rw [RC.out, if_pos hl, rpOk_bad hk ho]; exact if_neg (by decide)) (by decide) hb
      have GD : Hid ((∀ k, k < upN f → okB (rpB f k) = true) → rpC f n = 0) := Lib.hid fun ho => by rw [RC.out, if_pos hl, rpOk_all ho, if_pos rfl]
      have RE : Hid (∀ a1 c1 w1, upL f ≤ c1 → c1 ≤ maxLen → YrR w1.heap.size w1 a1 (upL f) (pdF f) → Calls Try.prog 85 #[.int .i64 (upN f : Int), .slice a1 (upL f) c1, .int .i64 8, .func (.func 73) #[] #[]] w1 fun e w' => ∃ v C, e = .returned (.tuple #[v, .int .i64 C]) ∧ (((∀ k, k < upN f → okB (rpB f k) = true) ∧ C = 0 ∧ OwnCx w1.heap.size v (upN f) (rpV f) w') ∨ ((∃ k, k < upN f ∧ okB (rpB f k) = false) ∧ C = 5 ∧ v = .slice none 0 0)) ∧ Below w1.heap.size w1 w') := Lib.hid fun a1 c1 w1 h1 h2 hy =>
        callsIn_wide.1 (rdP_in Fence.wide rfl 3 (Nat.le_refl _) (upN f) (upL f) (by omega) hl.symm (fun k => .complex .f32 (rpV f k).1 (rpV f k).2) (fun k => okB (rpB f k)) (fun k => ⟨_, _, rfl⟩) (pdF f) a1 c1 h1 (by unfold maxLen at h2; omega) w1 hy (fun k hk g off W hc hg => rdPt (RB k hk) g off W hc hg))
      generalize upL f = L at OP RE
      generalize upN f = N at OP RE G BD GD
      generalize rpV f = V at RE G
      generalize rpB f = RF at RE BD GD
      clear hC hK hN h7 hL hn1 RC BP L9 hl RB hf h hk hn
      go_enter Try.func50, Try.ntmps50
      go_wp2_with fail
      refine OP.out.mono ?_
      rintro e w1 ⟨a1, c1, rfl, hc1, hc2, hy, b⟩
      have B1 := Lib.hid b
      have RE1 := Lib.hid (RE.out a1 c1 w1 hc1 hc2 hy)
      clear hc1 hc2 hy b OP RE
      go_wp2_with fail
      refine RE1.out.mono ?_
      rintro e w2 ⟨v, C, rfl, hv, b⟩
      have B2 := Lib.hid (B1.out.trans (b.mono B1.out.size))
      clear b RE1
      rcases hv with ⟨ho, rfl, hw⟩ | ⟨ho, rfl, hv⟩
      · have R := Lib.hid (G.out v w2 (GD.out ho) (OwnCx.pr (OwnCx.base B1.out.size hw)) B2.out)
        clear ho hw
        go_wp2
        exact bodyPost_ret (v := .tuple #[v, .int .i64 0]) (by simp [results, Try.results50, go_sem]) rfl R.out
      · have R := Lib.hid (BD.out v w2 ho hv B2.out)
        clear ho hv
        go_wp2
        exact bodyPost_ret (v := .tuple #[v, .int .i64 5]) (by simp [results, Try.results50, go_sem]) rfl R.out
    · have Q : Hid (rpC f n = 5) := Lib.hid (by rw [RC.out, if_neg hl])
      have RE : Hid (∀ a1 c1 w1, Calls Try.prog 85 #[.int .i64 (upN f : Int), .slice a1 (upL f) c1, .int .i64 8, .func (.func 73) #[] #[]] w1 fun e w' => e = .returned (.tuple #[.slice none 0 0, .int .i64 5]) ∧ Below w1.heap.size w1 w') := Lib.hid fun a1 c1 w1 => rdP_no (upN f) (upL f) c1 a1 hl (by omega) L9 _ rfl w1
      generalize upL f = L at OP RE
      generalize upN f = N at OP RE
      clear hC hK hN h7 hL hn1 RC BP L9 hl hf h hk hn
      go_enter Try.func50, Try.ntmps50
      go_wp2_with fail
      refine OP.out.mono ?_
      rintro e w1 ⟨a1, c1, rfl, hc1, hc2, hy, b⟩
      have B1 := Lib.hid b
      clear hc1 hc2 hy b OP
      go_wp2_with fail
      refine (RE.out a1 c1 w1).mono ?_
      rintro e w2 ⟨rfl, b⟩
      have B2 := Lib.hid (B1.out.trans (b.mono B1.out.size))
      clear b RE
      go_wp2
      exact bodyPost_ret (v := .tuple #[.slice none 0 0, .int .i64 5]) (by simp [results, Try.results50, go_sem]) rfl (RpPost.bad Q.out (by decide) B2.out)
  · have OP := Lib.hid (openF_bad n hn f hf a cap w h hk 1 (fun hC hK2 => hK ⟨hC, hK2⟩))
    have Q : Hid (rpC f n = ofC f n) := Lib.hid (by
      unfold rpC ofC
      by_cases hC : upC f n = 0
      · rw [if_pos hC, if_pos hC, if_neg (fun h2 => hK ⟨hC, h2.1⟩)]
      · rw [if_neg hC, if_neg hC])
    have O0 : ofC f n ≠ 0 := by
      unfold ofC
      by_cases hC : upC f n = 0
      · rw [if_pos hC]; decide
      · rw [if_neg hC]; exact hC
    have HO := Lib.hid O0
    have c1 : (ofC f n != 0) = true := by simpa using O0
    generalize ofC f n = C at OP Q HO c1
    clear hK hf h hk hn O0
    go_enter Try.func50, Try.ntmps50
    go_wp2_with fail
    refine OP.out.mono ?_
    rintro e w1 ⟨rfl, b⟩
    have B1 := Lib.hid b
    clear b OP
    go_wp2
    exact bodyPost_ret (v := .tuple #[.slice none 0 0, .int .i64 C]) (by simp [results, Try.results50, go_sem]) rfl (RpPost.bad Q.out HO.out B1.out)
theorem sReadPU_any (n : Nat) (hn : n ≤ 1048576) (f : Nat → Int) (hf : ByF (16 * n) f) (a : Option Addr) (cap : Nat) (w : World) (h : FrR w.heap.size w a n f) :
    Calls Try.prog 49 #[.slice a n cap] w fun e w' => ∃ v, e = .returned (.tuple #[v, .int .i64 (rpC f n)]) ∧ PR 1 w.heap.size w'.heap.size w' v (rpN f n) (FCx (rpV f)) ∧ Below w.heap.size w w' := sReadP_any n hn f hf a cap w h
theorem iReadPU_any (n : Nat) (hn : n ≤ 1048576) (f : Nat → Int) (hf : ByF (16 * n) f) (a : Option Addr) (cap : Nat) (w : World) (h : FrR w.heap.size w a n f) (hk : SlOk a n cap) :
    Calls Try.prog 50 #[.slice a n cap] w fun e w' => ∃ v, e = .returned (.tuple #[v, .int .i64 (rpC f n)]) ∧ PR 1 w.heap.size w'.heap.size w' v (rpN f n) (FCx (rpV f)) ∧ Below w.heap.size w w' := iReadP_any n hn f hf a cap w h hk
end Go.Proofs.Ytkijgadkgfapgaa
