/-
  CONTRACTS: ReadWordFile by the program.
-/
import Derived.Test.YtkijgadkgfapgaaZf
import Derived.Test.YtkijgadkgfapgaaZd
namespace Go.Proofs.Ytkijgadkgfapgaa
open Go.ChangeShapes Go.WideShapes Go.ChangeAt Go.RowKit
open Wd
set_option maxRecDepth 20000 in
set_option maxHeartbeats 4000000 in
/-- data of another length -/
theorem rdW_no (q len cap : Nat) (a : Option Addr) (h : len ≠ 16 * q) (hq : q ≤ 1000) (hl : len ≤ 20000) (r : Value) (hr : r = .func (.func 84) #[] #[]) (w : World) :
    Calls Try.prog 83 #[.int .i64 (q : Int), .slice a len cap, .int .i64 16, r] w fun e w' => e = .returned (.tuple #[.slice none 0 0, .int .i64 5]) ∧ Below w.heap.size w w' := by
  subst hr
  have lq : ((len : Int) != 16 * (q : Int)) = true := by simp; omega
  have qI : (q : Int) ≤ 1000 := by omega
  have lI : (len : Int) ≤ 20000 := by omega
  have q0 : (0 : Int) ≤ (q : Int) := by omega
  clear h hq hl
  go_enter Try.func83, Try.ntmps83
  obtain ⟨w1, hw1⟩ : ∃ x, ((w.alloc (.cells #[.func (.func 84) #[] #[]] 129)).alloc (.cells #[.slice none 0 0] 64)).alloc (.cells #[.int .i64 0] 2) = x := ⟨_, rfl⟩
  have S1 : w1.heap[w.heap.size + 1]? = some (.cells #[.slice none 0 0] 64 (0, 0)) := by
    rw [← hw1]
    have := World.alloc_heap_new (w.alloc (.cells #[.func (.func 84) #[] #[]] 129)) (.cells #[.slice none 0 0] 64)
    rw [World.size_alloc] at this
    exact (Below.heap_alloc _ _ _ (by simp)).trans this
  have S2 : w1.heap[w.heap.size + 1 + 1]? = some (.cells #[.int .i64 0] 2 (0, 0)) := by
    rw [← hw1]
    have := World.alloc_heap_new ((w.alloc (.cells #[.func (.func 84) #[] #[]] 129)).alloc (.cells #[.slice none 0 0] 64)) (.cells #[.int .i64 0] 2)
    rw [World.size_alloc, World.size_alloc] at this
    exact this
  have SB : Hid (Below w.heap.size w w1) := Lib.hid (by rw [← hw1]; exact (((Below.refl _ w).alloc (Nat.le_refl _) _).alloc (by simp) _).alloc (by simp; omega) _)
  have V1 : Hid (Boxed w1 (w.heap.size + 1) 64 (.slice none 0 0)) := Lib.hid S1
  have V2 : Hid (Boxed w1 (w.heap.size + 1 + 1) 2 (.int .i64 0)) := Lib.hid S2
  have c1 := V1.out.cell
  have f1 := V1.out.frozen
  have c2 : (w1.setCell ⟨w.heap.size + 1, 0, none⟩ (.slice none 0 0)).cell? ⟨w.heap.size + 1 + 1, 0, none⟩ = some (.int .i64 0) := (V2.out.other (by omega) _).cell
  have f2 : (w1.setCell ⟨w.heap.size + 1, 0, none⟩ (.slice none 0 0)).frozen? ⟨w.heap.size + 1 + 1, 0, none⟩ = false := (V2.out.other (by omega) _).frozen
  clear S1 S2
  go_wp2_with (rw [hw1])
  have z1 : ((w1.setCell ⟨w.heap.size + 1, 0, none⟩ (.slice none 0 0)).setCell ⟨w.heap.size + 1 + 1, 0, none⟩ (.int .i64 5)).cell? ⟨w.heap.size + 1, 0, none⟩ = some (.slice none 0 0) := ((V1.out.set (.slice none 0 0)).other (by omega) _).cell
  have z2 : ((w1.setCell ⟨w.heap.size + 1, 0, none⟩ (.slice none 0 0)).setCell ⟨w.heap.size + 1 + 1, 0, none⟩ (.int .i64 5)).cell? ⟨w.heap.size + 1 + 1, 0, none⟩ = some (.int .i64 5) := ((V2.out.other (by omega) (.slice none 0 0)).set (.int .i64 5)).cell
  exact bodyPost_ret (v := .tuple #[.slice none 0 0, .int .i64 5]) (by simp [results, Try.results83, go_sem, z1, z2]) rfl ⟨rfl, (SB.out.setCell (p := ⟨w.heap.size + 1, 0, none⟩) (by simp) _).setCell (p := ⟨w.heap.size + 1 + 1, 0, none⟩) (by simp; omega) _⟩
set_option maxRecDepth 20000 in
set_option maxHeartbeats 4000000 in
theorem readCode_any (a : Option Addr) (n cap : Nat) (f : Nat → Int) (hn : 16 ≤ n) (hf : ∀ i, i < 16 → 0 ≤ f i ∧ f i ≤ 255) (w : World) (h : YrR w.heap.size w a n f) :
    Calls Try.prog 84 #[.slice a n cap] w (WocPost f w) := by
  rcases h with h | ⟨g, off, rfl, hg, hc⟩
  · omega
  have CF : Hid (∀ j v, (arr .u8 16 f)[j]? = some v → w.cell? ⟨g, off + j, none⟩ = some v) := Lib.hid fun j v hj => by
    have h8 : j < 16 := by
      have := (Array.getElem?_eq_some_iff.1 hj).1
      rwa [arr_size] at this
    rw [arr_get _ _ _ _ h8] at hj
    rw [← hj]
    exact hc j (by omega)
  have LF := Lib.hid (iwoc_any f hf w)
  have AS : Hid ((arr .u8 16 f).size = 16) := Lib.hid (arr_size _ _ _)
  have WP : Hid (∀ e w', WocPost f w e w' → ∃ t C, e = .returned (.tuple #[.string t, .int .i64 C]) ∧ (e = .returned (.tuple #[.string t, .int .i64 C]) → WocPost f w (.returned (.tuple #[.string t, .int .i64 C])) w')) := Lib.hid fun e w' h => by
    have h2 := h
    unfold WocPost TextPost at h
    exact ⟨_, _, h.1, fun e2 => by rw [← e2]; exact h2⟩
  generalize arr .u8 16 f = A at CF AS LF
  generalize WocPost f w = P at LF WP ⊢
  have hat := fun W => run_arrayAtF (P := Try.prog) 117 _ 16 (some ⟨g, off, none⟩) n cap Try.underlying117 hn W
  clear hc hf
  go_enter Try.func84, Try.ntmps84
  go_wp2_with (refine wpList_load_partq rfl 117 _ rfl g off rfl A _ CF.out Try.underlying117 rfl (wc_info _ AS.out) ?_)
  refine LF.out.mono ?_
  intro e w2 hp
  obtain ⟨t, C, rfl, hq⟩ := WP.out e w2 hp
  have R := Lib.hid (hq rfl)
  clear hp hq
  go_wp2
  exact R.out
/-- the k-th word, read -/
theorem rdWt {f : Nat → Int} {k : Nat} (hb : ∀ i, i < 16 → 0 ≤ rwB f k i ∧ rwB f k i ≤ 255) (g off : Nat) (W : World) (hc : ∀ j, j < 16 → W.cell? ⟨g, off + j, none⟩ = some (.int .u8 (pdF f (16 * k + j)))) (hg : g < W.heap.size) :
    Calls Try.prog 84 #[.slice (some ⟨g, off, none⟩) 16 16] W fun e W' => (∃ x C, e = .returned (.tuple #[x, .int .i64 C]) ∧ (wocOk (rwB f k) = true → x = .string (txt (rwT f k)) ∧ C = 0) ∧ (wocOk (rwB f k) = false → C ≠ 0)) ∧ Below W.heap.size W W' := by
  refine (readCode_any (some ⟨g, off, none⟩) 16 16 (rwB f k) (Nat.le_refl _) hb W (.inr ⟨g, off, rfl, hg, hc⟩)).mono ?_
  intro e w' hp
  cases h : wocOk (rwB f k) with
  | true =>
    obtain ⟨rfl, b⟩ := WocPost.ok h hp
    exact ⟨⟨_, _, rfl, (fun _ => ⟨rfl, rfl⟩), (fun e => by cases e)⟩, b⟩
  | false =>
    obtain ⟨rfl, b⟩ := WocPost.no h hp
    exact ⟨⟨_, 5, rfl, (fun e => by cases e), (fun _ => by decide)⟩, b⟩
set_option maxRecDepth 20000 in
set_option maxHeartbeats 4000000 in
theorem iReadW_any (n : Nat) (hn : n ≤ 1048576) (f : Nat → Int) (hf : ByF (16 * n) f) (a : Option Addr) (cap : Nat) (w : World) (h : FrR w.heap.size w a n f) (hk : SlOk a n cap) :
    Calls Try.prog 47 #[.slice a n cap] w (RwPost f n w) := by
  by_cases hK : upC f n = 0 ∧ upK f = 3
  · obtain ⟨hC, hK⟩ := hK
    obtain ⟨hN, h7, hL, hn1⟩ := up_good hC
    have OP := Lib.hid (openF_good n hn f hf a cap w h hk 3 hC hK)
    have RC : Hid (rwC f n = if upL f = 16 * upN f then (if rwOk f (upN f) = true then 0 else 5) else 5) := Lib.hid (by unfold rwC; rw [if_pos hC]; simp [hK])
    have BP : Hid (ByF (upL f) (pdF f)) := Lib.hid fun j hj => by unfold pdF; exact hf _ (by omega)
    have L9 : upL f ≤ 20000 := by omega
    by_cases hl : upL f = 16 * upN f
    · have RB : ∀ k, k < upN f → ∀ i, i < 16 → 0 ≤ rwB f k i ∧ rwB f k i ≤ 255 := fun k hk i hi => BP.out _ (by omega)
      have G : Hid (∀ v w', rwC f n = 0 → PR 1 w.heap.size w'.heap.size w' v (upN f) (FSt (rwT f)) → Below w.heap.size w w' → RwPost f n w (.returned (.tuple #[v, .int .i64 0])) w') := Lib.hid fun v w' => RwPost.good
      have BD : Hid (∀ v w', (∃ k, k < upN f ∧ wocOk (rwB f k) = false) → v = .slice none 0 0 → Below w.heap.size w w' → RwPost f n w (.returned (.tuple #[v, .int .i64 5])) w') := Lib.hid fun v w' ⟨k, hk, ho⟩ hv hb => by
        subst hv
        exact RwPost.bad (by rw [RC.out, if_pos hl, rwOk_bad hk ho]; exact if_neg (by decide)) (by decide) hb
      have GD : Hid ((∀ k, k < upN f → wocOk (rwB f k) = true) → rwC f n = 0) := Lib.hid fun ho => by rw [RC.out, if_pos hl, rwOk_all ho, if_pos rfl]
      have RE : Hid (∀ a1 c1 w1, upL f ≤ c1 → c1 ≤ maxLen → YrR w1.heap.size w1 a1 (upL f) (pdF f) → Calls Try.prog 83 #[.int .i64 (upN f : Int), .slice a1 (upL f) c1, .int .i64 16, .func (.func 84) #[] #[]] w1 fun e w' => ∃ v C, e = .returned (.tuple #[v, .int .i64 C]) ∧ (((∀ k, k < upN f → wocOk (rwB f k) = true) ∧ C = 0 ∧ OwnSt w1.heap.size v (upN f) (rwT f) w') ∨ ((∃ k, k < upN f ∧ wocOk (rwB f k) = false) ∧ C = 5 ∧ v = .slice none 0 0)) ∧ Below w1.heap.size w1 w') := Lib.hid fun a1 c1 w1 h1 h2 hy =>
        callsIn_wide.1 (rdW_in Fence.wide rfl 3 (Nat.le_refl _) (upN f) (upL f) (by omega) hl.symm (fun k => .string (txt (rwT f k))) (fun k => wocOk (rwB f k)) (fun k => ⟨_, rfl⟩) (pdF f) a1 c1 h1 (by unfold maxLen at h2; omega) w1 hy (fun k hk g off W hc hg => rdWt (RB k hk) g off W hc hg))
      generalize upL f = L at OP RE
      generalize upN f = N at OP RE G BD GD
      generalize rwT f = V at RE G
      generalize rwB f = RF at RE BD GD
      clear hC hK hN h7 hL hn1 RC BP L9 hl RB hf h hk hn
      go_enter Try.func47, Try.ntmps47
      go_wp2_with fail
      refine OP.out.mono ?_
      rintro e w1 ⟨a1, c1, rfl, hc1, hc2, hy, b⟩
      have B1 := Lib.hid b
      have RE1 := Lib.hid (RE.out a1 c1 w1 hc1 hc2 hy)
      clear hc1 hc2 hy b OP RE
      go_wp2_with fail
      refine RE1.out.mono ?_
      rintro e w2 ⟨v, C, rfl, hv, b⟩
      have B2 := Lib.hid (B1.out.trans (b.mono B1.out.size))
      clear b RE1
      rcases hv with ⟨ho, rfl, hw⟩ | ⟨ho, rfl, hv⟩
      · have R := Lib.hid (G.out v w2 (GD.out ho) (OwnSt.pr (OwnSt.base B1.out.size hw)) B2.out)
        clear ho hw
        go_wp2
        exact bodyPost_ret (v := .tuple #[v, .int .i64 0]) (by simp [results, Try.results47, go_sem]) rfl R.out
      · have R := Lib.hid (BD.out v w2 ho hv B2.out)
        clear ho hv
        go_wp2
        exact bodyPost_ret (v := .tuple #[v, .int .i64 5]) (by simp [results, Try.results47, go_sem]) rfl R.out
    · have Q : Hid (rwC f n = 5) := Lib.hid (by rw [RC.out, if_neg hl])
      have RE : Hid (∀ a1 c1 w1, Calls Try.prog 83 #[.int .i64 (upN f : Int), .slice a1 (upL f) c1, .int .i64 16, .func (.func 84) #[] #[]] w1 fun e w' => e = .returned (.tuple #[.slice none 0 0, .int .i64 5]) ∧ Below w1.heap.size w1 w') := Lib.hid fun a1 c1 w1 => rdW_no (upN f) (upL f) c1 a1 hl (by omega) L9 _ rfl w1
      generalize upL f = L at OP RE
      generalize upN f = N at OP RE
      clear hC hK hN h7 hL hn1 RC BP L9 hl hf h hk hn
      go_enter Try.func47, Try.ntmps47
      go_wp2_with fail
      refine OP.out.mono ?_
      rintro e w1 ⟨a1, c1, rfl, hc1, hc2, hy, b⟩
      have B1 := Lib.hid b
      clear hc1 hc2 hy b OP
      go_wp2_with fail
      refine (RE.out a1 c1 w1).mono ?_
      rintro e w2 ⟨rfl, b⟩
      have B2 := Lib.hid (B1.out.trans (b.mono B1.out.size))
      clear b RE
      go_wp2
      exact bodyPost_ret (v := .tuple #[.slice none 0 0, .int .i64 5]) (by simp [results, Try.results47, go_sem]) rfl (RwPost.bad Q.out (by decide) B2.out)
  · have OP := Lib.hid (openF_bad n hn f hf a cap w h hk 3 (fun hC hK2 => hK ⟨hC, hK2⟩))
    have Q : Hid (rwC f n = ofC f n) := Lib.hid (by
      unfold rwC ofC
      by_cases hC : upC f n = 0
      · rw [if_pos hC, if_pos hC, if_neg (fun h2 => hK ⟨hC, h2.1⟩)]
      · rw [if_neg hC, if_neg hC])
    have O0 : ofC f n ≠ 0 := by
      unfold ofC
      by_cases hC : upC f n = 0
      · rw [if_pos hC]; decide
      · rw [if_neg hC]; exact hC
    have HO := Lib.hid O0
    have c1 : (ofC f n != 0) = true := by simpa using O0
    generalize ofC f n = C at OP Q HO c1
    clear hK hf h hk hn O0
    go_enter Try.func47, Try.ntmps47
    go_wp2_with fail
    refine OP.out.mono ?_
    rintro e w1 ⟨rfl, b⟩
    have B1 := Lib.hid b
    clear b OP
    go_wp2
    exact bodyPost_ret (v := .tuple #[.slice none 0 0, .int .i64 C]) (by simp [results, Try.results47, go_sem]) rfl (RwPost.bad Q.out HO.out B1.out)
theorem sReadWU_any (n : Nat) (hn : n ≤ 1048576) (f : Nat → Int) (hf : ByF (16 * n) f) (a : Option Addr) (cap : Nat) (w : World) (h : FrR w.heap.size w a n f) :
    Calls Try.prog 46 #[.slice a n cap] w fun e w' => ∃ v, e = .returned (.tuple #[v, .int .i64 (rwC f n)]) ∧ PR 1 w.heap.size w'.heap.size w' v (rwN f n) (FSt (rwT f)) ∧ Below w.heap.size w w' := sReadW_any n hn f hf a cap w h
theorem iReadWU_any (n : Nat) (hn : n ≤ 1048576) (f : Nat → Int) (hf : ByF (16 * n) f) (a : Option Addr) (cap : Nat) (w : World) (h : FrR w.heap.size w a n f) (hk : SlOk a n cap) :
    Calls Try.prog 47 #[.slice a n cap] w fun e w' => ∃ v, e = .returned (.tuple #[v, .int .i64 (rwC f n)]) ∧ PR 1 w.heap.size w'.heap.size w' v (rwN f n) (FSt (rwT f)) ∧ Below w.heap.size w w' := iReadW_any n hn f hf a cap w h hk
end Go.Proofs.Ytkijgadkgfapgaa
