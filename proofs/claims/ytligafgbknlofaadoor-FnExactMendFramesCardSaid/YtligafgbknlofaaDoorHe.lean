/-
  CONTRACTS: the program's BrokenFrames.
-/
import Derived.Test.YtligafgbknlofaaDoorHb
import Derived.Test.YtligafgbknlofaaDoorHd
import Derived.Test.YtligafgbknlofaaDoorGg
namespace Go.Proofs.YtligafgbknlofaaDoor
open Go.ChangeShapes Go.WideShapes Go.ChangeAt Go.RowKit
/-- the variable's cell that errors.As reads -/
def ErrT (w : World) : Prop := w.cell? ⟨0, 0, none⟩ = some (.iface 104 (.agg #[.pointer (some ⟨1, 61, none⟩)]))
theorem ErrT.pos {w : World} (h : ErrT w) : 0 < w.heap.size := by
  rcases Nat.eq_zero_or_pos w.heap.size with h0 | h'
  · unfold ErrT at h; simp [World.cell?, h0] at h
  · exact h'
theorem ErrT.below {w w' : World} {b : Nat} (h : ErrT w) (hb : Below b w w') (h0 : 0 < b) : ErrT w' := (hb.cell (p := ⟨0, 0, none⟩) h0).trans h
def SlOkF (a : Option Addr) (n c : Nat) : Prop := n ≤ c ∧ c ≤ 4000000 ∧ ∀ x, a = some x → ∃ b off, x = ⟨b, off, none⟩
theorem toFc_any {a : Option Addr} {cap n : Nat} {f : Nat → Int} {B : Nat} {w : World} (hB : B ≤ w.heap.size) (h : FrR B w a n f) (hl : n ≤ 1048576) :
    Calls Tryd.prog 8 #[.slice a n cap] w fun e w' => ∃ v, e = .returned v ∧ PR 16 w.heap.size w'.heap.size w' v n (FF f) ∧ Below w.heap.size w w' ∧ ∀ a' n' c', v = .slice a' n' c' → SlOkF a' n' c' :=
  (toFS_any a cap n f B w hB h hl).mono fun e w' ⟨he, _, hb, hs, hr⟩ => ⟨_, he, ⟨_, n, rfl, .inr ⟨w.heap.size, rfl, Nat.le_refl _, hs, Nat.le_refl _, fun j hj => by
    rw [Lib.cell_of_heap hr j, rowFr_get _ _ _ _ (by omega), if_pos (by omega)]; rfl, fun j _ => Lib.frozen_of_heap hr j⟩⟩, hb, fun a' n' c' e => by
    simp only [Value.slice.injEq] at e
    obtain ⟨rfl, rfl, rfl⟩ := e
    exact ⟨Nat.le_refl _, by omega, fun x hx => ⟨w.heap.size, 0, (Option.some.inj hx).symm⟩⟩⟩
def saF (a : Option Addr) (m cap : Nat) : Option Addr := if cap = m then a else a.map (·.add (m * 16))
theorem slice_fromF (a : Option Addr) (n cap m : Nat) (hm : m ≤ n) (hn : n ≤ 4000000) (w : World) : (Instr.slice 27 (.slice a n cap) (some (.int .i64 (m : Int))) none none).run Tryd.prog w = .ok (.slice (saF a m cap) (n - m) (cap - m)) w := by
  have hs : ∀ w, (sizeOf (Tryd.prog.elem 27)).run Tryd.prog w = .ok 16 w := fun w => by kernel_rfl
  rw [run_slice_l (P := Tryd.prog) (w := w) 27 a n cap (by kernel_rfl) .i64 (m : Int) (by omega) (by omega), hs]
  simp only [Result.andThen_ok, sliced, Int.toNat_natCast]
  rfl
theorem FrR.from {B : Nat} {w : World} {a : Option Addr} {n cap m : Nat} {f : Nat → Int} (h : FrR B w a n f) (hc : n ≤ cap) (hm : m ≤ n) : FrR B w (saF a m cap) (n - m) (fun j => f (m * 16 + j)) := by
  by_cases e : n - m = 0
  · exact .inl e
  · rcases h with h | ⟨g, off, rfl, hg, hc'⟩
    · omega
    · refine .inr ⟨g, off + m * 16, ?_, hg, fun j hj => ?_⟩
      · unfold saF
        rw [if_neg (by omega)]
        simp [Go.WideShapes.add_plain]
      · rw [Nat.add_assoc]; exact hc' (m * 16 + j) (by omega)
theorem okAt_shift (f : Nat → Int) (m k : Nat) : okAt (fun j => f (m * 16 + j)) (m : Int) k = okAt f 0 (m + k) := by
  unfold okAt
  have e1 : (m : Int) + (k : Int) = 0 + ((m + k : Nat) : Int) := by push_cast; omega
  have e2 : frK (fun j => f (m * 16 + j)) k = frK f (m + k) := by
    funext y
    unfold frK
    show f (m * 16 + (k * 16 + y)) = f ((m + k) * 16 + y)
    rw [show m * 16 + (k * 16 + y) = (m + k) * 16 + y by omega]
  rw [e1, e2]
theorem frozen_block {w w' : World} {b : Nat} (h : w'.heap[b]? = w.heap[b]?) : w'.frozen? ⟨b, 0, none⟩ = w.frozen? ⟨b, 0, none⟩ := by
  unfold World.frozen?
  simp only
  rw [h]
/-- errors.As hits: what turns -/
theorem as_hit2 (tb : Nat) (p : Int) (old : Value) (w : World) (hg : ErrT w) (ht0 : w.cell? ⟨tb, 0, none⟩ = some old) (hf0 : w.frozen? ⟨tb, 0, none⟩ = false) :
    Calls Tryd.prog 32 #[.iface 59 (.agg #[.int .i64 p]), .iface 65 (.pointer (some ⟨tb, 0, none⟩))] w fun ev w' => ev = .returned (.bool true) ∧ w'.cell? ⟨tb, 0, none⟩ = some (.int .i64 p) ∧ w'.frozen? ⟨tb, 0, none⟩ = false ∧ Below tb w w' ∧ ∀ k, k < w.heap.size → k ≠ tb → w'.heap[k]? = w.heap[k]? := by
  have htl : tb < w.heap.size := by
    rcases Nat.lt_or_ge tb w.heap.size with h | h
    · exact h
    · simp [World.cell?, Array.getElem?_eq_none h] at ht0
  refine (as_hit tb p old w hg ht0 hf0).mono ?_
  rintro e w' ⟨rfl, rfl⟩
  have b1 := (Below.refl w.heap.size w).alloc (Nat.le_refl _) (.cells #[.pointer (some ⟨tb, 0, none⟩)] 65)
  have b2 := b1.alloc (by simp) (.cells #[.pointer (some ⟨1, 65, none⟩), .pointer (some ⟨w.heap.size, 0, none⟩), .int .u64 150] 86)
  have b3 := b2.alloc (by simp; omega) (.cells #[.pointer (some ⟨1, 65, none⟩), .pointer (some ⟨w.heap.size, 0, none⟩), .int .u64 150] 86)
  have b4 := b3.alloc (by simp; omega) (.cells #[.int .i64 p] 59)
  refine ⟨rfl, ?_, ?_, (b4.mono (Nat.le_of_lt htl)).setCell (p := ⟨tb, 0, none⟩) (Nat.le_refl _) _, fun k hk hne => (fset_far hne _).trans (b4.block k hk)⟩
  · rw [fcell_set ((b4.cell (p := ⟨tb, 0, none⟩) htl).trans ht0)]
    simp
  · rw [World.frozen?_setCell]
    have := b4.block tb htl
    unfold World.frozen? at hf0 ⊢
    simp only at hf0 ⊢
    rw [this]
    exact hf0
theorem ownL_at {base n : Nat} {v : Value} {q : Nat → Int} {w w' : World} (h : OwnL base v n q w) (hb : ∀ k, k < w.heap.size → base ≤ k → w'.heap[k]? = w.heap[k]?) : OwnL base v n q w' := by
  have hl := World.ownsRow.lt h
  refine ⟨h.1, ?_⟩
  rcases h.2 with h0 | ⟨g, cap, cur, rfl, h1, h2, h3⟩
  · exact .inl h0
  · exact .inr ⟨g, cap, cur, rfl, h1, (hb g (hl g rfl).2 h1).trans h2, h3⟩
theorem OwnL.base {base b2 : Nat} {v : Value} {n : Nat} {q : Nat → Int} {w : World} (hb : base ≤ b2) (h : OwnL b2 v n q w) : OwnL base v n q w := by
  refine ⟨h.1, ?_⟩
  rcases h.2 with h0 | ⟨g, cap, cur, h1, h2, h3⟩
  · exact .inl h0
  · exact .inr ⟨g, cap, cur, h1, Nat.le_trans hb h2, h3⟩
set_option maxRecDepth 20000 in
set_option maxHeartbeats 8000000 in
theorem iBroken_any (n : Nat) (f : Nat → Int) (hf : ByF (16 * n) f) (a : Option Addr) (cap : Nat) (w : World) (h : FrR w.heap.size w a n f) (hk : SlOkF a n cap) (hE : ErrT w) :
    Calls Tryd.prog 9 #[.slice a n cap] w fun e w' => ∃ v, e = .returned (.tuple #[v, .int .i64 (bbC n)]) ∧ PR 1 w.heap.size w'.heap.size w' v (bbN f n) (FL (bdF f n)) ∧ Below w.heap.size w w' := by
  by_cases hn : 700 < n
  · have R : Hid (∀ (e : Ending) (w' : World), e = .returned (.tuple #[.slice none 0 0, .int .i64 3]) ∧ w = w' → ∃ v, e = .returned (.tuple #[v, .int .i64 (bbC n)]) ∧ PR 1 w.heap.size w'.heap.size w' v (bbN f n) (FL (bdF f n)) ∧ Below w.heap.size w w') := Lib.hid (fun e w' ⟨h1, h2⟩ => by
      have hc : bbC n = 3 := if_pos hn
      have hN : bbN f n = 0 := if_pos hn
      exact ⟨_, by rw [h1, hc], by rw [hN]; exact PR.empty _ _ _ _ _ _ _, by rw [h2]; exact Below.refl _ _⟩)
    refine Calls.mono ?_ R.out
    have hn' : (700 : Int) < (n : Int) := by omega
    clear h hn R hf hk hE
    go_enter Tryd.func9, Tryd.ntmps9
    go_wp2
    go_ret2
    exact ⟨rfl, rfl⟩
  · have R : Hid (∀ (e : Ending) (w' : World), (∃ v, e = .returned (.tuple #[v, .int .i64 0]) ∧ OwnL w.heap.size v (bdN f n) (bdF f n) w' ∧ Below w.heap.size w w') → ∃ v, e = .returned (.tuple #[v, .int .i64 (bbC n)]) ∧ PR 1 w.heap.size w'.heap.size w' v (bbN f n) (FL (bdF f n)) ∧ Below w.heap.size w w') := Lib.hid (fun e w' ⟨v, h1, h2, h3⟩ => by
      have hc : bbC n = 0 := if_neg hn
      have hN : bbN f n = bdN f n := if_neg hn
      exact ⟨v, by rw [h1, hc], by rw [hN]; exact h2.pr, h3⟩)
    refine Calls.mono ?_ R.out
    have hn' : (n : Int) ≤ 700 := by omega
    have HN : Hid (n ≤ 700) := Lib.hid (by omega)
    have HF := Lib.hid h
    have HY := Lib.hid hf
    have HK := Lib.hid hk
    have HE := Lib.hid hE
    obtain ⟨w1, hw1⟩ : ∃ w1, w.alloc (.cells #[.int .i64 0] 59) = w1 := ⟨_, rfl⟩
    have B1 : Hid (Below w.heap.size w w1) := Lib.hid (by rw [← hw1]; exact (Below.refl _ w).alloc (Nat.le_refl _) _)
    have C1 : Hid (w1.heap[w.heap.size]? = some (.cells #[.int .i64 0] 59 (0, 0))) := Lib.hid (by rw [← hw1]; exact World.alloc_heap_new w _)
    have O1 : Hid (OwnL (w.heap.size + 1) (.slice none 0 0) (bdN f 0) (bdF f n) w1) := Lib.hid (OwnL.nil _ _ _)
    clear h hn R hf hk hE
    go_enter Tryd.func9, Tryd.ntmps9
    go_wp2_with fail
    clear hw1
    go_loopw [4, 6, 7, 8] (fun d i _ _ wr => ∃ m : Nat, m ≤ n ∧ i = .int .i64 (m : Int) ∧ OwnL (w.heap.size + 1) d (bdN f m) (bdF f n) wr ∧ (∃ x : Int, wr.cell? ⟨w.heap.size, 0, none⟩ = some (.int .i64 x)) ∧ wr.frozen? ⟨w.heap.size, 0, none⟩ = false ∧ Below w.heap.size w wr) (fun _ i _ _ _ => n + 1 - (intOf i).toNat)
    case atStart => exact ⟨0, Nat.zero_le _, rfl, O1.out, ⟨0, Lib.cell_of_heap C1.out 0⟩, Lib.frozen_of_heap C1.out 0, B1.out⟩
    case round =>
      obtain ⟨m, hm, rfl, ho, ⟨x, hx⟩, hfz, hb⟩ := hrel
      have HO := Lib.hid ho
      have HB := Lib.hid hb
      have HX := Lib.hid hx
      have HZ := Lib.hid hfz
      have HM := Lib.hid hm
      have ZS : Hid (w.heap.size < wr.heap.size) := Lib.hid (by
        rcases Nat.lt_or_ge w.heap.size wr.heap.size with h | h
        · exact h
        · simp [World.cell?, Array.getElem?_eq_none h] at hx)
      have hsl := fun W => slice_fromF a n cap m hm (by have := HN.out; omega) W
      have OP := Lib.hid (open_any (saF a m cap) (n - m) (cap - m) (fun j => f (m * 16 + j)) (m : Int) wr (by omega) (by have := HN.out; omega) (fun j hj => HY.out _ (by omega)) ((HF.out.below HB.out HB.out.size).from HK.out.1 hm))
      clear ho hb hx hfz hm O1 B1 C1
      go_wp2_with fail
      refine OP.out.mono ?_
      clear OP
      rintro e w2 (⟨v2, rfl, hall, -, hb⟩ | ⟨k, hkl, hall, hbad, rfl, hb⟩)
      · have BN : Hid (bdN f n = bdN f m) := Lib.hid (by
          have := bdN_run (f := f) (m := m) (n - m) fun j hj => by rw [← okAt_shift]; exact hall j hj
          rwa [show m + (n - m) = n by have := HM.out; omega] at this)
        have O2 : Hid (OwnL (w.heap.size + 1) _ (bdN f m) (bdF f n) w2) := Lib.hid (ownsRow_belowB HO.out hb)
        have B2 : Hid (Below w.heap.size w w2) := Lib.hid (HB.out.trans (hb.mono HB.out.size))
        clear hall hb
        go_wp2_with fail
        refine (as_nil _ _).mono ?_
        rintro e w' ⟨rfl, rfl⟩
        go_wp2
        go_ret2
        exact ⟨_, rfl, by rw [BN.out]; exact OwnL.base (Nat.le_succ _) O2.out, B2.out⟩
      · have BA : Hid (bdN f (m + k) = bdN f m) := Lib.hid (bdN_run k fun j hj => by rw [← okAt_shift]; exact hall j hj)
        have NO : okAt f 0 (m + k) = false := by rw [← okAt_shift]; exact hbad
        have BN : Hid (bdN f (m + k + 1) = bdN f m + 1) := Lib.hid (by rw [bdN_no NO]; rw [BA.out])
        have BF : Hid (bdF f n (bdN f m) = (m : Int) + (k : Int)) := Lib.hid (by rw [← BA.out, bdF_at NO (by omega)]; push_cast; rfl)
        have KM : Hid (m + k < n) := Lib.hid (by omega)
        have BL : Hid (bdN f m ≤ 700) := Lib.hid (by have := bdN_le f m; have := HM.out; have := HN.out; omega)
        have O2 : Hid (OwnL (w.heap.size + 1) _ (bdN f m) (bdF f n) w2) := Lib.hid (ownsRow_belowB HO.out hb)
        have B2 : Hid (Below w.heap.size w w2) := Lib.hid (HB.out.trans (hb.mono HB.out.size))
        have X2 : Hid (w2.cell? ⟨w.heap.size, 0, none⟩ = some (.int .i64 x)) := Lib.hid ((hb.cell (p := ⟨w.heap.size, 0, none⟩) ZS.out).trans HX.out)
        have F2 : Hid (w2.frozen? ⟨w.heap.size, 0, none⟩ = false) := Lib.hid (by
          have e := hb.block w.heap.size ZS.out
          have := HZ.out
          unfold World.frozen? at this ⊢
          simp only at this ⊢
          rw [e]; exact this)
        have E2 : Hid (ErrT w2) := Lib.hid (HE.out.below B2.out HE.out.pos)
        have Z2 : Hid (w.heap.size < w2.heap.size) := Lib.hid (Nat.lt_of_lt_of_le ZS.out hb.size)
        clear hall hb hbad NO BA hkl
        obtain ⟨P, hP⟩ : ∃ P, (m : Int) + (k : Int) = P := ⟨_, rfl⟩
        have EP := Lib.hid hP
        rw [hP] at BF ⊢
        have PI : 0 ≤ P ∧ P ≤ 700 := by have := KM.out; have := HN.out; omega
        clear hP
        go_wp2_with fail
        refine (as_hit2 w.heap.size P (.int .i64 x) w2 E2.out X2.out F2.out).mono ?_
        rintro e w3 ⟨rfl, hx3, hz3, hb3, hk3⟩
        have B3 : Hid (Below w.heap.size w w3) := Lib.hid (B2.out.trans hb3)
        have O3 : Hid (OwnL (w.heap.size + 1) _ (bdN f m) (bdF f n) w3) := Lib.hid (ownL_at O2.out fun k h1 h2 => hk3 k h1 (by omega))
        have X3 := Lib.hid hx3
        have F3 := Lib.hid hz3
        have Z3 : Hid (w.heap.size + 1 ≤ w3.heap.size) := Lib.hid (Nat.lt_of_lt_of_le Z2.out hb3.size)
        clear hz3 hb3 hk3 O2 B2 X2 F2 E2 Z2
        have x3 := X3.out
        have A3 : Hid (Below w.heap.size w (w3.alloc (.cells #[.int .i64 P] 2))) := Lib.hid (B3.out.alloc (by have := Z3.out; omega) _)
        clear hx3
        go_wp2_with (at_builtin; refine wpList_append_l rfl _ _ rfl (w.heap.size + 1) _ (bdN f m) (bdF f n) rfl (O3.out.alloc _) w3.heap.size 1 P rfl ((World.cell?_alloc_new _ _ _ _).trans rfl) BF.out (by have := BL.out; omega) (by have := Z3.out; rw [World.size_alloc]; omega) (w3.alloc (.cells #[.int .i64 P] 2)) (Below.refl _ _) ?_; intro v' w' h1 h2 h3; have H1 := Lib.hid h1; have H2 := Lib.hid h2; have c' : w'.cell? ⟨w.heap.size, 0, none⟩ = some (.int .i64 P) := (h2.cell (p := ⟨w.heap.size, 0, none⟩) (Nat.lt_succ_self _)).trans ((((Below.refl _ w3).alloc (Nat.le_refl _) _).cell (p := ⟨w.heap.size, 0, none⟩) (by have := Z3.out; show w.heap.size < _; omega)).trans X3.out); have f' : w'.frozen? ⟨w.heap.size, 0, none⟩ = false := (frozen_block (h2.block w.heap.size (Nat.lt_succ_self _))).trans ((frozen_block (((Below.refl _ w3).alloc (Nat.le_refl _) _).block w.heap.size (by have := Z3.out; omega))).trans F3.out); have C' := Lib.hid c'; have F' := Lib.hid f'; clear h1 h2 h3 f')
        go_roundw
        case rel => exact ⟨m + k + 1, by have := KM.out; omega, by have := EP.out; have := KM.out; have := HN.out; rw [← EP.out]; push_cast; rfl, by rw [BN.out]; exact H1.out, ⟨P, C'.out⟩, F'.out, A3.out.trans (H2.out.mono (Nat.le_succ _))⟩
        case measure => have := KM.out; have := EP.out; simp [intOf]; omega
end Go.Proofs.YtligafgbknlofaaDoor
