/-
  CONTRACTS: readImages, ValidImages of the program.
-/
import Derived.Test.YtdcphheeapmjcaaIm
import Derived.Test.YtdcphheeapmjcaaIiw
import Derived.Test.YtdcphheeapmjcaaSrc
namespace Go.Proofs.Ytdcphheeapmjcaa
open Go.ChangeShapes Go.WideShapes Go.ChangeAt Go.RowKit Go.Deep
open Wd
/-- the image of a letter, by its number -/
def imgL (L : List (List UInt8)) (j : Nat) : List UInt8 := if j % 2 = 0 then L[j / 2]?.getD [] else inv (L[j / 2]?.getD [])
/-- a row of letters in a block behind T -/
def TRow (T : Nat) (W : World) (v : Value) (l : List UInt8) : Prop :=
  (v = .slice none 0 0 ∧ l = []) ∨ ∃ b off cap, v = .slice (some ⟨b, off, none⟩) l.length cap ∧ T < b ∧ b < W.heap.size ∧ ∀ j (hj : j < l.length), W.cell? ⟨b, off + j, none⟩ = some (.int .u8 (lnum (l[j]'hj)))
theorem OwnL.trow {base T : Nat} {v : Value} {l : List UInt8} {w : World} (h : OwnL base v l w) (hT : T < base) : TRow T w v l := by
  have h' := h
  obtain ⟨h1, h2⟩ := h
  rcases h2 with ⟨rfl, h0⟩ | ⟨g, cap, cur, rfl, hb, hg, hn2, hm, hs, ht⟩
  · exact .inl ⟨rfl, List.eq_nil_of_length_eq_zero h0⟩
  · refine .inr ⟨g, 0, cap, rfl, Nat.lt_of_lt_of_le hT hb, (Array.getElem?_eq_some_iff.1 hg).1, fun j hj => ?_⟩
    have := World.ownsRow.cells h' (g := g) rfl j _ (numC_at l j hj)
    rw [addr_off, Nat.zero_add] at this
    rw [Nat.zero_add]; exact this
theorem TRow.keep {T : Nat} {W W' : World} {v : Value} {l : List UInt8} (h : Only T W W') : TRow T W v l → TRow T W' v l
  | .inl e => .inl e
  | .inr ⟨b, off, cap, e, hT, hb, hc⟩ => .inr ⟨b, off, cap, e, hT, Nat.lt_of_lt_of_le hb h.size, fun j hj => h.cell (q := ⟨b, off + j, none⟩) (hc j hj) (Nat.ne_of_gt hT)⟩
theorem TRow.lrow {T : Nat} {W : World} {v : Value} {l : List UInt8} : TRow T W v l → LRow W.heap.size W v l
  | .inl e => .inl e
  | .inr ⟨b, off, cap, e, _, hb, hc⟩ => .inr ⟨b, off, cap, e, hb, hc⟩
/-- a table of images in block T, the first ones of which are laid -/
def TabAt (w : World) (T : Nat) (L : List (List UInt8)) (n : Nat) : Prop := ∃ A : Array Value, w.heap[T]? = some (.cells A 125 (0, 0)) ∧ A.size = 8 ∧ ∀ j, j < n → ∃ v, A[j]? = some v ∧ TRow T w v (imgL L j)
def RowAt (w : World) (T : Nat) : Prop := ∃ A : Array Value, w.heap[T]? = some (.cells A 125 (0, 0)) ∧ A.size = 8
/-- what lies in a cell -/
def cellOf (w : World) (p : Addr) : Value := (w.cell? p).getD undef
theorem RowAt.cell {w : World} {T x : Nat} (h : RowAt w T) (hx : x < 8) : w.cell? ⟨T, x, none⟩ = some (cellOf w ⟨T, x, none⟩) := by
  obtain ⟨A, h1, h2⟩ := h
  have e := Lib.cell_of_heap h1 x
  unfold cellOf
  rw [e, Array.getElem?_eq_getElem (by omega)]
  rfl
theorem RowAt.frozen {w : World} {T : Nat} (h : RowAt w T) (x : Nat) : w.frozen? ⟨T, x, none⟩ = false := by
  obtain ⟨A, h1, h2⟩ := h
  exact Lib.frozen_of_heap h1 x
theorem RowAt.later {w w' : World} {T : Nat} (h : RowAt w T) (hb : Below w.heap.size w w') : RowAt w' T := by
  obtain ⟨A, h1, h2⟩ := h
  exact ⟨A, (hb.block T (Array.getElem?_eq_some_iff.1 h1).1).trans h1, h2⟩
theorem RowAt.set {w : World} {T : Nat} (h : RowAt w T) (x : Nat) (v : Value) : RowAt (w.setCell ⟨T, x, none⟩ v) T := by
  obtain ⟨A, h1, h2⟩ := h
  exact ⟨_, setAt h1 x v, by simp [h2]⟩
theorem TabAt.keep {w w' : World} {T n : Nat} {L : List (List UInt8)} (h : TabAt w T L n) (hb : Below w.heap.size w w') : TabAt w' T L n := by
  obtain ⟨A, h1, h2, h3⟩ := h
  refine ⟨A, (hb.block T (Array.getElem?_eq_some_iff.1 h1).1).trans h1, h2, fun j hj => ?_⟩
  obtain ⟨v, e1, e2⟩ := h3 j hj
  exact ⟨v, e1, e2.keep ⟨hb.os, hb.tape, hb.output, hb.size, fun j hj _ => hb.block j hj⟩⟩
/-- two more images are laid -/
theorem TabAt.two {w w' : World} {T k : Nat} {L : List (List UInt8)} {A : Array Value} {v v' : Value} {l : List UInt8} (hA : w'.heap[T]? = some (.cells A 125 (0, 0))) (hs : A.size = 8) (hk : k < 4) (hAv : ∀ j, j < 2 * k → ∃ v, A[j]? = some v ∧ TRow T w v (imgL L j)) (hO : Only T w w') (hl : L[k]?.getD [] = l) (hv : TRow T w' v l) (hv' : TRow T w' v' (inv l)) :
    TabAt ((w'.setCell ⟨T, 2 * k, none⟩ v).setCell ⟨T, 2 * k + 1, none⟩ v') T L (2 * (k + 1)) := by
  have O2 : Only T w' ((w'.setCell ⟨T, 2 * k, none⟩ v).setCell ⟨T, 2 * k + 1, none⟩ v') := ((Only.refl T w').setCell v).setCell v'
  refine ⟨_, setAt (setAt hA _ _) _ _, by simp [hs], fun j hj => ?_⟩
  by_cases e1 : j = 2 * k + 1
  · subst e1
    refine ⟨v', by rw [Array.getElem?_setIfInBounds, if_pos rfl, if_pos (by rw [Array.size_setIfInBounds, hs]; omega)], hv'.keep O2 |> fun h => ?_⟩
    unfold imgL
    rw [if_neg (by omega), show (2 * k + 1) / 2 = k by omega, hl]
    exact h
  · by_cases e2 : j = 2 * k
    · subst e2
      refine ⟨v, by rw [Array.getElem?_setIfInBounds_ne (by omega), Array.getElem?_setIfInBounds, if_pos rfl, if_pos (by omega)], hv.keep O2 |> fun h => ?_⟩
      unfold imgL
      rw [if_pos (by omega), show (2 * k) / 2 = k by omega, hl]
      exact h
    · obtain ⟨x, h1, h2⟩ := hAv j (by omega)
      refine ⟨x, ?_, h2.keep (hO.trans O2)⟩
      rw [Array.getElem?_setIfInBounds_ne (by omega), Array.getElem?_setIfInBounds_ne (by omega)]
      exact h1
theorem Only.of_below' {p : Nat} {w w' : World} (h : Below w.heap.size w w') : Only p w w' := ⟨h.os, h.tape, h.output, h.size, fun j hj _ => h.block j hj⟩
set_option maxRecDepth 20000 in
set_option maxHeartbeats 4000000 in
theorem ireadimg_any (a : Option Addr) (cap : Nat) (L : List (List UInt8)) (hL : SFew L) (w : World) (h : SRow w.heap.size w a L) :
    Calls Try.prog 67 #[.slice a L.length cap] w fun e w' => ((imgB L = false ∧ ∃ v, e = .returned (.tuple #[v, .int .i64 1])) ∨ (imgB L = true ∧ ∃ T, e = .returned (.tuple #[.func (.func 99) #[] #[.pointer (some ⟨T, 0, none⟩)], .int .i64 0]) ∧ w.heap.size ≤ T ∧ TabAt w' T L 8)) ∧ Below w.heap.size w w' := by
  have H := Lib.hid h
  have HL := Lib.hid hL.2
  have hl' : (L.length : Int) ≤ 1048576 := by have := hL.1; omega
  have FN : Hid (∀ k (hk : k < L.length), redB L[k] = false → imgB L = false) := Lib.hid fun k hk hf => img_no hk hf
  have FY : Hid ((∀ i (hi : i < L.length), redB L[i] = true) → imgB L = decide (L.length = 4)) := Lib.hid img_all
  have F4 : Hid (L.length ≠ 4 → imgB L = false) := Lib.hid fun h => by unfold imgB; rw [decide_eq_false h]; rfl
  clear h hL
  by_cases h4 : L.length = 4
  · have h4' : (L.length : Int) = 4 := by omega
    have t0 : ((L.length : Int) == 4) = true := by rw [beq_iff_eq]; exact h4'
    go_enter Try.func67, Try.ntmps67
    rw [h4]
    go_wp2
    go_loopw [14] (fun i wr => ∃ k : Nat, k ≤ 4 ∧ i = .int .i64 (k : Int) ∧ TabAt wr w.heap.size L (2 * k) ∧ (∀ i (hi : i < L.length), i < k → redB L[i] = true) ∧ Below w.heap.size w wr) (fun i _ => 4 - (intOf i).toNat)
    case atStart => exact ⟨0, by omega, rfl, ⟨_, heap_alloc_new w _, rfl, fun j hj => by omega⟩, fun i _ h => by omega, (Below.refl _ w).alloc (Nat.le_refl _) _⟩
    case round =>
      obtain ⟨k, hk, rfl, htab, hall, hB⟩ := hrel
      have ALL := Lib.hid hall
      have HB := Lib.hid hB
      have HT := Lib.hid htab
      clear hall hB htab
      by_cases hlt : k < 4
      · have t2 : decide ((k : Int) < 4) = true := by simp; omega
        have hkL : k < L.length := by omega
        have hk3 : (k : Int) ≤ 3 := by omega
        obtain ⟨b, off, rfl, hb, hc⟩ := H.out.at hkL
        obtain ⟨l, hl⟩ : ∃ l, L[k]'hkL = l := ⟨_, rfl⟩
        have c1 : wr.cell? ⟨b, off + k, none⟩ = some (.string (txt l)) := by rw [← hl]; exact (HB.out.cell (p := ⟨b, off + k, none⟩) hb).trans hc
        have hlk : l.length ≤ 1048576 := by rw [← hl]; exact HL.out k hkL
        have HK := Lib.hid hlt
        have FK : Hid (redB l = false → imgB L = false) := Lib.hid fun h => FN.out k hkL (by rw [hl]; exact h)
        have NXT : Hid (redB l = true → ∀ i (hi : i < L.length), i < k + 1 → redB L[i] = true) := Lib.hid fun hr i hi hik => by
          by_cases e : i = k
          · subst e; rw [hl]; exact hr
          · exact ALL.out i hi (by omega)
        have HLK := Lib.hid hlk
        have LK : Hid (L[k]?.getD [] = l) := Lib.hid (by rw [List.getElem?_eq_getElem hkL, hl]; rfl)
        clear hc hl hkL hlk hk hlt
        cases hw : wordB l
        · have RN := Lib.hid (read_no l (by have := HLK.out; omega) hw)
          have hr : redB l = false := by unfold redB; rw [hw]; rfl
          have HF := Lib.hid (FK.out hr)
          clear FK NXT hr hw
          go_wp2_with fail
          refine (RN.out _).mono ?_
          rintro e w2 ⟨rfl, B2⟩
          have H2 : Hid (Below w.heap.size w w2) := Lib.hid (HB.out.trans (B2.mono HB.out.size))
          clear B2
          go_wp2
          go_ret2
          exact ⟨.inl ⟨HF.out, _, rfl⟩, H2.out⟩
        · have RY := Lib.hid (read_yes l hw)
          have WL := Lib.hid (wordB_lets hw)
          go_wp2_with fail
          refine (RY.out _).mono ?_
          rintro e w2 ⟨v, rfl, O, B2⟩
          have hR := O.row
          obtain ⟨a0, cap0, rfl⟩ := hR.len
          have RW := Lib.hid hR
          have RWT := Lib.hid (O.trow (T := w.heap.size) (Nat.lt_of_lt_of_le (Array.getElem?_eq_some_iff.1 HT.out.choose_spec.1).1 (Nat.le_refl _)))
          have H2 : Hid (Below w.heap.size w w2) := Lib.hid (HB.out.trans (B2.mono HB.out.size))
          have B2H := Lib.hid B2
          have IR := Lib.hid (lisred_any _ l WL.out (by have := HLK.out; omega) w2 hR)
          clear B2 O hR
          cases hr : decide (red l = l)
          · have HF := Lib.hid (FK.out (by unfold redB; rw [hw, hr]; rfl))
            rw [hr] at IR
            go_wp2_with fail
            refine IR.out.mono ?_
            rintro e w3 ⟨rfl, B3⟩
            have H3 : Hid (Below w.heap.size w w3) := Lib.hid (H2.out.trans (B3.mono H2.out.size))
            clear B3
            go_wp2
            go_ret2
            exact ⟨.inl ⟨HF.out, _, rfl⟩, H3.out⟩
          · have NX := Lib.hid (NXT.out (by unfold redB; rw [hw, hr]; rfl))
            rw [hr] at IR
            clear FK NXT hr hw
            go_wp2_with fail
            refine IR.out.mono ?_
            rintro e w3 ⟨rfl, B3⟩
            go_wp2
            obtain ⟨A, hA, hA8, hAv⟩ := HT.out
            have hlt3 : w.heap.size < w3.heap.size := Nat.lt_of_lt_of_le (Array.getElem?_eq_some_iff.1 hA).1 (Nat.le_trans B2H.out.size B3.size)
            have hA3 : w3.heap[w.heap.size]? = some (.cells A 125 (0, 0)) := (B3.block _ (Nat.lt_of_lt_of_le (Array.getElem?_eq_some_iff.1 hA).1 B2H.out.size)).trans ((B2H.out.block _ (Array.getElem?_eq_some_iff.1 hA).1).trans hA)
            have LI : Hid (∀ w', Below w3.heap.size w3 w' → Calls Try.prog 76 #[.slice a0 l.length cap0] w' (LetPost (inv l) w')) := Lib.hid fun w' hb => linv_any _ l WL.out (by have := HLK.out; omega) w' (((RW.out.below B3).up B3.size).below hb |>.up hb.size)
            obtain ⟨x0, hx0⟩ : ∃ x, A[2 * k]? = some x := ⟨_, Array.getElem?_eq_getElem (by have := HK.out; omega)⟩
            obtain ⟨x1, hx1⟩ : ∃ x, A[2 * k + 1]? = some x := ⟨_, Array.getElem?_eq_getElem (by have := HK.out; omega)⟩
            have hk8 : 2 * k + 1 < 8 := by have := HK.out; omega
            have KA : ∀ w', Only w.heap.size w3 w' → RowAt w' w.heap.size → Only w.heap.size w3 w' ∧ RowAt w' w.heap.size ∧ w'.cell? ⟨w.heap.size, 2 * k, none⟩ = some (cellOf w' ⟨w.heap.size, 2 * k, none⟩) ∧ w'.frozen? ⟨w.heap.size, 2 * k, none⟩ = false ∧ w'.cell? ⟨w.heap.size, 2 * k + 1, none⟩ = some (cellOf w' ⟨w.heap.size, 2 * k + 1, none⟩) ∧ w'.frozen? ⟨w.heap.size, 2 * k + 1, none⟩ = false := fun w' h1 h2 => ⟨h1, h2, h2.cell (by omega), h2.frozen _, h2.cell (by omega), h2.frozen _⟩
            have KAc : ∀ W W', Only w.heap.size w3 W → RowAt W w.heap.size → Below W.heap.size W W' → (fun w' => Only w.heap.size w3 w' ∧ RowAt w' w.heap.size ∧ w'.cell? ⟨w.heap.size, 2 * k, none⟩ = some (cellOf w' ⟨w.heap.size, 2 * k, none⟩) ∧ w'.frozen? ⟨w.heap.size, 2 * k, none⟩ = false ∧ w'.cell? ⟨w.heap.size, 2 * k + 1, none⟩ = some (cellOf w' ⟨w.heap.size, 2 * k + 1, none⟩) ∧ w'.frozen? ⟨w.heap.size, 2 * k + 1, none⟩ = false) W' := fun W W' h1 h2 h3 => KA W' (h1.trans (Only.of_below' h3)) (h2.later h3)
            have KAs : ∀ W x v, Only w.heap.size w3 W → RowAt W w.heap.size → (fun w' => Only w.heap.size w3 w' ∧ RowAt w' w.heap.size ∧ w'.cell? ⟨w.heap.size, 2 * k, none⟩ = some (cellOf w' ⟨w.heap.size, 2 * k, none⟩) ∧ w'.frozen? ⟨w.heap.size, 2 * k, none⟩ = false ∧ w'.cell? ⟨w.heap.size, 2 * k + 1, none⟩ = some (cellOf w' ⟨w.heap.size, 2 * k + 1, none⟩) ∧ w'.frozen? ⟨w.heap.size, 2 * k + 1, none⟩ = false) (W.setCell ⟨w.heap.size, x, none⟩ v) := fun W x v h1 h2 => KA _ (h1.setCell v) (h2.set x v)
            have KAt : ∀ W x v, (Only w.heap.size w3 W ∧ RowAt W w.heap.size ∧ W.cell? ⟨w.heap.size, 2 * k, none⟩ = some (cellOf W ⟨w.heap.size, 2 * k, none⟩) ∧ W.frozen? ⟨w.heap.size, 2 * k, none⟩ = false ∧ W.cell? ⟨w.heap.size, 2 * k + 1, none⟩ = some (cellOf W ⟨w.heap.size, 2 * k + 1, none⟩) ∧ W.frozen? ⟨w.heap.size, 2 * k + 1, none⟩ = false) → (Only w.heap.size w3 (W.setCell ⟨w.heap.size, x, none⟩ v) ∧ RowAt (W.setCell ⟨w.heap.size, x, none⟩ v) w.heap.size ∧ (W.setCell ⟨w.heap.size, x, none⟩ v).cell? ⟨w.heap.size, 2 * k, none⟩ = some (cellOf (W.setCell ⟨w.heap.size, x, none⟩ v) ⟨w.heap.size, 2 * k, none⟩) ∧ (W.setCell ⟨w.heap.size, x, none⟩ v).frozen? ⟨w.heap.size, 2 * k, none⟩ = false ∧ (W.setCell ⟨w.heap.size, x, none⟩ v).cell? ⟨w.heap.size, 2 * k + 1, none⟩ = some (cellOf (W.setCell ⟨w.heap.size, x, none⟩ v) ⟨w.heap.size, 2 * k + 1, none⟩) ∧ (W.setCell ⟨w.heap.size, x, none⟩ v).frozen? ⟨w.heap.size, 2 * k + 1, none⟩ = false) := fun W x v h => KAs W x v h.1 h.2.1
            have KR : RowAt w3 w.heap.size := ⟨A, hA3, hA8⟩
            have p1 : (0 : Int) ≤ 2 * (k : Int) := by omega
            have p2 : 2 * (k : Int) < 8 := by omega
            have p3 : (0 : Int) ≤ 2 * (k : Int) + 1 := by omega
            have p4 : 2 * (k : Int) + 1 < 8 := by omega
            have p5 : (2 * (k : Int)).toNat = 2 * k := by omega
            have p6 : (2 * (k : Int) + 1).toNat = 2 * k + 1 := by omega
            have p7 : IntKind.i64.wrap (2 * (k : Int)) = 2 * (k : Int) := by rw [IntKind.wrap_i64]; omega
            have p8 : IntKind.i64.wrap (2 * (k : Int) + 1) = 2 * (k : Int) + 1 := by rw [IntKind.wrap_i64]; omega
            go_region_held3 (fun w' => Only w.heap.size w3 w' ∧ RowAt w' w.heap.size ∧ w'.cell? ⟨w.heap.size, 2 * k, none⟩ = some (cellOf w' ⟨w.heap.size, 2 * k, none⟩) ∧ w'.frozen? ⟨w.heap.size, 2 * k, none⟩ = false ∧ w'.cell? ⟨w.heap.size, 2 * k + 1, none⟩ = some (cellOf w' ⟨w.heap.size, 2 * k + 1, none⟩) ∧ w'.frozen? ⟨w.heap.size, 2 * k + 1, none⟩ = false)
              (first | exact KA _ ((Only.refl _ _).drewN 1) KR | exact KAc w3.drew _ ((Only.refl _ _).drewN 1) KR (by assumption) | exact KAt _ _ _ (by assumption) | exact KAc _ _ (by assumption) (by assumption) (by assumption))
              (first | (go_at_call 76; refine (LI.out _ (Below.refl _ _).drew).mono ?_; rintro e w' ⟨v', rfl, hO, hb⟩; obtain ⟨a1, cap1, rfl⟩ := hO.row.len))
            rename_i hh
            have hlw' : w.heap.size < w'.heap.size := Nat.lt_of_lt_of_le hlt3 hb.size
            have hA' : w'.heap[w.heap.size]? = some (.cells A 125 (0, 0)) := (hb.block _ hlt3).trans hA3
            have ow : Only w.heap.size wr w' := ((Only.of_below' B2H.out).trans (Only.of_below' B3)).trans ((Only.refl _ _).drewN 1 |>.trans (Only.of_below' hb))
            have TA := Lib.hid (TabAt.two (v := .slice a0 l.length cap0) (v' := .slice a1 (inv l).length cap1) hA' hA8 HK.out hAv ow LK.out (RWT.out.keep ((Only.of_below' B3).trans ((Only.refl _ _).drewN 1 |>.trans (Only.of_below' hb)))) (hO.trow (by exact hlt3)))
            have BF := Lib.hid ((H2.out.trans (B3.mono H2.out.size)).trans (hh.1.below (Nat.le_refl _) (Nat.le_of_lt hlt3)))
            generalize (w'.setCell ⟨w.heap.size, 2 * k, none⟩ (.slice a0 l.length cap0)).setCell ⟨w.heap.size, 2 * k + 1, none⟩ (.slice a1 (inv l).length cap1) = WF at TA BF ⊢
            clear hh hO hA' ow hlw' KA KAc KAs KAt KR hA hA3 hAv hx0 hx1 LI hb IR RW B3 HT
            go_wp2
            exact ⟨⟨k + 1, HK.out, by congr 1, TA.out, NX.out, BF.out⟩, by have := HK.out; simp [intOf]; omega⟩
      · have hk4 : k = 4 := by omega
        subst hk4
        have R := Lib.hid (FY.out (fun i hi => ALL.out i hi (by omega)))
        clear hlt hk
        go_wp2
        go_ret2
        exact ⟨.inr ⟨by rw [R.out, h4]; rfl, _, rfl, Nat.le_refl _, HT.out⟩, HB.out⟩
  · have t0 : ((L.length : Int) == 4) = false := by rw [beq_eq_false_iff_ne]; omega
    have HF := Lib.hid (F4.out h4)
    go_enter Try.func67, Try.ntmps67
    go_wp2
    go_ret2
    exact ⟨.inl ⟨HF.out, _, rfl⟩, Below.refl _ w⟩
end Go.Proofs.Ytdcphheeapmjcaa
