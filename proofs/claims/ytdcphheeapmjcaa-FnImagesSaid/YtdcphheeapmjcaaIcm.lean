/-
  CONTRACT: ComposeImages of the program.
-/
import Derived.Test.YtdcphheeapmjcaaWco
import Derived.Test.YtdcphheeapmjcaaIap
import Derived.Test.YtdcphheeapmjcaaImv
namespace Go.Proofs.Ytdcphheeapmjcaa
open Go.ChangeShapes Go.WideShapes Go.ChangeAt Go.RowKit Go.Deep
open Wd
/-- v is nil, or a whole block of texts behind B -/
def BlkT (B : Nat) (v : Value) (R : List (List UInt8)) (w : World) : Prop := (v = .slice none 0 0 ∧ R = []) ∨ ∃ g, v = .slice (some ⟨g, 0, none⟩) R.length R.length ∧ B ≤ g ∧ w.heap[g]? = some (.cells (strC R R.length) 9 (0, 0))
def ImPost (R : List (List UInt8)) (C : Int) (w : World) (e : Ending) (w' : World) : Prop := ∃ v, e = .returned (.tuple #[v, .int .i64 C]) ∧ BlkT w.heap.size v R w' ∧ Below w.heap.size w w'
theorem icompose_no (a a1 : Option Addr) (cap cap1 : Nat) (F G : List (List UInt8)) (hF : SFew F) (hG : SFew G) (hn : ¬ (imgB F = true ∧ imgB G = true)) (w : World) (h : SRow w.heap.size w a F) (h1 : SRow w.heap.size w a1 G) :
    Calls Try.prog 34 #[.slice a F.length cap, .slice a1 G.length cap1] w (ImPost [] 1 w) := by
  have HI := Lib.hid (ivalidim_any a cap F hF w h)
  have HJ := Lib.hid (fun w' (b : Below w.heap.size w w') => ivalidim_any a1 cap1 G hG w' (h1.later b))
  clear h h1
  cases hb : imgB F
  · rw [hb] at HI
    clear hb hn HJ
    go_enter Try.func34, Try.ntmps34
    go_wp2_with fail
    refine HI.out.mono ?_
    rintro e w' ⟨rfl, b⟩
    go_wp2
    go_ret2
    exact ⟨_, rfl, .inl ⟨rfl, rfl⟩, b⟩
  · have hg : imgB G = false := by
      cases hg : imgB G
      · rfl
      · exact absurd ⟨hb, hg⟩ hn
    rw [hb] at HI
    rw [hg] at HJ
    clear hb hg hn
    go_enter Try.func34, Try.ntmps34
    go_wp2_with fail
    refine HI.out.mono ?_
    rintro e w' ⟨rfl, b⟩
    have HJ2 := Lib.hid (HJ.out _ b)
    clear HI HJ
    go_wp2_with fail
    refine HJ2.out.mono ?_
    rintro e w2 ⟨rfl, b2⟩
    go_wp2
    go_ret2
    exact ⟨_, rfl, .inl ⟨rfl, rfl⟩, b.trans (b2.mono b.size)⟩
set_option maxRecDepth 20000 in
set_option maxHeartbeats 4000000 in
theorem icompose_yes (a a1 : Option Addr) (cap cap1 : Nat) (F G : List (List UInt8)) (hF : SFew F) (hG : SFew G) (hbF : imgB F = true) (hbG : imgB G = true) (w : World) (h : SRow w.heap.size w a F) (h1 : SRow w.heap.size w a1 G) :
    Calls Try.prog 34 #[.slice a F.length cap, .slice a1 G.length cap1] w (ImPost (if cmF F G = true then cmT F G else []) (if cmF F G = true then 0 else 3) w) := by
  have HI := Lib.hid (ivalidim_any a cap F hF w h)
  have HJ := Lib.hid (fun w' (b : Below w.heap.size w w') => ivalidim_any a1 cap1 G hG w' (h1.later b))
  rw [hbF] at HI
  rw [hbG] at HJ
  have h4 := imgB_len hbF
  have R := Lib.hid h
  have hM : (cmT F G).length = 4 := by simp [cmT, h4]
  have AP : Hid (∀ k (hk : k < F.length) w', Below w.heap.size w w' → Calls Try.prog 32 #[.slice a1 G.length cap1, .string (txt F[k])] w' (TextPost (if (red (apL G F[k])).length ≤ 40 then red (apL G F[k]) else []) (if (red (apL G F[k])).length ≤ 40 then 0 else 3) w')) := Lib.hid fun k hk w' b => by
    have hw := redB_word (imgB_at hbF k hk)
    have := iapply_any a1 cap1 G hG F[k] (by have := wordB_len hw; omega) w' (h1.later b)
    have e1 : apT G F[k] = if (red (apL G F[k])).length ≤ 40 then red (apL G F[k]) else [] := by unfold apT; rw [if_pos ⟨hbG, hw⟩]
    have e2 : apK G F[k] = if (red (apL G F[k])).length ≤ 40 then 0 else 3 := by unfold apK; rw [if_pos ⟨hbG, hw⟩]
    rw [e1, e2] at this
    exact this
  have NO : Hid (∀ k (hk : k < F.length), ¬ (red (apL G F[k])).length ≤ 40 → (if cmF F G = true then cmT F G else []) = [] ∧ (if cmF F G = true then (0 : Int) else 3) = 3) := Lib.hid fun k hk hn => by
    rw [cmF_no hk hn]
    exact ⟨rfl, rfl⟩
  have YES : Hid ((∀ i (hi : i < F.length), (red (apL G F[i])).length ≤ 40) → (if cmF F G = true then cmT F G else []) = cmT F G ∧ (if cmF F G = true then (0 : Int) else 3) = 0) := Lib.hid fun ha => by
    rw [cmF_all ha, if_pos rfl, if_pos rfl]
    exact ⟨rfl, rfl⟩
  have ST : Hid (∀ k (hk : k < F.length), (strC (cmT F G) k).setIfInBounds k (.string (txt (red (apL G F[k])))) = strC (cmT F G) (k + 1)) := Lib.hid fun k hk => by
    have := strC_set (cmT F G) k (by rw [hM]; omega)
    simpa [cmT] using this
  have GT : Hid (∀ k, k < 4 → ∃ x, (strC (cmT F G) k)[k]? = some (.string x)) := Lib.hid fun k hk => ⟨_, strC_get _ _ _ (by rw [hM]; exact hk)⟩
  have hmk : ∀ w, (Instr.makeSlice 38 (.int .i64 4) (.int .i64 4)).run Try.prog w = .ok (.slice (some ⟨w.heap.size, 0, none⟩) 4 4) (w.alloc (.cells (strC (cmT F G) 0) 9)) := fun w => by
    have := make_strs (cmT F G) (by omega) w
    rw [hM] at this
    exact this
  generalize (if cmF F G = true then cmT F G else []) = rr at *
  generalize (if cmF F G = true then (0 : Int) else 3) = cc at *
  have HM := Lib.hid hM
  generalize cmT F G = M at *
  clear h h1 hF hG hbF hbG hM
  go_enter Try.func34, Try.ntmps34
  rw [h4]
  rw [h4] at HI
  go_wp2_with fail
  refine HI.out.mono ?_
  rintro e w' ⟨rfl, b⟩
  have HJ2 := Lib.hid (HJ.out _ b)
  have B := Lib.hid b
  clear HI HJ b
  go_wp2_with fail
  refine HJ2.out.mono ?_
  rintro e w2 ⟨rfl, b2⟩
  have B2 := Lib.hid (B.out.trans (b2.mono B.out.size))
  clear HJ2 b2
  go_wp2
  go_loopw [24] (fun i wr => ∃ k : Nat, k ≤ 4 ∧ i = .int .i64 (k : Int) ∧ wr.heap[w2.heap.size]? = some (.cells (strC M k) 9 (0, 0)) ∧ (∀ i (hi : i < F.length), i < k → (red (apL G F[i])).length ≤ 40) ∧ Below w.heap.size w wr) (fun i _ => 4 - (intOf i).toNat)
  case atStart => exact ⟨0, by omega, rfl, heap_alloc_new w2 _, fun i _ h => by omega, B2.out.alloc B2.out.size _⟩
  case round =>
    obtain ⟨k, hk, rfl, hg, hall, hB⟩ := hrel
    have HG := Lib.hid hg
    have ALL := Lib.hid hall
    have HB := Lib.hid hB
    clear hg hall hB hmk
    by_cases hlt : k < 4
    · have t2 : decide ((k : Int) < 4) = true := by simp; omega
      have hkF : k < F.length := by omega
      have hk3 : (k : Int) ≤ 3 := by omega
      obtain ⟨b, off, rfl, hb, hc⟩ := R.out.at hkF
      have c1 : wr.cell? ⟨b, off + k, none⟩ = some (.string (txt F[k])) := (HB.out.cell (p := ⟨b, off + k, none⟩) hb).trans hc
      have APK := Lib.hid (AP.out k hkF wr HB.out)
      have STK := Lib.hid (ST.out k hkF)
      obtain ⟨x0, hx0⟩ := GT.out k hlt
      have HX := Lib.hid hx0
      have HK := Lib.hid hlt
      have AL2 : Hid ((red (apL G F[k])).length ≤ 40 → ∀ i (hi : i < F.length), i < k + 1 → (red (apL G F[i])).length ≤ 40) := Lib.hid fun hl i hi hik => by
        by_cases e : i = k
        · subst e; exact hl
        · exact ALL.out i hi (by omega)
      have NOK := Lib.hid (NO.out k hkF)
      generalize hx : red (apL G F[k]) = x at *
      generalize F[k] = f at *
      clear hx hc hlt hk hkF hx0
      by_cases h40 : x.length ≤ 40
      · have AL3 := Lib.hid (AL2.out h40)
        rw [if_pos h40, if_pos h40] at APK
        clear h40 AL2 NOK
        go_wp2_with fail
        refine APK.out.mono ?_
        rintro e w3 ⟨rfl, b3⟩
        have B3 := Lib.hid (HB.out.trans (b3.mono HB.out.size))
        have G3 : w3.heap[w2.heap.size]? = some (.cells (strC M k) 9 (0, 0)) := (b3.block _ (Array.getElem?_eq_some_iff.1 HG.out).1).trans HG.out
        have G3H := Lib.hid G3
        have hgk : w3.cell? ⟨w2.heap.size, k, none⟩ = some (.string x0) := (Lib.cell_of_heap G3 k).trans HX.out
        have hfk : w3.frozen? ⟨w2.heap.size, k, none⟩ = false := Lib.frozen_of_heap G3 k
        clear b3 G3 APK c1
        go_wp2
        go_roundw
        case rel => exact ⟨k + 1, HK.out, by go_num, by rw [setAt G3H.out, STK.out], AL3.out, B3.out.setCell (p := ⟨w2.heap.size, _, none⟩) B2.out.size _⟩
        case measure => have := HK.out; simp [intOf]; omega
      · obtain ⟨n1, n2⟩ := NOK.out h40
        have N1 := Lib.hid n1
        have N2 := Lib.hid n2
        rw [if_neg h40, if_neg h40] at APK
        clear h40 AL2 NOK n1 n2
        go_wp2_with fail
        refine APK.out.mono ?_
        rintro e w3 ⟨rfl, b3⟩
        have B3 := Lib.hid (HB.out.trans (b3.mono HB.out.size))
        clear b3 APK c1
        go_wp2
        go_ret2
        exact ⟨_, by rw [N2.out]; rfl, .inl ⟨rfl, N1.out⟩, B3.out⟩
    · have hk4 : k = 4 := by omega
      subst hk4
      obtain ⟨y1, y2⟩ := YES.out (fun i hi => ALL.out i hi (by omega))
      have Y1 := Lib.hid y1
      have Y2 := Lib.hid y2
      clear hlt hk y1 y2
      go_wp2
      go_ret2
      exact ⟨_, by rw [Y2.out]; rfl, .inr ⟨w2.heap.size, by rw [Y1.out, HM.out]; rfl, B2.out.size, by rw [Y1.out, HM.out]; exact HG.out⟩, HB.out⟩
end Go.Proofs.Ytdcphheeapmjcaa
