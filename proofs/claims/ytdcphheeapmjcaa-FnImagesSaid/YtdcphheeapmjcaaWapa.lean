/-
  CONTRACT: ApplyImages of the specification.
-/
import Derived.Test.YtdcphheeapmjcaaWap
import Derived.Test.YtdcphheeapmjcaaGa
namespace Go.Proofs.Ytdcphheeapmjcaa
open Go.ChangeShapes Go.WideShapes Go.ChangeAt Go.RowKit Go.Deep
open Wd
/-- the text and the code of ApplyImages -/
def apT (L : List (List UInt8)) (l : List UInt8) : List UInt8 := if imgB L = true ∧ wordB l = true then (if (red (apL L l)).length ≤ 40 then red (apL L l) else []) else []
def apK (L : List (List UInt8)) (l : List UInt8) : Int := if imgB L = true ∧ wordB l = true then (if (red (apL L l)).length ≤ 40 then 0 else 3) else 1
theorem apR_len {L : List (List UInt8)} (h : imgB L = true) {l : List UInt8} (hw : wordB l = true) : (red (apL L l)).length ≤ 1600 := by
  have h1 := red_length (apL L l)
  have h2 := apL_len h l (wordB_lets hw)
  have h3 := wordB_len hw
  omega
set_option maxHeartbeats 4000000 in
theorem sapply_any (a : Option Addr) (cap : Nat) (L : List (List UInt8)) (hL : SFew L) (l : List UInt8) (hm : l.length ≤ 4000000) (w : World) (h : SRow w.heap.size w a L) :
    Calls Try.prog 31 #[.slice a L.length cap, .string (txt l)] w (TextPost (apT L l) (apK L l) w) := by
  have HI := Lib.hid (simages_any a cap L hL w h)
  have HO := Lib.hid (fun w => ok_any l hm w)
  cases hb : imgB L
  · have e1 : apT L l = [] := by unfold apT; rw [hb, if_neg (by simp)]
    have e2 : apK L l = 1 := by unfold apK; rw [hb, if_neg (by simp)]
    rw [e1, e2]
    rw [hb] at HI
    clear e1 e2 hb h hL
    go_enter Try.func31, Try.ntmps31
    go_wp2_with (first | (go_at_call 66; refine HI.out.mono ?_; rintro e w' ⟨rfl, b⟩) | (go_at_call 58; refine (HO.out _).mono ?_; rintro e w' ⟨rfl, rfl⟩))
    go_ret2
    exact ⟨rfl, b⟩
  · cases hw : wordB l
    · have e1 : apT L l = [] := by unfold apT; rw [hw, if_neg (by simp)]
      have e2 : apK L l = 1 := by unfold apK; rw [hw, if_neg (by simp)]
      rw [e1, e2]
      rw [hb] at HI
      rw [hw] at HO
      clear e1 e2 hb hw h hL
      go_enter Try.func31, Try.ntmps31
      go_wp2_with (first | (go_at_call 66; refine HI.out.mono ?_; rintro e w' ⟨rfl, b⟩) | (go_at_call 58; refine (HO.out _).mono ?_; rintro e w' ⟨rfl, rfl⟩))
      go_ret2
      exact ⟨rfl, b⟩
    · have e1 : apT L l = if (red (apL L l)).length ≤ 40 then red (apL L l) else [] := by unfold apT; rw [if_pos ⟨hb, hw⟩]
      have e2 : apK L l = if (red (apL L l)).length ≤ 40 then 0 else 3 := by unfold apK; rw [if_pos ⟨hb, hw⟩]
      rw [e1, e2]
      have TD := Lib.hid (fun w => told_any (red (apL L l)) (by have := apR_len hb hw; omega) w)
      have AP := Lib.hid (fun w (h : SRow w.heap.size w a L) => apply_any a cap L hb l hw w h)
      have R := Lib.hid h
      rw [hb] at HI
      rw [hw] at HO
      generalize red (apL L l) = r at TD AP ⊢
      generalize (if r.length ≤ 40 then r else []) = r1 at TD ⊢
      generalize (if r.length ≤ 40 then (0 : Int) else 3) = r2 at TD ⊢
      clear e1 e2 hb hw h hL
      go_enter Try.func31, Try.ntmps31
      go_wp2_with (first | (go_at_call 66; refine HI.out.mono ?_; rintro e w' ⟨rfl, b⟩) | (go_at_call 58; refine (HO.out _).mono ?_; rintro e w' ⟨rfl, rfl⟩) | (go_at_call 69; refine (AP.out _ (R.out.later b)).mono ?_; rintro e w2 ⟨rfl, b2⟩) | (go_at_call 68; refine (TD.out _).mono ?_; rintro e w3 ⟨rfl, rfl⟩))
      go_ret2
      exact ⟨rfl, b.trans (b2.mono b.size)⟩
end Go.Proofs.Ytdcphheeapmjcaa
