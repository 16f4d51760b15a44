/-
  THE WALK of the law, whole: what the program's function and the specification's answer.
-/
import Derived.Test.YtdcphheeapmjcaaIap
namespace Go.Proofs.Ytdcphheeapmjcaa
open Go.ChangeShapes Go.WideShapes Go.ChangeAt Go.RowKit Go.Deep
open Wd
set_option maxRecDepth 20000 in
set_option maxHeartbeats 4000000 in
theorem applyImages_law (a0 : Option Addr) (cap0 : Nat) (L : List (List UInt8)) (hs : SLen L) (l : List UInt8) (hl : l.length ≤ maxLen) (w : World) (hr : SRow w.heap.size w a0 L) :
    Calls Try.prog 9 #[.slice a0 L.length cap0, .string (txt l)] w fun e w' => e = .returned (.bool true) ∧ Below w.heap.size w w' := by
  have R := Lib.hid hr
  have SZ := Lib.hid (sz_any a0 cap0 L hs w hr)
  have hz := txt_size l
  have hl' : (l.length : Int) ≤ 9223372036854775807 := by unfold maxLen at hl; omega
  clear hr hs hl
  by_cases hm : l.length ≤ 1048576
  · have hm' : (l.length : Int) ≤ 1048576 := by omega
    have t1 : decide ((1048576 : Int) < (l.length : Int)) = false := by simp; omega
    have HM := Lib.hid hm
    clear hm
    go_enter Try.func9, Try.ntmps9
    go_wp2_with fail
    refine SZ.out.mono ?_
    rintro e w' ⟨⟨z, rfl, hz, hf⟩, rfl⟩
    by_cases hn : z < 0
    · clear hf
      go_wp2
      go_ret
      exact ⟨rfl, Below.refl _ _⟩
    · have hF := Lib.hid (hf (by omega))
      clear hf
      have CP : Hid (∀ w', Below w.heap.size w w' → Calls Try.prog 28 #[.slice a0 L.length cap0] w' (CopyPost L w')) := Lib.hid fun w' b => copy_any a0 cap0 L hF.out.1 w' (R.out.later b)
      go_wp2_with fail
      refine (CP.out w (Below.refl _ _)).mono ?_
      rintro e w1 ⟨g1, rfl, hg1, hc1, b1⟩
      have R1 := Lib.hid (strC_row hc1)
      have B1 := Lib.hid b1
      clear hc1 b1
      have SV := Lib.hid (sapply_any (some ⟨g1, 0, none⟩) L.length L hF.out l (by have := HM.out; omega) w1 R1.out)
      have IV : Hid (∀ g w, SRow w.heap.size w (some ⟨g, 0, none⟩) L → Calls Try.prog 32 #[.slice (some ⟨g, 0, none⟩) L.length L.length, .string (txt l)] w (TextPost (apT L l) (apK L l) w)) := Lib.hid fun g w h => iapply_any (some ⟨g, 0, none⟩) L.length L hF.out l (by have := HM.out; omega) w h
      generalize apT L l = q at SV IV
      generalize apK L l = kk at SV IV
      go_wp2_with fail
      refine SV.out.mono ?_
      rintro e w2 ⟨rfl, b2⟩
      have B2 := Lib.hid (B1.out.trans (b2.mono B1.out.size))
      clear b2 SV R1
      go_wp2_with fail
      refine (CP.out w2 B2.out).mono ?_
      rintro e w3 ⟨g3, rfl, hg3, hc3, b3⟩
      have R3 := Lib.hid (strC_row hc3)
      have B3 := Lib.hid (B2.out.trans (b3.mono B2.out.size))
      clear hc3 b3
      have IW := Lib.hid (IV.out g3 w3 R3.out)
      go_wp2_with fail
      refine IW.out.mono ?_
      rintro e w4 ⟨rfl, b4⟩
      have R4 := Lib.hid (R3.out.later b4)
      have B4 := Lib.hid (B3.out.trans (b4.mono B3.out.size))
      clear b4 IV IW R3
      go_wp2_with fail
      refine (CP.out w4 B4.out).mono ?_
      rintro e w5 ⟨g5, rfl, hg5, hc5, b5⟩
      have EQ := Lib.hid (eqs_any (some ⟨g3, 0, none⟩) (some ⟨g5, 0, none⟩) L.length L.length L hF.out.1 w5 (R4.out.later b5) (strC_row hc5))
      have B5 := Lib.hid (B4.out.trans (b5.mono B4.out.size))
      clear b5 hc5
      go_wp2_with fail
      refine EQ.out.mono ?_
      rintro e w6 ⟨rfl, b6⟩
      have B6 := Lib.hid (B5.out.trans (b6.mono B5.out.size))
      clear b6
      go_wp2
      go_ret
      exact ⟨rfl, B6.out⟩
  · have t1 : decide ((1048576 : Int) < (l.length : Int)) = true := by simp; omega
    clear hm
    go_enter Try.func9, Try.ntmps9
    go_wp2
    go_ret
    exact ⟨rfl, Below.refl _ _⟩
theorem fnExactApplyImages_walk (a0 : Option Addr) (len0 cap0 : Nat) (a1 : ByteArray) (w : World) (h0 : ∃ L : List (List UInt8), L.length = len0 ∧ SRow w.heap.size w a0 L ∧ SLen L) (h1 : a1.size ≤ maxLen) :
    Calls Try.prog 9 #[.slice a0 len0 cap0, .string a1] w fun e w' => e = .returned (.bool true) ∧ Below w.heap.size w w' := by
  obtain ⟨L, rfl, hr, hs⟩ := h0
  have h := applyImages_law a0 cap0 L hs a1.data.toList (by simpa using h1) w hr
  rw [txt_list] at h
  exact h
end Go.Proofs.Ytdcphheeapmjcaa
