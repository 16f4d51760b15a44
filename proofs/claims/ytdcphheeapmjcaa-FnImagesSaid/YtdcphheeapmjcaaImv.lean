/-
  CONTRACT: ValidImages of the program; the law FnExactValidImages.
-/
import Derived.Test.YtdcphheeapmjcaaImp
namespace Go.Proofs.Ytdcphheeapmjcaa
open Go.ChangeShapes Go.WideShapes Go.ChangeAt Go.RowKit Go.Deep
open Wd
theorem ivalidim_any (a : Option Addr) (cap : Nat) (L : List (List UInt8)) (hL : SFew L) (w : World) (h : SRow w.heap.size w a L) :
    Calls Try.prog 29 #[.slice a L.length cap] w fun e w' => e = .returned (.bool (imgB L)) ∧ Below w.heap.size w w' := by
  have HI := Lib.hid (ireadimg_any a cap L hL w h)
  clear h hL
  go_enter Try.func29, Try.ntmps29
  go_wp2_with fail
  refine HI.out.mono ?_
  rintro e w' ⟨⟨hb, v, rfl⟩ | ⟨hb, T, rfl, hT, hTab⟩, b⟩
  · have HB := Lib.hid hb
    have BB := Lib.hid b
    clear hb b
    go_wp2
    go_ret
    exact ⟨by rw [HB.out]; rfl, BB.out⟩
  · have HB := Lib.hid hb
    have BB := Lib.hid b
    clear hb hTab b
    go_wp2
    go_ret
    exact ⟨by rw [HB.out]; rfl, BB.out⟩
set_option maxRecDepth 20000 in
set_option maxHeartbeats 4000000 in
theorem fnExactValidImages_walk (a0 : Option Addr) (len0 cap0 : Nat) (w : World) (h0 : ∃ L : List (List UInt8), L.length = len0 ∧ SRow w.heap.size w a0 L ∧ SLen L) :
    Calls Try.prog 8 #[.slice a0 len0 cap0] w fun e w' => e = .returned (.bool true) ∧ Below w.heap.size w w' := by
  obtain ⟨L, rfl, hr, hs⟩ := h0
  have R := Lib.hid hr
  have SZ := Lib.hid (sz_any a0 cap0 L hs w hr)
  clear hr hs
  go_enter Try.func8, Try.ntmps8
  go_wp2_with fail
  refine SZ.out.mono ?_
  rintro e w' ⟨⟨z, rfl, hz, hf⟩, rfl⟩
  by_cases hn : z < 0
  · clear hf
    go_wp2
    go_ret
    exact ⟨rfl, Below.refl _ _⟩
  · have hF := Lib.hid (hf (by omega))
    clear hf
    have CP : Hid (∀ w', Below w.heap.size w w' → Calls Try.prog 28 #[.slice a0 L.length cap0] w' (CopyPost L w')) := Lib.hid fun w' b => copy_any a0 cap0 L hF.out.1 w' (R.out.later b)
    go_wp2_with fail
    refine (CP.out w (Below.refl _ _)).mono ?_
    rintro e w1 ⟨g1, rfl, hg1, hc1, b1⟩
    have R1 := Lib.hid (strC_row hc1)
    have B1 := Lib.hid b1
    clear hc1 b1
    have SV := Lib.hid (svalidim_any (some ⟨g1, 0, none⟩) L.length L hF.out w1 R1.out)
    go_wp2_with fail
    refine SV.out.mono ?_
    rintro e w2 ⟨rfl, b2⟩
    have B2 := Lib.hid (B1.out.trans (b2.mono B1.out.size))
    clear b2 SV R1
    go_wp2_with fail
    refine (CP.out w2 B2.out).mono ?_
    rintro e w3 ⟨g3, rfl, hg3, hc3, b3⟩
    have R3 := Lib.hid (strC_row hc3)
    have B3 := Lib.hid (B2.out.trans (b3.mono B2.out.size))
    clear hc3 b3
    have IV := Lib.hid (ivalidim_any (some ⟨g3, 0, none⟩) L.length L hF.out w3 R3.out)
    go_wp2_with fail
    refine IV.out.mono ?_
    rintro e w4 ⟨rfl, b4⟩
    have R4 := Lib.hid (R3.out.later b4)
    have B4 := Lib.hid (B3.out.trans (b4.mono B3.out.size))
    clear b4 IV R3
    generalize imgB L = q
    go_wp2_with fail
    refine (CP.out w4 B4.out).mono ?_
    rintro e w5 ⟨g5, rfl, hg5, hc5, b5⟩
    have EQ := Lib.hid (eqs_any (some ⟨g3, 0, none⟩) (some ⟨g5, 0, none⟩) L.length L.length L hF.out.1 w5 (R4.out.later b5) (strC_row hc5))
    have B5 := Lib.hid (B4.out.trans (b5.mono B4.out.size))
    clear b5 hc5
    go_wp2_with fail
    refine EQ.out.mono ?_
    rintro e w6 ⟨rfl, b6⟩
    have B6 := Lib.hid (B5.out.trans (b6.mono B5.out.size))
    clear b6
    go_wp2
    go_ret
    exact ⟨rfl, B6.out⟩
end Go.Proofs.Ytdcphheeapmjcaa
