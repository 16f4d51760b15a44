/-
  FnExactSignOfDot, walked.
-/
import Derived.Test.YtgjejolfkfpobaaSgi
import Derived.Test.YtgjejolfkfpobaaWorlds
import Derived.Test.YtgjejolfkfpobaaOpen
namespace Go.Proofs.Ytgjejolfkfpobaa
open Go.ChangeShapes Go.WideShapes Go.ChangeAt Go.RowKit Go.Deep
open Fl
theorem num_of_made {w w0 w' : World} {a : Option Addr} {bs : List Nat} {len : Nat} (hf : FRow w0 a len bs) (h : Made w w' bs len) : NumRow w' w.heap.size len bs :=
  ⟨by rw [h.size]; omega, hf.2.1, h.cell⟩
theorem fnExactSignOfDot_walk (a : Option Addr) (len cap : Nat) (bs : List Nat) (a2 : Option Addr) (len2 cap2 : Nat) (cs : List Nat) (w : World) (h : FRow w a len bs) (h2 : FRow w a2 len2 cs) :
    Calls Try.prog 5 #[.slice a len cap, .slice a2 len2 cap2] w fun e w' => e = .returned (.bool true) ∧ Below w.heap.size w w' := by
  by_cases hl : len ≤ 1048576
  · have hl' : decide ((1048576 : Int) < len) = false := by simp; omega
    by_cases hl2 : len2 ≤ 1048576
    · have hl2' : decide ((1048576 : Int) < len2) = false := by simp; omega
      have HL := Lib.hid hl
      have HL2 := Lib.hid hl2
      have HF := Lib.hid h
      have HF2 := Lib.hid h2
      clear h hl h2 hl2
      go_enter Try.func5, Try.ntmps5
      go_wp2_with fail
      refine (toF_made _ _ _ _ _ HF.out HL.out).mono ?_
      rintro e w1 ⟨rfl, m1⟩
      have M1 := Lib.hid m1; clear m1
      have b1 : Hid (Below w.heap.size w w1) := Lib.hid (M1.out.below (Nat.le_refl _))
      go_wp2_with fail
      refine (toF_made _ _ _ _ _ (HF2.out.later b1.out) HL2.out).mono ?_
      rintro e w2 ⟨rfl, m2⟩
      have M2 := Lib.hid m2; clear m2
      have b2 : Hid (Below w.heap.size w w2) := Lib.hid (b1.out.trans (M2.out.below b1.out.size))
      have N1 : Hid (NumRow w2 w.heap.size len bs) := Lib.hid ((num_of_made (HF.out) M1.out).below (M2.out.below (Nat.le_refl _)) (by rw [M1.out.size]; omega))
      have N2 : Hid (NumRow w2 w1.heap.size len2 cs) := Lib.hid (num_of_made (HF2.out.later b1.out) M2.out)
      go_wp2_with fail
      refine (specSg_any _ _ _ _ bs cs _ HL.out HL2.out N1.out N2.out).mono ?_
      rintro e w3 ⟨rfl, d1⟩
      have b3 : Hid (Below w.heap.size w w3) := Lib.hid (b2.out.trans (d1.mono b2.out.size))
      clear d1
      go_wp2_with fail
      refine (toF_made _ _ _ _ _ (HF.out.later b3.out) HL.out).mono ?_
      rintro e w4 ⟨rfl, m4⟩
      have M4 := Lib.hid m4; clear m4
      have b4 : Hid (Below w.heap.size w w4) := Lib.hid (b3.out.trans (M4.out.below b3.out.size))
      go_wp2_with fail
      refine (toF_made _ _ _ _ _ (HF2.out.later b4.out) HL2.out).mono ?_
      rintro e w5 ⟨rfl, m5⟩
      have M5 := Lib.hid m5; clear m5
      have b5 : Hid (Below w.heap.size w w5) := Lib.hid (b4.out.trans (M5.out.below b4.out.size))
      have N3 : Hid (NumRow w5 w3.heap.size len bs) := Lib.hid ((num_of_made (HF.out.later b3.out) M4.out).below (M5.out.below (Nat.le_refl _)) (by rw [M4.out.size]; omega))
      have N4 : Hid (NumRow w5 w4.heap.size len2 cs) := Lib.hid (num_of_made (HF2.out.later b4.out) M5.out)
      go_wp2_with fail
      refine (implSg_any _ _ _ _ bs cs _ HL.out HL2.out N3.out N4.out).mono ?_
      rintro e w6 ⟨rfl, d2⟩
      have D2 := Lib.hid d2; clear d2
      have b6 : Hid (Below w.heap.size w w6) := Lib.hid (b5.out.trans (D2.out.mono b5.out.size))
      go_wp2_with fail
      refine (toF_made _ _ _ _ _ (HF.out.later b6.out) HL.out).mono ?_
      rintro e w8 ⟨rfl, m8⟩
      have M8 := Lib.hid m8; clear m8
      have b8 : Hid (Below w.heap.size w w8) := Lib.hid (b6.out.trans (M8.out.below b6.out.size))
      have N5 : Hid (NumRow w8 w3.heap.size len bs) := Lib.hid ((N3.out.below D2.out N3.out.1).below (M8.out.below (Nat.le_refl _)) (Nat.lt_of_lt_of_le N3.out.1 D2.out.size))
      go_wp2_with fail
      refine (eqF_drew _ _ _ bs _ HL.out N5.out.2.2 M8.out.cell).mono ?_
      rintro e w9 ⟨rfl, d9⟩
      have b9 : Hid (Below w.heap.size w w9) := Lib.hid (b8.out.trans d9.below)
      have D9 : Hid (Below w6.heap.size w6 w9) := Lib.hid ((M8.out.below (Nat.le_refl _)).trans d9.below)
      clear d9
      go_wp2_with fail
      refine (toF_made _ _ _ _ _ (HF2.out.later b9.out) HL2.out).mono ?_
      rintro e w10 ⟨rfl, m10⟩
      have M10 := Lib.hid m10; clear m10
      have b10 : Hid (Below w.heap.size w w10) := Lib.hid (b9.out.trans (M10.out.below b9.out.size))
      have D10 : Hid (Below w6.heap.size w6 w10) := Lib.hid (D9.out.trans (M10.out.below D9.out.size))
      have N6 : Hid (NumRow w10 w4.heap.size len2 cs) := Lib.hid ((N4.out.below D2.out N4.out.1).below D10.out (Nat.lt_of_lt_of_le N4.out.1 D2.out.size))
      go_wp2_with fail
      refine (eqF_drew _ _ _ cs _ HL2.out N6.out.2.2 M10.out.cell).mono ?_
      rintro e w11 ⟨rfl, d11⟩
      have b11 : Hid (Below w.heap.size w w11) := Lib.hid (b10.out.trans d11.below)
      clear d11
      go_wp2_with fail
      go_ret
      exact ⟨rfl, b11.out⟩
    · have hl2' : decide ((1048576 : Int) < len2) = true := by simp; omega
      clear h hl h2 hl2
      go_enter Try.func5, Try.ntmps5
      go_wp2
      go_ret
      exact ⟨rfl, Below.refl _ _⟩
  · have hl' : decide ((1048576 : Int) < len) = true := by simp; omega
    clear h hl h2
    go_enter Try.func5, Try.ntmps5
    go_wp2
    go_ret
    exact ⟨rfl, Below.refl _ _⟩
end Go.Proofs.Ytgjejolfkfpobaa
