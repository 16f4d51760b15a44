/-
  ReadPoint: the program's reading of two texts.
-/
import Derived.Test.YtanepboepeijoaaDoorCut
import Derived.Test.YtanepboepeijoaaDoorWExactReadReal
namespace Go.Proofs.YtanepboepeijoaaDoor
open Go.ChangeShapes Go.WideShapes Go.ChangeAt Go.RowKit
open Fl
/-- the library's variables that are read hold what they should -/
structure Amb (w : World) : Prop where
  err : ErrCell w
  errlt : 2 < w.heap.size
  tab : Tab4 w
  tablt : 6 < w.heap.size
theorem Amb.below {w w' : World} (h : Amb w) (hb : Below w.heap.size w w') : Amb w' :=
  ⟨h.err.below hb h.errlt, Nat.lt_of_lt_of_le h.errlt hb.size, h.tab.below hb h.tablt, Nat.lt_of_lt_of_le h.tablt hb.size⟩
/-- the word that is read of a text -/
noncomputable def readE (t : ByteArray) : Option Nat := by classical exact if t = nanT then some 2143289344 else readT t
theorem implReadE (t : ByteArray) (hm : t.size ≤ 1048576) (w : World) (h : Amb w) :
    Calls Tryd.prog 10 #[.string t] w fun e w' => e = .returned (outR (readE t)) ∧ Below w.heap.size w w' := by
  unfold readE
  by_cases hn : t = nanT
  · rw [if_pos hn, hn]; exact implRead_nan w
  · rw [if_neg hn]; exact implRead t hn hm w h.err h.errlt h.tab h.tablt
theorem readE_empty : readE ⟨#[]⟩ = none := by
  unfold readE
  rw [if_neg (by intro h; cases h)]
  rfl
noncomputable def pointW (t : ByteArray) : Option (Nat × Nat) := match Lib.indexByte t.data.toList 32 with
  | .ofNat i => match readE (t.extract 0 i), readE (t.extract (i + 1) t.size) with
    | some a, some b => some (a, b)
    | _, _ => none
  | .negSucc _ => none
def outP : Option (Nat × Nat) → Value
  | some (a, b) => .tuple #[.complex .f32 a b, .int .i64 0]
  | none => .tuple #[.complex .f32 0 0, .int .i64 5]
theorem size_ex (t : ByteArray) (a b : Nat) (hm : t.size ≤ 1048576) : (t.extract a b).size ≤ 1048576 := by
  rw [ByteArray.size_extract]; omega
theorem implPoint (t : ByteArray) (hm : t.size ≤ 1048576) (w : World) (h : Amb w) :
    Calls Tryd.prog 13 #[.string t] w fun e w' => e = .returned (outP (pointW t)) ∧ Below w.heap.size w w' := by
  have hc := cutOut t hm w
  have HA := Lib.hid h
  clear h
  unfold pointW
  unfold cutV at hc
  cases hi : Lib.indexByte t.data.toList 32 with
  | negSucc n =>
    rw [hi] at hc
    have HC := Lib.hid hc
    have HR := Lib.hid (implReadE t hm)
    have HE := Lib.hid (fun w h => readE_empty ▸ implReadE ⟨#[]⟩ (by decide) w h)
    clear hc hi
    generalize readE t = r at HR
    cases r with
    | none =>
      go_enter Tryd.func13, Tryd.ntmps13
      go_wp2_with fail
      refine HC.out.mono ?_
      rintro e w1 ⟨rfl, b1⟩
      have B1 := Lib.hid b1
      clear b1
      go_wp2_with fail
      refine (HR.out w1 (HA.out.below B1.out)).mono ?_
      rintro e w2 ⟨rfl, b2⟩
      have B2 := Lib.hid (B1.out.trans (b2.mono B1.out.size))
      clear b2 B1
      simp only [outR]
      go_wp2
      go_ret2
      exact ⟨rfl, B2.out⟩
    | some v =>
      go_enter Tryd.func13, Tryd.ntmps13
      go_wp2_with fail
      refine HC.out.mono ?_
      rintro e w1 ⟨rfl, b1⟩
      have B1 := Lib.hid b1
      clear b1
      go_wp2_with fail
      refine (HR.out w1 (HA.out.below B1.out)).mono ?_
      rintro e w2 ⟨rfl, b2⟩
      have B2 := Lib.hid (B1.out.trans (b2.mono B1.out.size))
      clear b2 B1
      simp only [outR]
      go_wp2_with fail
      refine (HE.out w2 (HA.out.below B2.out)).mono ?_
      rintro e w3 ⟨rfl, b3⟩
      have B3 := Lib.hid (B2.out.trans (b3.mono B2.out.size))
      clear b3 B2
      simp only [outR]
      go_wp2
      go_ret2
      exact ⟨rfl, B3.out⟩
  | ofNat i =>
    rw [hi] at hc
    have HC := Lib.hid hc
    have HR := Lib.hid (implReadE (t.extract 0 i) (size_ex _ _ _ hm))
    have HE := Lib.hid (implReadE (t.extract (i + 1) t.size) (size_ex _ _ _ hm))
    clear hc hi
    simp only
    generalize readE (t.extract 0 i) = r at HR
    generalize readE (t.extract (i + 1) t.size) = s at HE
    cases r with
    | none =>
      go_enter Tryd.func13, Tryd.ntmps13
      go_wp2_with fail
      refine HC.out.mono ?_
      rintro e w1 ⟨rfl, b1⟩
      have B1 := Lib.hid b1
      clear b1
      go_wp2_with fail
      refine (HR.out w1 (HA.out.below B1.out)).mono ?_
      rintro e w2 ⟨rfl, b2⟩
      have B2 := Lib.hid (B1.out.trans (b2.mono B1.out.size))
      clear b2 B1
      simp only [outR]
      go_wp2
      go_ret2
      exact ⟨rfl, B2.out⟩
    | some v =>
      cases s with
      | none =>
        go_enter Tryd.func13, Tryd.ntmps13
        go_wp2_with fail
        refine HC.out.mono ?_
        rintro e w1 ⟨rfl, b1⟩
        have B1 := Lib.hid b1
        clear b1
        go_wp2_with fail
        refine (HR.out w1 (HA.out.below B1.out)).mono ?_
        rintro e w2 ⟨rfl, b2⟩
        have B2 := Lib.hid (B1.out.trans (b2.mono B1.out.size))
        clear b2 B1
        simp only [outR]
        go_wp2_with fail
        refine (HE.out w2 (HA.out.below B2.out)).mono ?_
        rintro e w3 ⟨rfl, b3⟩
        have B3 := Lib.hid (B2.out.trans (b3.mono B2.out.size))
        clear b3 B2
        simp only [outR]
        go_wp2
        go_ret2
        exact ⟨rfl, B3.out⟩
      | some u =>
        go_enter Tryd.func13, Tryd.ntmps13
        go_wp2_with fail
        refine HC.out.mono ?_
        rintro e w1 ⟨rfl, b1⟩
        have B1 := Lib.hid b1
        clear b1
        go_wp2_with fail
        refine (HR.out w1 (HA.out.below B1.out)).mono ?_
        rintro e w2 ⟨rfl, b2⟩
        have B2 := Lib.hid (B1.out.trans (b2.mono B1.out.size))
        clear b2 B1
        simp only [outR]
        go_wp2_with fail
        refine (HE.out w2 (HA.out.below B2.out)).mono ?_
        rintro e w3 ⟨rfl, b3⟩
        have B3 := Lib.hid (B2.out.trans (b3.mono B2.out.size))
        clear b3 B2
        simp only [outR]
        go_wp2
        go_ret2
        exact ⟨rfl, B3.out⟩
end Go.Proofs.YtanepboepeijoaaDoor
