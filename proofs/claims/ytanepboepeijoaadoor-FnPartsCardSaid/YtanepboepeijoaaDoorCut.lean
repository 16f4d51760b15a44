/-
  strings.Cut AT A BLANK.
-/
import Derived.Test.YtanepboepeijoaaDoorSpw
import Derived.Test.YtanepboepeijoaaDoorShd2
import Derived.Lib.IndexLaws
namespace Go.Proofs.YtanepboepeijoaaDoor
open Go.ChangeShapes Go.WideShapes Go.ChangeAt Go.RowKit
def cutV (t : ByteArray) : Value := match Lib.indexByte t.data.toList 32 with
  | .ofNat i => .tuple #[.string (t.extract 0 i), .string (t.extract (i + 1) t.size), .bool true]
  | .negSucc _ => .tuple #[.string t, .string ⟨#[]⟩, .bool false]
theorem cutIn (t : ByteArray) (hm : t.size ≤ 1048576) (w : World) :
    Calls Tryd.prog 62 #[.string t, .string ⟨#[32]⟩] w fun e w' => e = .returned (cutV t) ∧ Below w.heap.size w w' := by
  have hI := Lib.hid (fun w => Tryd.stringslite_Index_one t 32 w)
  unfold cutV
  cases hi : Lib.indexByte t.data.toList 32 with
  | ofNat i =>
    have hlt : i < t.size := by
      have h := (Lib.indexByte_some (o := i) hi).1
      obtain ⟨h1, _⟩ := List.getElem?_eq_some_iff.1 h
      rw [Array.length_toList] at h1
      exact h1
    have hI2 := hI.out
    rw [hi] at hI2
    have HI := Lib.hid hI2
    have c1 : (0 : Int) ≤ (i : Int) := by omega
    have c2 : (i : Int) ≤ (t.size : Int) := by omega
    have c3 : (0 : Int) ≤ (i : Int) + 1 := by omega
    have c4 : (i : Int) + 1 ≤ (t.size : Int) := by omega
    clear hI2 hI hi
    go_enter Tryd.func62, Tryd.ntmps62
    go_wp2_with (go_at_call 85; refine (HI.out _).mono ?_; rintro e w' ⟨rfl, rfl⟩; simp only [Int.ofNat_eq_natCast])
    go_region
    go_wp2
    go_ret3
    exact ⟨rfl, (Below.refl _ _).drew⟩
  | negSucc n =>
    have hn : Lib.indexByte t.data.toList 32 = -1 := by
      have := Lib.indexByte_ge t.data.toList 32
      omega
    have hI2 := hI.out
    rw [hn] at hI2
    have HI := Lib.hid hI2
    clear hI2 hI hi hn
    go_enter Tryd.func62, Tryd.ntmps62
    go_wp2_with (go_at_call 85; refine (HI.out _).mono ?_; rintro e w' ⟨rfl, rfl⟩)
    go_ret3
    exact ⟨rfl, Below.refl _ _⟩
theorem cutOut (t : ByteArray) (hm : t.size ≤ 1048576) (w : World) :
    Calls Tryd.prog 39 #[.string t, .string ⟨#[32]⟩] w fun e w' => e = .returned (cutV t) ∧ Below w.heap.size w w' := by
  have H := cutIn t hm w
  unfold cutV at *
  cases hi : Lib.indexByte t.data.toList 32 with
  | ofNat i =>
    rw [hi] at H
    have HH := Lib.hid H
    clear H hi
    go_enter Tryd.func39, Tryd.ntmps39
    go_wp2_with (go_at_call 62; refine HH.out.mono ?_; rintro e w1 ⟨rfl, b1⟩; have B1 := Lib.hid b1; clear b1)
    go_ret3
    exact ⟨rfl, B1.out⟩
  | negSucc n =>
    rw [hi] at H
    have HH := Lib.hid H
    clear H hi
    go_enter Tryd.func39, Tryd.ntmps39
    go_wp2_with (go_at_call 62; refine HH.out.mono ?_; rintro e w1 ⟨rfl, b1⟩; have B1 := Lib.hid b1; clear b1)
    go_ret3
    exact ⟨rfl, B1.out⟩
end Go.Proofs.YtanepboepeijoaaDoor
