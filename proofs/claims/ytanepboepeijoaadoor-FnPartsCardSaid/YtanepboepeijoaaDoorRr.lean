/-
  ReadReal: the program's reading of a text.
-/
import Derived.Test.YtanepboepeijoaaDoorPuo
namespace Go.Proofs.YtanepboepeijoaaDoor
open Go.ChangeShapes Go.WideShapes Go.ChangeAt Go.RowKit
open Fl
def nanT : ByteArray := ⟨#[110, 97, 110]⟩
def outR : Option Nat → Value
  | some v => .tuple #[.float .f32 v, .int .i64 0]
  | none => .tuple #[.float .f32 0, .int .i64 5]
theorem implRead_nan (w : World) :
    Calls Tryd.prog 10 #[.string nanT] w fun e w' => e = .returned (outR (some 2143289344)) ∧ Below w.heap.size w w' := by
  unfold nanT
  go_enter Tryd.func10, Tryd.ntmps10
  go_wp2
  go_ret2
  exact ⟨rfl, Below.refl _ _⟩
theorem ne_nan {t : ByteArray} (h : t ≠ nanT) : (t.toList == [110, 97, 110]) = false := by
  rw [ByteArray.toList_eq]
  cases hb : t.data.toList == [110, 97, 110]
  · rfl
  · exfalso
    have e := eq_of_beq hb
    apply h
    obtain ⟨⟨l⟩⟩ := t
    simp only at e
    subst e
    rfl
theorem implRead_len (t : ByteArray) (hn : t ≠ nanT) (h8 : t.size ≠ 8) (hm : t.size ≤ 1048576) (w : World) :
    Calls Tryd.prog 10 #[.string t] w fun e w' => e = .returned (outR none) ∧ Below w.heap.size w w' := by
  have h8' : ((t.size : Int) != 8) = true := by simp; omega
  have hne := ne_nan hn
  go_enter Tryd.func10, Tryd.ntmps10
  go_wp2
  go_ret2
  exact ⟨rfl, Below.refl _ _⟩
theorem implRead_bad (t : ByteArray) (h8 : t.size = 8) (hv : hexV 0 t.data.toList = none) (w : World) (hE : ErrCell w) (hG : 2 < w.heap.size) :
    Calls Tryd.prog 10 #[.string t] w fun e w' => e = .returned (outR none) ∧ Below w.heap.size w w' := by
  have h8' : ((t.size : Int) != 8) = false := by simp; omega
  have hne := ne_nan (t := t) (fun h => by rw [h] at h8; cases h8)
  have HP := Lib.hid (parseOut_bad t (by omega) (by omega) hv w hE hG)
  clear hv hE hG h8
  go_enter Tryd.func10, Tryd.ntmps10
  go_wp2_with (go_at_call 37; refine HP.out.mono ?_; rintro e w1 ⟨⟨p, rfl⟩, b1⟩; have B1 := Lib.hid b1; clear b1)
  go_ret2
  exact ⟨rfl, B1.out⟩
set_option maxRecDepth 8000 in
theorem implRead_num (t : ByteArray) (v : Nat) (h8 : t.size = 8) (hv : hexV 0 t.data.toList = some v) (hk : kd v ≠ 4) (w : World) (hT : Tab4 w) (hG : 6 < w.heap.size) :
    Calls Tryd.prog 10 #[.string t] w fun e w' => e = .returned (outR (readW t.data.toList)) ∧ Below w.heap.size w w' := by
  have h8' : ((t.size : Int) != 8) = false := by simp; omega
  have hne := ne_nan (t := t) (fun h => by rw [h] at h8; cases h8)
  have hlen : t.data.toList.length = 8 := by rw [Array.length_toList]; exact h8
  have hlt := hexV_lt _ hv
  rw [hlen] at hlt
  have HP := Lib.hid (parseOut_ok t v (by omega) (by omega) hv w)
  have hW : W32 v := by unfold W32; omega
  have hv1 : (v : Int) ≤ 4294967295 := by omega
  have HR := Lib.hid (implText_num v hW hk)
  have HT := Lib.hid hT
  have HV := Lib.hid hv
  clear hT hlt hv
  by_cases ht : hexT v 8 = t.data.toList
  · have hb : (!hexT v 8 == t.toList) = false := by rw [ByteArray.toList_eq, ht]; simp
    have HO := Lib.hid (read_yes hlen HV.out hk ht)
    clear ht hlen hk HV
    go_enter Tryd.func10, Tryd.ntmps10
    go_wp2_with (first | (go_at_call 37; refine HP.out.mono ?_; rintro e w1 ⟨rfl, b1⟩; have B1 := Lib.hid b1; clear b1) | (go_at_call 8; refine (HR.out _ (HT.out.below B1.out hG) (Nat.lt_of_lt_of_le hG B1.out.size)).mono ?_; rintro e w2 ⟨rfl, b2⟩; have B2 := Lib.hid (B1.out.trans (b2.mono B1.out.size)); clear b2 B1))
    go_ret2
    exact ⟨by rw [HO.out]; rfl, B2.out⟩
  · have hb : (!hexT v 8 == t.toList) = true := by rw [ByteArray.toList_eq]; simpa using ht
    have HO := Lib.hid (read_no hlen HV.out (.inr ht))
    clear ht hlen hk HV
    go_enter Tryd.func10, Tryd.ntmps10
    go_wp2_with (first | (go_at_call 37; refine HP.out.mono ?_; rintro e w1 ⟨rfl, b1⟩; have B1 := Lib.hid b1; clear b1) | (go_at_call 8; refine (HR.out _ (HT.out.below B1.out hG) (Nat.lt_of_lt_of_le hG B1.out.size)).mono ?_; rintro e w2 ⟨rfl, b2⟩; have B2 := Lib.hid (B1.out.trans (b2.mono B1.out.size)); clear b2 B1))
    go_ret2
    exact ⟨by rw [HO.out]; rfl, B2.out⟩
set_option maxRecDepth 8000 in
theorem implRead_odd (t : ByteArray) (v : Nat) (h8 : t.size = 8) (hv : hexV 0 t.data.toList = some v) (hk : kd v = 4) (w : World) :
    Calls Tryd.prog 10 #[.string t] w fun e w' => e = .returned (outR none) ∧ Below w.heap.size w w' := by
  have h8' : ((t.size : Int) != 8) = false := by simp; omega
  have hne := ne_nan (t := t) (fun h => by rw [h] at h8; cases h8)
  have hlen : t.data.toList.length = 8 := by rw [Array.length_toList]; exact h8
  have hlt := hexV_lt _ hv
  rw [hlen] at hlt
  have HP := Lib.hid (parseOut_ok t v (by omega) (by omega) hv w)
  have hW : W32 v := by unfold W32; omega
  have hv1 : (v : Int) ≤ 4294967295 := by omega
  have HR := Lib.hid (implText_nan v hW hk)
  have hb : (!([110, 97, 110] : List UInt8) == t.toList) = true := by
    rw [ByteArray.toList_eq]
    have hx : ([110, 97, 110] : List UInt8) ≠ t.data.toList := fun h => by rw [← h] at hlen; cases hlen
    simpa using hx
  clear hlt hv hlen hk
  go_enter Tryd.func10, Tryd.ntmps10
  go_wp2_with (first | (go_at_call 37; refine HP.out.mono ?_; rintro e w1 ⟨rfl, b1⟩; have B1 := Lib.hid b1; clear b1) | (go_at_call 8; refine (HR.out _).mono ?_; rintro e w2 ⟨rfl, b2⟩; have B2 := Lib.hid (B1.out.trans (b2.mono B1.out.size)); clear b2 B1))
  go_ret2
  exact ⟨rfl, B2.out⟩
/-- what is read of a text other than "nan" -/
def readT (t : ByteArray) : Option Nat := if t.size = 8 then readW t.data.toList else none
theorem implRead (t : ByteArray) (hn : t ≠ nanT) (hm : t.size ≤ 1048576) (w : World) (hE : ErrCell w) (hG2 : 2 < w.heap.size) (hT : Tab4 w) (hG : 6 < w.heap.size) :
    Calls Tryd.prog 10 #[.string t] w fun e w' => e = .returned (outR (readT t)) ∧ Below w.heap.size w w' := by
  unfold readT
  by_cases h8 : t.size = 8
  · rw [if_pos h8]
    cases hv : hexV 0 t.data.toList with
    | none => rw [read_bad hv]; exact implRead_bad t h8 hv w hE hG2
    | some v =>
      by_cases hk : kd v = 4
      · rw [read_no (by rw [Array.length_toList]; exact h8) hv (.inl hk)]; exact implRead_odd t v h8 hv hk w
      · exact implRead_num t v h8 hv hk w hT hG
  · rw [if_neg h8]; exact implRead_len t hn h8 hm w
end Go.Proofs.YtanepboepeijoaaDoor
