/-
  THE PROGRAM's ReadNumber: strings.Cut at "/", strconv.FormatInt at base 10, the divisor, the whole.
-/
import Derived.Test.YtaihooljphkpeaaDoorQg
import Derived.Test.YtaihooljphkpeaaDoorShN
import Derived.Lib.IndexLaws
import Derived.Lib.LaidTab
namespace Go.Proofs.YtaihooljphkpeaaDoor
open Go.ChangeShapes Go.WideShapes Go.ChangeAt Go.RowKit
open Fl «Sort»
def cutV (t : ByteArray) : Value := match Lib.indexByte t.data.toList 47 with
  | .ofNat i => .tuple #[.string (t.extract 0 i), .string (t.extract (i + 1) t.size), .bool true]
  | .negSucc _ => .tuple #[.string t, .string ⟨#[]⟩, .bool false]
theorem cutIn (t : ByteArray) (hm : t.size ≤ 1048576) (w : World) :
    Calls Tryd.prog 20 #[.string t, .string ⟨#[47]⟩] w fun e w' => e = .returned (cutV t) ∧ Below w.heap.size w w' := by
  have hI := Lib.hid (fun w => Tryd.stringslite_Index_one t 47 w)
  unfold cutV
  cases hi : Lib.indexByte t.data.toList 47 with
  | ofNat i =>
    have hlt : i < t.size := by
      have h := (Lib.indexByte_some (o := i) hi).1
      obtain ⟨h1, _⟩ := List.getElem?_eq_some_iff.1 h
      rw [Array.length_toList] at h1
      exact h1
    have hI2 := hI.out
    rw [hi] at hI2
    have HI := Lib.hid hI2
    have c1 : (0 : Int) ≤ (i : Int) := by omega
    have c2 : (i : Int) ≤ (t.size : Int) := by omega
    have c3 : (0 : Int) ≤ (i : Int) + 1 := by omega
    have c4 : (i : Int) + 1 ≤ (t.size : Int) := by omega
    clear hI2 hI hi
    go_enter Tryd.func20, Tryd.ntmps20
    go_wp2_with (go_at_call 25; refine (HI.out _).mono ?_; rintro e w' ⟨rfl, rfl⟩; simp only [Int.ofNat_eq_natCast])
    go_region
    go_wp2
    go_ret3
    exact ⟨rfl, (Below.refl _ _).drew⟩
  | negSucc n =>
    have hn : Lib.indexByte t.data.toList 47 = -1 := by
      have := Lib.indexByte_ge t.data.toList 47
      omega
    have hI2 := hI.out
    rw [hn] at hI2
    have HI := Lib.hid hI2
    clear hI2 hI hi hn
    go_enter Tryd.func20, Tryd.ntmps20
    go_wp2_with (go_at_call 25; refine (HI.out _).mono ?_; rintro e w' ⟨rfl, rfl⟩)
    go_ret3
    exact ⟨rfl, Below.refl _ _⟩
theorem cutOut (t : ByteArray) (hm : t.size ≤ 1048576) (w : World) :
    Calls Tryd.prog 14 #[.string t, .string ⟨#[47]⟩] w fun e w' => e = .returned (cutV t) ∧ Below w.heap.size w w' := by
  have H := cutIn t hm w
  unfold cutV at *
  cases hi : Lib.indexByte t.data.toList 47 with
  | ofNat i =>
    rw [hi] at H
    have HH := Lib.hid H
    clear H hi
    go_enter Tryd.func14, Tryd.ntmps14
    go_wp2_with (go_at_call 20; refine HH.out.mono ?_; rintro e w1 ⟨rfl, b1⟩; have B1 := Lib.hid b1; clear b1)
    go_ret3
    exact ⟨rfl, B1.out⟩
  | negSucc n =>
    rw [hi] at H
    have HH := Lib.hid H
    clear H hi
    go_enter Tryd.func14, Tryd.ntmps14
    go_wp2_with (go_at_call 20; refine HH.out.mono ?_; rintro e w1 ⟨rfl, b1⟩; have B1 := Lib.hid b1; clear b1)
    go_ret3
    exact ⟨rfl, B1.out⟩
/-- the table of the powers of ten -/
def Pow (w : World) : Prop := Lib.TabIs Tryd.prog w "internal/strconv.uint64pow10" .u64 Lib.pow10Tab
theorem gP : Tryd.prog.globalNamed "internal/strconv.uint64pow10" = some 1 := by kernel_rfl
theorem Pow.below {B : Nat} {w w' : World} (h : Pow w) (hb : Below B w w') (hB : 1 < B) : Pow w' := by
  unfold Pow Lib.TabIs World.var? at *
  rw [gP] at h ⊢
  simp only [Option.bind_some] at h ⊢
  rw [hb.block _ hB]
  exact h
theorem below_grow (w : World) (k : Nat) (os : Array Obj) : Below w.heap.size w (grow (w.drewN k) os) := by
  refine ⟨rfl, rfl, rfl, ?_, fun j hj => ?_⟩
  · show w.heap.size ≤ (w.heap ++ os).size
    simp
  · show (w.heap ++ os)[j]? = w.heap[j]?
    rw [Array.getElem?_append_left hj]
theorem formatInt_any (n : Nat) (hn : n ≤ 1000000000) (w : World) (hT : Pow w) :
    Calls Tryd.prog 21 #[.int .i64 (n : Int), .int .i64 10] w fun e w' => e = .returned (.string ⟨(Lib.decDigits n).toArray⟩) ∧ Below w.heap.size w w' := by
  have H := Lib.hid (fun w h => Tryd.internal_strconv_FormatInt_10 (n : Int) (by omega) (by omega) w h)
  have e1 : Lib.itoa (n : Int) = Lib.decDigits n := by unfold Lib.itoa; rw [if_neg (by omega)]; simp
  rw [← e1]
  generalize (⟨(Lib.itoa (n : Int)).toArray⟩ : ByteArray) = T at H ⊢
  have HT := Lib.hid hT
  clear hT e1
  go_enter Tryd.func21, Tryd.ntmps21
  go_wp2_with fail
  refine (H.out _ HT.out).mono ?_
  rintro e w' ⟨rfl, k, os, rfl⟩
  have B := Lib.hid (below_grow w k os)
  generalize grow (w.drewN k) os = w1 at B ⊢
  go_wp2
  go_ret
  exact ⟨rfl, B.out⟩
def byR : Option Nat → Value
  | some k => .tuple #[.int .i64 ((2 ^ k : Nat) : Int), .int .i64 0]
  | none => .tuple #[.int .i64 0, .int .i64 5]
theorem text_beq (t : ByteArray) (l : List UInt8) : (t.toList == (⟨l.toArray⟩ : ByteArray).toList) = decide (t.data.toList = l) := by
  rw [ByteArray.toList_eq, ByteArray.toList_eq]
  by_cases h : t.data.toList = l
  · subst h; simp
  · simp [h]
set_option maxHeartbeats 2000000 in
set_option maxRecDepth 8000 in
theorem readDivisor_any (t : ByteArray) (w : World) (hT : Pow w) (hG : 1 < w.heap.size) :
    Calls Tryd.prog 16 #[.string t] w fun e w' => e = .returned (byR (byV t.data.toList)) ∧ Below w.heap.size w w' := by
  have HT := Lib.hid hT
  have HG := Lib.hid hG
  obtain ⟨l, hl⟩ : ∃ l, t.data.toList = l := ⟨_, rfl⟩
  have TQ : Hid (∀ k : Nat, (t.toList == (⟨(Lib.decDigits (2 ^ k)).toArray⟩ : ByteArray).toList) = decide (l = decT k)) := Lib.hid fun k => by rw [text_beq, hl]; rfl
  obtain ⟨V, hV⟩ : ∃ V, byV l = V := ⟨_, rfl⟩
  rw [hl, hV]
  have V0 : Hid (byF l 1 (11 - 1) = V) := Lib.hid hV
  clear hT hG hl hV
  go_enter Tryd.func16, Tryd.ntmps16
  go_wp2
  go_loopw [4] (fun vn wr => ∃ k : Nat, 1 ≤ k ∧ k ≤ 11 ∧ vn = .int .i64 ((2 ^ k : Nat) : Int) ∧ Below w.heap.size w wr ∧ Hid (byF l k (11 - k) = V)) (fun vn _ => 4096 - (intOf vn).toNat)
  case atStart => exact ⟨1, by omega, by omega, rfl, Below.refl _ _, V0⟩
  case round =>
    obtain ⟨k, hk1, hk2, rfl, hb, HV⟩ := hrel
    have HB := Lib.hid hb
    have PW : Hid (Pow wr) := Lib.hid (HT.out.below hb HG.out)
    clear hb
    by_cases hlt : k ≤ 10
    · have hp : (2 : Nat) ^ k ≤ 2 ^ 10 := Nat.pow_le_pow_right (by decide) hlt
      have hp2 : (2 : Nat) ^ 1 ≤ 2 ^ k := Nat.pow_le_pow_right (by decide) hk1
      have ep : (2 : Nat) ^ 10 = 1024 := by decide
      have FI := Lib.hid (fun w h => formatInt_any (2 ^ k) (by omega) w h)
      have tq := TQ.out k
      have hnext : ((2 ^ (k + 1) : Nat) : Int) = ((2 ^ k : Nat) : Int) * 2 := by rw [Nat.pow_succ]; omega
      have HNX := Lib.hid hnext
      have hv := HV.out
      rw [show 11 - k = (10 - k) + 1 by omega, byF] at hv
      by_cases heq : l = decT k
      · rw [if_pos heq] at hv
        rw [decide_eq_true heq] at tq
        subst hv
        clear heq HV V0 hnext TQ
        generalize hpp : (2 ^ k : Nat) = p at *
        have HPP := Lib.hid hpp
        clear hpp
        generalize (⟨(Lib.decDigits p).toArray⟩ : ByteArray) = T at FI tq
        have tp : (p : Int) ≤ 1024 := by omega
        go_wp2_with fail
        refine (FI.out _ PW.out).mono ?_
        rintro e w2 ⟨rfl, b2⟩
        have B2 := Lib.hid (HB.out.trans (b2.mono HB.out.size))
        clear b2
        go_wp2
        go_ret2
        refine ⟨?_, B2.out⟩
        show _ = Ending.returned (.tuple #[.int .i64 ((2 ^ k : Nat) : Int), .int .i64 0])
        rw [HPP.out]
        rfl
      · rw [if_neg heq] at hv
        rw [decide_eq_false heq] at tq
        have HV2 : Hid (byF l (k + 1) (11 - (k + 1)) = V) := Lib.hid (by rw [show 11 - (k + 1) = 10 - k by omega]; exact hv)
        have HK := Lib.hid hlt
        have HP : Hid ((2 : Nat) ^ k ≤ 1024 ∧ 2 ≤ (2 : Nat) ^ k) := Lib.hid ⟨by omega, by omega⟩
        clear heq HV V0 TQ hv hnext
        generalize hpp : (2 ^ k : Nat) = p at *
        generalize (⟨(Lib.decDigits p).toArray⟩ : ByteArray) = T at FI tq
        have tp : (p : Int) ≤ 1024 := by omega
        go_wp2_with fail
        refine (FI.out _ PW.out).mono ?_
        rintro e w2 ⟨rfl, b2⟩
        have B2 := Lib.hid (HB.out.trans (b2.mono HB.out.size))
        clear b2
        go_wp2
        go_roundw
        case rel => exact ⟨k + 1, by omega, by have := HK.out; omega, by rw [HNX.out], B2.out, HV2⟩
        case measure => have := HP.out; simp [intOf]; omega
    · obtain rfl : k = 11 := by omega
      have hv := HV.out
      have : V = none := by rw [← hv]; rfl
      subst this
      clear hv
      have tp : ((2 ^ 11 : Nat) : Int) = 2048 := by decide
      rw [tp]
      go_wp2
      go_ret2
      exact ⟨rfl, HB.out⟩
end Go.Proofs.YtaihooljphkpeaaDoor
