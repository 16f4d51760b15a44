/-
  THE WALK of the law, whole.
-/
import Derived.Test.YtaihooljphkpeaaDoorQi
import Derived.Test.YtaihooljphkpeaaDoorQs
namespace Go.Proofs.YtaihooljphkpeaaDoor
open Go.ChangeShapes Go.WideShapes Go.ChangeAt Go.RowKit
open Fl
theorem partsV_ok {q : List (List UInt8)} {n k : Nat} (h : partsV q = some (n, k)) : n < 1000000 ∧ k ≤ 10 := by
  unfold partsV at h
  split at h
  · rename_i a
    cases hv : smallV a with
    | none => rw [hv] at h; cases h
    | some v => rw [hv] at h; simp at h; obtain ⟨rfl, rfl⟩ := h; exact ⟨smallV_lt hv, by omega⟩
  · rename_i a b
    cases hv : smallV a with
    | none => rw [hv] at h; cases h
    | some v =>
      rw [hv] at h
      cases hb : byV b with
      | none => rw [hb] at h; cases h
      | some j => rw [hb] at h; simp at h; obtain ⟨rfl, rfl⟩ := h; exact ⟨smallV_lt hv, (byV_some hb).2.1⟩
  · cases h
theorem numV_kd {l : List UInt8} {r : Nat} (h : numV (splitL 47) l = some r) : kd r ≠ 4 := by
  unfold numV at h
  cases hp : partsV (splitL 47 (rest l)) with
  | none => rw [hp] at h; cases h
  | some p =>
    rw [hp] at h
    obtain ⟨h1, h2⟩ := partsV_ok (n := p.1) (k := p.2) hp
    obtain ⟨r', e, hk⟩ := quo_ok (if isNeg l then -(p.1 : Int) else p.1) p.2 (by split <;> omega) h2
    simp only [Option.bind_some] at h
    rw [e] at h
    cases h
    exact hk
theorem big_text (t : ByteArray) (hb : 1048576 < t.size) (w : World) :
    Calls Tryd.prog 4 #[.string t] w fun e w' => e = .returned (.bool true) ∧ Below w.heap.size w w' := by
  have hb' : (1048576 : Int) < (t.size : Int) := by omega
  go_enter Tryd.func4, Tryd.ntmps4
  go_wp2
  go_ret
  exact ⟨rfl, Below.refl _ _⟩
set_option maxRecDepth 8000 in
set_option maxHeartbeats 2000000 in
theorem fnExactReadNumber_walk (t : ByteArray) (hwf : t.size ≤ maxLen) (w : World) (hT : Pow w) (hG : 1 < w.heap.size) :
    Calls Tryd.prog 4 #[.string t] w fun e w' => e = .returned (.bool true) ∧ Below w.heap.size w w' := by
  by_cases hb : 1048576 < t.size
  · exact big_text t hb w
  have hm : t.size ≤ 1048576 := by omega
  have hm' : ¬ ((1048576 : Int) < (t.size : Int)) := by omega
  have hm2 : (t.size : Int) ≤ 1048576 := by omega
  have HS := Lib.hid (specNumber_any t hm w)
  have HI := Lib.hid (fun w h1 h2 => implNumber_any t hm w h1 h2)
  have HK := Lib.hid (fun r => numV_kd (l := t.data.toList) (r := r))
  have HT := Lib.hid hT
  have HG := Lib.hid hG
  clear hb hwf hT hG
  generalize numV (splitL 47) t.data.toList = V at HS HI HK
  cases V with
  | none =>
    have hcv := conv_num 0 (by decide)
    have HF := Lib.hid (sameFloat_same _ (widen_num 0 (by decide)))
    simp only [numR] at HS HI
    clear HK
    go_enter Tryd.func4, Tryd.ntmps4
    go_wp2_with fail
    refine HS.out.mono ?_
    rintro e w1 ⟨rfl, b1⟩
    have B1 := Lib.hid b1
    have P1 := Lib.hid (HT.out.below b1 HG.out)
    have G1 : Hid (1 < w1.heap.size) := Lib.hid (Nat.lt_of_lt_of_le HG.out b1.size)
    clear b1
    go_wp2_with fail
    refine (HI.out _ P1.out G1.out).mono ?_
    rintro e w2 ⟨rfl, b2⟩
    have B2 := Lib.hid (B1.out.trans (b2.mono B1.out.size))
    clear b2
    go_wp2_with (go_at_call 10; refine (HF.out _).mono ?_; rintro e w' ⟨rfl, rfl⟩)
    go_ret
    exact ⟨rfl, B2.out⟩
  | some r =>
    have hk := HK.out r rfl
    have hcv := conv_num r hk
    have HF := Lib.hid (sameFloat_same _ (widen_num r hk))
    simp only [numR] at HS HI
    clear HK hk
    go_enter Tryd.func4, Tryd.ntmps4
    go_wp2_with fail
    refine HS.out.mono ?_
    rintro e w1 ⟨rfl, b1⟩
    have B1 := Lib.hid b1
    have P1 := Lib.hid (HT.out.below b1 HG.out)
    have G1 : Hid (1 < w1.heap.size) := Lib.hid (Nat.lt_of_lt_of_le HG.out b1.size)
    clear b1
    go_wp2_with fail
    refine (HI.out _ P1.out G1.out).mono ?_
    rintro e w2 ⟨rfl, b2⟩
    have B2 := Lib.hid (B1.out.trans (b2.mono B1.out.size))
    clear b2
    go_wp2_with (go_at_call 10; refine (HF.out _).mono ?_; rintro e w' ⟨rfl, rfl⟩)
    go_ret
    exact ⟨rfl, B2.out⟩
end Go.Proofs.YtaihooljphkpeaaDoor
