import Derived.Test.YtanepboepeijoaaDoorRs
namespace Go.Proofs.YtanepboepeijoaaDoor
open Go.ChangeShapes Go.WideShapes Go.ChangeAt Go.RowKit
open Fl
@[go_sem] theorem call_f64from' (n : Int) (w : World) : (callFunc 78 #[.int .u64 n]).run Tryd.prog w = .ok (.value (.float .f64 n.toNat)) w := by
  rw [run_callFunc_extern Tryd.func78 (by kernel_rfl) (by kernel_rfl) (by kernel_rfl) (e := Extern.MathFloatBits.float64frombits) (by kernel_rfl)]; rfl
theorem mathNaN (w : World) : Calls Tryd.prog 58 #[] w fun e w' => e = .returned (.float .f64 9221120237041090561) ∧ w = w' := by
  go_enter Tryd.func58, Tryd.ntmps58
  go_wp2
  go_ret
  exact ⟨rfl, rfl⟩
def NanPost (e : Ending) : Prop := ∃ b, kd b = 4 ∧ e = .returned (.tuple #[.float .f32 b, .bool true])
theorem l01Read_nan (w : World) : Calls Tryd.prog 35 #[.string nanT] w fun e w' => NanPost e ∧ w.drew = w' := by
  have hc : ∀ w, (convert 28 22 (.float .f64 9221120237041090561)).run Tryd.prog w = .ok (.float .f32 (nanC32 9221120237041090561 w)) w.drew := fun w =>
    run_narrow_nan w 28 22 9221120237041090561 Tryd.underlying28 Tryd.underlying22 (by decide)
  have hk := Lib.hid (nan_kd4 (nanC32_nan 9221120237041090561 w))
  unfold nanT
  go_enter Tryd.func35, Tryd.ntmps35
  go_wp2_with (go_at_call 58; refine (mathNaN _).mono ?_; rintro e w' ⟨rfl, rfl⟩)
  go_ret2
  exact ⟨⟨_, hk.out, rfl⟩, rfl⟩
def NanPost2 (e : Ending) : Prop := ∃ b, kd b = 4 ∧ e = .returned (.tuple #[.float .f32 b, .int .i64 0])
theorem specRead_nan (w : World) : Calls Tryd.prog 9 #[.string nanT] w fun e w' => NanPost2 e ∧ w.drew = w' := by
  have H := Lib.hid l01Read_nan
  unfold nanT
  go_enter Tryd.func9, Tryd.ntmps9
  go_wp2_with (go_at_call 35; refine (H.out _).mono ?_; rintro e w' ⟨⟨b, hk, rfl⟩, rfl⟩; have HK := Lib.hid hk; clear hk)
  go_ret2
  exact ⟨⟨_, HK.out, rfl⟩, rfl⟩
theorem readT_kd {t : ByteArray} {v : Nat} (h : readT t = some v) : kd v ≠ 4 := by
  unfold readT at h
  split at h
  · unfold readW at h
    cases hv : lowV 0 t.data.toList with
    | none => rw [hv] at h; cases h
    | some u =>
      rw [hv] at h
      simp only at h
      split at h
      · cases h
      · rename_i hk; cases h; exact hk
  · cases h
theorem big_text (t : ByteArray) (hb : 1048576 < t.size) (w : World) :
    Calls Tryd.prog 4 #[.string t] w fun e w' => e = .returned (.bool true) ∧ Below w.heap.size w w' := by
  have hb' : (1048576 : Int) < (t.size : Int) := by omega
  go_enter Tryd.func4, Tryd.ntmps4
  go_wp2
  go_ret
  exact ⟨rfl, Below.refl _ _⟩
set_option maxRecDepth 8000 in
theorem fnExactReadReal_walk (t : ByteArray) (hwf : t.size ≤ maxLen) (w : World) (hT : Tab4 w) (hG : 6 < w.heap.size) (hE : ErrCell w) (hG2 : 2 < w.heap.size) :
    Calls Tryd.prog 4 #[.string t] w fun e w' => e = .returned (.bool true) ∧ Below w.heap.size w w' := by
  by_cases hb : 1048576 < t.size
  · exact big_text t hb w
  have hm : t.size ≤ 1048576 := by omega
  have hm' : ((1048576 : Int) < (t.size : Int)) = False := by simp; omega
  clear hb hwf
  by_cases hn : t = nanT
  · subst hn
    have HS := Lib.hid specRead_nan
    have HI := Lib.hid implRead_nan
    have hcv := conv_nan 2143289344 (by decide)
    have HN1 := Lib.hid fun w => nanC64_nan 2143289344 w
    clear hT hE hm hm'
    unfold nanT at *
    go_enter Tryd.func4, Tryd.ntmps4
    go_wp2_with fail
    refine (HS.out _).mono ?_
    rintro e w1 ⟨⟨b, hk, rfl⟩, rfl⟩
    have hcb := conv_nan b hk
    have HN2 := Lib.hid fun w => nanC64_nan b w
    clear hk
    go_wp2_with (first | (go_at_call 10; refine (HI.out _).mono ?_; rintro e w2 ⟨rfl, b2⟩; have B2 := Lib.hid b2; clear b2; simp only [outR]) | (go_at_call 11; refine (sameFloat_nan _ _ (HN1.out _) (HN2.out _) _).mono ?_; rintro e w' ⟨rfl, rfl⟩))
    go_ret
    exact ⟨rfl, (((Below.refl _ _).drew.trans B2.out).drew).drew⟩
  · have HS := Lib.hid (specRead_any t hn hm)
    have HI := Lib.hid (implRead t hn hm w hE hG2 hT hG)
    have HK := Lib.hid (fun v => readT_kd (t := t) (v := v))
    clear hT hE hn
    generalize readT t = r at HS HI HK
    cases r with
    | none =>
      have hcv := conv_num 0 (by decide)
      have HF := Lib.hid (sameFloat_same _ (widen_num 0 (by decide)))
      go_enter Tryd.func4, Tryd.ntmps4
      go_wp2_with (first | (go_at_call 9; refine (HS.out _).mono ?_; rintro e w' ⟨rfl, rfl⟩; simp only [outR]) | (go_at_call 10; refine HI.out.mono ?_; rintro e w2 ⟨rfl, b2⟩; have B2 := Lib.hid b2; clear b2; simp only [outR]) | (go_at_call 11; refine (HF.out _).mono ?_; rintro e w' ⟨rfl, rfl⟩))
      go_ret
      exact ⟨rfl, B2.out⟩
    | some v =>
      have hk := HK.out v rfl
      have hcv := conv_num v hk
      have HF := Lib.hid (sameFloat_same _ (widen_num v hk))
      clear hk HK
      go_enter Tryd.func4, Tryd.ntmps4
      go_wp2_with (first | (go_at_call 9; refine (HS.out _).mono ?_; rintro e w' ⟨rfl, rfl⟩; simp only [outR]) | (go_at_call 10; refine HI.out.mono ?_; rintro e w2 ⟨rfl, b2⟩; have B2 := Lib.hid b2; clear b2; simp only [outR]) | (go_at_call 11; refine (HF.out _).mono ?_; rintro e w' ⟨rfl, rfl⟩))
      go_ret
      exact ⟨rfl, B2.out⟩
end Go.Proofs.YtanepboepeijoaaDoor
