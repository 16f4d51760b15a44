/-
  FnParts: what its calls hand back.
-/
import Derived.Test.YtanepboepeijoaaDoorPart
import Derived.Test.YtanepboepeijoaaDoorAny
import Derived.Test.YtanepboepeijoaaDoorWExactRealText
import Derived.Test.YtanepboepeijoaaDoorRp
namespace Go.Proofs.YtanepboepeijoaaDoor
open Go.ChangeShapes Go.WideShapes Go.ChangeAt Go.RowKit Go.Deep
open Fl
def P6Post (e : Ending) : Prop := ∃ a, W32 a ∧ e = .returned (.float .f32 a)
theorem p6Any (len cap : Nat) (c : Option Addr) (hl : len ≤ 4096) (w : World) (h : BRow w.heap.size w c len) :
    Calls Tryd.prog 16 #[.slice c len cap] w fun e w' => P6Post e ∧ Below w.heap.size w w' := by
  have HF := Lib.hid (from_any len cap c w h)
  clear h
  go_enter Tryd.func16, Tryd.ntmps16
  go_wp2_with fail
  refine HF.out.mono ?_
  rintro e w1 ⟨⟨rfl, s1⟩, b1⟩
  have S1 := Lib.hid s1
  have B1 := Lib.hid b1
  clear s1 b1
  go_wp2_with fail
  refine (any_any w.heap.size w.heap.size len cap 0 c hl (by omega) w1 S1.out).mono ?_
  rintro e w2 ⟨⟨v, k, hv, rfl, k0, k1, s2⟩, b2⟩
  have HV := Lib.hid hv
  have B2 := Lib.hid (B1.out.trans (b2.below (Nat.le_refl _) B1.out.size))
  clear hv s2 b2
  go_wp2
  go_ret
  exact ⟨⟨v, HV.out, rfl⟩, B2.out⟩
theorem big_any (len cap : Nat) (c : Option Addr) (w : World) :
    Calls Tryd.prog 15 #[.slice c len cap] w fun e w' => e = .returned (.bool (decide (4096 < (len : Int)))) ∧ w = w' := by
  go_enter Tryd.func15, Tryd.ntmps15
  go_wp2
  go_ret
  exact ⟨rfl, rfl⟩
theorem specKindB (a : Nat) (h : W32 a) (w : World) :
    Calls Tryd.prog 19 #[.float .f32 a] w fun e w' => e = .returned (.int .i64 (kd a)) ∧ Below w.heap.size w w' :=
  (specKindOf_any a h w).mono fun e w' ⟨he, hw⟩ => ⟨he, by rcases hw with rfl | rfl; exact Below.refl _ _; exact (Below.refl _ _).drew⟩
theorem implJoin (a p : Nat) (h : W32 a) (hf : kd a < 3) (hp : expo a + 640 = p) (w : World) :
    Calls Tryd.prog 26 #[.bool (neg a), .int .i64 (frac a), .int .i64 (expo a)] w fun e w' => e = .returned (.tuple #[.float .f32 a, .int .i64 0]) ∧ Below w.heap.size w w' := by
  obtain ⟨h0, h1⟩ := expo_range a hf
  have hfr : frac a < 16777216 := by unfold frac; split <;> omega
  have hj := joinParts_x (neg a) (frac a) p (expo a) hfr hp (by omega) (by omega)
  rw [wordE_parts a p hf hp] at hj
  have ha : (if neg a = true then opp (sz a) else sz a) = a := by
    have e := split_bits h
    have hs := sz_lt a
    have n0 : neg (sz a) = false := by unfold neg; simp; omega
    have s0 : sz (sz a) = sz a := Nat.mod_eq_of_lt hs
    cases hn : neg a
    · rw [hn] at e; simp at e ⊢; exact e.symm
    · rw [hn] at e; unfold opp; rw [n0, s0]; simp at e ⊢; omega
  rw [ha] at hj
  have HJ := Lib.hid hj
  have f0 : (0 : Int) ≤ (frac a : Int) := by omega
  have f1 : (frac a : Int) ≤ 16777215 := by omega
  clear hj ha hp hfr
  go_enter Tryd.func26, Tryd.ntmps26
  go_wp2_with (go_at_call 49; refine (HJ.out _).mono ?_; rintro e w1 ⟨rfl, b1⟩; have B1 := Lib.hid b1; clear b1)
  exact bodyPost_ret (v := .tuple #[.float .f32 a, .int .i64 0]) (by simp [results, Tryd.results26, go_sem]) rfl ⟨rfl, B1.out⟩
/-- the text of a number is read as the number -/
theorem readE_text (a : Nat) (h : W32 a) (hk : kd a ≠ 4) : readE ⟨(hexT a 8).toArray⟩ = some a := by
  have hl : (hexT a 8).length = 8 := hexT_len a 8
  unfold readE
  rw [if_neg (by
    intro e
    have := congrArg (fun b : ByteArray => b.data.toList) e
    simp only [nanT] at this
    have h2 := congrArg List.length this
    simp [hl] at h2)]
  unfold readT
  rw [if_pos (by show (hexT a 8).toArray.size = 8; simp [hl])]
  unfold readW
  have h2 := lowV_hexN 8 a
  rw [← hexT_N, Nat.div_eq_of_lt (by unfold W32 at h; omega)] at h2
  simp only [h2]
  rw [if_neg hk]
end Go.Proofs.YtanepboepeijoaaDoor
