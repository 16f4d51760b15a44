/-
  THE LAW OF 'SumOf', WALKED.
-/
import Derived.Test.YtjlghkhadfcfdaaSum2
import Derived.Test.YtjlghkhadfcfdaaWorlds
namespace Go.Proofs.Ytjlghkhadfcfdaa
open Go.ChangeShapes Go.WideShapes Go.ChangeAt Go.RowKit Go.Deep
open Fl
def codeS (len : Nat) : Int := if len ≤ 256 then 0 else 3
def AnsS (len : Nat) (bs : List Nat) (r : Nat) : Prop := if len ≤ 256 then rep (sumK (fun i => bs[i]?.getD 0) len) r else r = 0
def SumPost (len : Nat) (bs : List Nat) (w : World) (e : Ending) (w' : World) : Prop :=
  ∃ r, e = .returned (.tuple #[.float .f32 r, .int .i64 (codeS len)]) ∧ AnsS len bs r ∧ Drew w w'
theorem specSum_post (x len : Nat) (bs : List Nat) (w : World) (hl : len ≤ 1048576)
    (hx : ∀ i, i < len → w.cell? ⟨x, i, none⟩ = some (.float .f32 (bs[i]?.getD 0))) :
    Calls Try.prog 20 #[.slice (some ⟨x, 0, none⟩) len len] w (SumPost len bs w) := by
  by_cases h : len ≤ 256
  · exact (specSum_any x len bs w h hx).mono fun e w' ⟨r, h1, h2, h3⟩ => ⟨r, by rw [h1, codeS, if_pos h], by rw [AnsS, if_pos h]; exact h2, h3⟩
  · have hb : decide ((256 : Int) < len) = true := by simp; omega
    have hl' : (len : Int) ≤ 1048576 := by omega
    have h2 : 256 < len := by omega
    have H := Lib.hid h2
    clear hx h h2
    go_enter Try.func20, Try.ntmps20
    go_wp2
    go_ret2
    exact ⟨0, by rw [codeS, if_neg (by have := H.out; omega)]; rfl, by rw [AnsS, if_neg (by have := H.out; omega)], 0, rfl⟩
theorem implSum_post (x len : Nat) (bs : List Nat) (w : World) (hl : len ≤ 1048576)
    (hx : ∀ i, i < len → w.cell? ⟨x, i, none⟩ = some (.float .f32 (bs[i]?.getD 0))) :
    Calls Try.prog 22 #[.slice (some ⟨x, 0, none⟩) len len] w (SumPost len bs w) := by
  by_cases h : len ≤ 256
  · rcases len with _ | n
    · exact (implSum_zero x w).mono fun e w' ⟨h1, h2⟩ => ⟨0, by rw [h1, codeS, if_pos h], by rw [AnsS, if_pos h]; exact .inl ⟨rfl, by decide⟩, 0, h2.symm⟩
    · by_cases hn : n = 0
      · subst hn
        exact (implSum_one x _ w (hx 0 (by omega))).mono fun e w' ⟨h1, h2⟩ => ⟨bs[0]?.getD 0, by rw [h1, codeS, if_pos h], by rw [AnsS, if_pos h]; exact rep_st _, 0, h2.symm⟩
      · exact (implSum_many x n (fun i => bs[i]?.getD 0) w (by omega) (by omega) hx).mono fun e w' ⟨r, h1, h2, h3⟩ => ⟨r, by rw [h1, codeS, if_pos h], by rw [AnsS, if_pos h]; exact h2, h3⟩
  · have hb : decide ((256 : Int) < len) = true := by simp; omega
    have hl' : (len : Int) ≤ 1048576 := by omega
    have h2 : 256 < len := by omega
    have H := Lib.hid h2
    clear hx h h2
    go_enter Try.func22, Try.ntmps22
    go_wp2
    go_ret2
    exact ⟨0, by rw [codeS, if_neg (by have := H.out; omega)]; rfl, by rw [AnsS, if_neg (by have := H.out; omega)], 0, rfl⟩
/-- two answers that stand for one sum are the same, or both NaN -/
theorem two_rep {acc : Option Nat} {r s : Nat} (h1 : rep acc r) (h2 : rep acc s) : Alike r s := by
  rcases h1 with ⟨e1, k1⟩ | ⟨e1, k1⟩
  · rcases h2 with ⟨e2, k2⟩ | ⟨e2, _⟩
    · left; rw [e1] at e2; cases e2; exact ⟨rfl, k1⟩
    · rw [e1] at e2; cases e2
  · rcases h2 with ⟨e2, _⟩ | ⟨_, k2⟩
    · rw [e1] at e2; cases e2
    · right; exact ⟨k1, k2⟩
theorem two_ans {len : Nat} {bs : List Nat} {r s : Nat} (h1 : AnsS len bs r) (h2 : AnsS len bs s) : Alike r s := by
  unfold AnsS at h1 h2
  by_cases h : len ≤ 256
  · rw [if_pos h] at h1 h2; exact two_rep h1 h2
  · rw [if_neg h] at h1 h2; subst h1; subst h2; exact .inl ⟨rfl, by decide⟩
theorem fnExactSumOf_walk (a : Option Addr) (len cap : Nat) (bs : List Nat) (w : World) (h : FRow w a len bs) :
    Calls Try.prog 6 #[.slice a len cap] w fun e w' => e = .returned (.bool true) ∧ Below w.heap.size w w' := by
  by_cases hl : len ≤ 1048576
  · have hl' : decide ((1048576 : Int) < len) = false := by simp; omega
    have HL := Lib.hid hl
    have HF := Lib.hid h
    clear h hl
    go_enter Try.func6, Try.ntmps6
    go_wp2_with fail
    refine (toF_made _ _ _ _ _ HF.out HL.out).mono ?_
    rintro e w1 ⟨rfl, m1⟩
    have M1 := Lib.hid m1; clear m1
    go_wp2_with fail
    refine (specSum_post _ _ _ _ HL.out M1.out.cell).mono ?_
    rintro e w2 ⟨r, rfl, q1, d1⟩
    have Q1 := Lib.hid q1; clear q1
    have D1 := Lib.hid d1; clear d1
    go_wp2_with fail
    have b2 : Hid (Below w.heap.size w w2) := Lib.hid ((M1.out.below (Nat.le_refl _)).trans D1.out.below)
    refine (toF_made _ _ _ _ _ (HF.out.later b2.out) HL.out).mono ?_
    rintro e w3 ⟨rfl, m3⟩
    have M3 := Lib.hid m3; clear m3
    go_wp2_with fail
    refine (implSum_post _ _ _ _ HL.out M3.out.cell).mono ?_
    rintro e w4 ⟨s, rfl, q2, d2⟩
    have Q2 := Lib.hid q2; clear q2
    have D2 := Lib.hid d2; clear d2
    have b4 : Hid (Below w.heap.size w w4) := Lib.hid ((b2.out.trans (M3.out.below b2.out.size)).trans D2.out.below)
    have key : ∀ w5, Drew w4 w5 → Calls Try.prog 21 #[.slice a len cap] w5 fun e w' => e = .returned (.slice (some ⟨w5.heap.size, 0, none⟩) len len) ∧ Made w5 w' bs len := fun w5 h5 =>
      toF_made _ _ _ _ _ (HF.out.later (b4.out.trans h5.below)) HL.out
    have KEY := Lib.hid key; clear key
    rcases two_ans Q1.out Q2.out with ⟨he, hk⟩ | ⟨hk1, hk2⟩
    · have hc1 := conv_num r hk
      have hc2 := conv_num s (he ▸ hk)
      have hw := widen_num s (he ▸ hk)
      have HE : Hid (widen s = widen r) := Lib.hid (by rw [he])
      clear he hk
      go_wp2_with fail
      refine (sameFloat_eq _ _ HE.out hw _).mono ?_
      rintro e w5 ⟨rfl, rfl⟩
      go_wp2_with fail
      refine (KEY.out _ ⟨0, rfl⟩).mono ?_
      rintro e w6 ⟨rfl, m6⟩
      have M6 := Lib.hid m6; clear m6
      go_wp2_with fail
      refine (eqF_drew _ _ _ bs _ HL.out ?_ M6.out.cell).mono ?_
      · intro i hi
        rw [(M6.out.below (Nat.le_refl _)).cell (p := ⟨_, i, none⟩) (by show w2.heap.size < w4.heap.size; rw [D2.out.size, M3.out.size]; omega)]
        show w4.cell? _ = _
        rw [D2.out.cell]
        exact M3.out.cell i hi
      rintro e w7 ⟨rfl, d7⟩
      have D7 := Lib.hid d7; clear d7
      go_wp2_with fail
      go_ret
      exact ⟨rfl, (b4.out.trans (M6.out.below b4.out.size)).trans D7.out.below⟩
    · have hc1 := conv_nan r hk1
      have hc2 := conv_nan s hk2
      have hn1 := fun w => nanC64_nan r w
      have hn2 := fun w => nanC64_nan s w
      clear hk1 hk2
      go_wp2_with fail
      refine (sameFloat_nan _ _ (hn2 _) (hn1 _) _).mono ?_
      rintro e w5 ⟨rfl, rfl⟩
      go_wp2_with fail
      refine (KEY.out _ ⟨2, rfl⟩).mono ?_
      rintro e w6 ⟨rfl, m6⟩
      have M6 := Lib.hid m6; clear m6
      go_wp2_with fail
      refine (eqF_drew _ _ _ bs _ HL.out ?_ M6.out.cell).mono ?_
      · intro i hi
        rw [(M6.out.below (Nat.le_refl _)).cell (p := ⟨_, i, none⟩) (by show w2.heap.size < w4.heap.size; rw [D2.out.size, M3.out.size]; omega)]
        show w4.cell? _ = _
        rw [D2.out.cell]
        exact M3.out.cell i hi
      rintro e w7 ⟨rfl, d7⟩
      have D7 := Lib.hid d7; clear d7
      go_wp2_with fail
      go_ret
      exact ⟨rfl, ((b4.out.drew.drew).trans (M6.out.below (B := w.heap.size) b4.out.size)).trans D7.out.below⟩
  · have hl' : decide ((1048576 : Int) < len) = true := by simp; omega
    clear h hl
    go_enter Try.func6, Try.ntmps6
    go_wp2
    go_ret
    exact ⟨rfl, Below.refl _ _⟩
end Go.Proofs.Ytjlghkhadfcfdaa
