/-
  BOTH SUMS FROM LEFT TO RIGHT, at every length.
-/
import Derived.Test.YtjlghkhadfcfdaaSum2
import Derived.Test.YtjlghkhadfcfdaaWorlds
namespace Go.Proofs.Ytjlghkhadfcfdaa
open Go.ChangeShapes Go.WideShapes Go.ChangeAt Go.RowKit Go.Deep
open Fl
def codeS (len : Nat) : Int := if len ≤ 256 then 0 else 3
def AnsS (len : Nat) (bs : List Nat) (r : Nat) : Prop := if len ≤ 256 then rep (sumK (fun i => bs[i]?.getD 0) len) r else r = 0
def SumPost (len : Nat) (bs : List Nat) (w : World) (e : Ending) (w' : World) : Prop :=
  ∃ r, e = .returned (.tuple #[.float .f32 r, .int .i64 (codeS len)]) ∧ AnsS len bs r ∧ Drew w w'
theorem specSum_post (x len : Nat) (bs : List Nat) (w : World) (hl : len ≤ 1048576)
    (hx : ∀ i, i < len → w.cell? ⟨x, i, none⟩ = some (.float .f32 (bs[i]?.getD 0))) :
    Calls Try.prog 20 #[.slice (some ⟨x, 0, none⟩) len len] w (SumPost len bs w) := by
  by_cases h : len ≤ 256
  · exact (specSum_any x len bs w h hx).mono fun e w' ⟨r, h1, h2, h3⟩ => ⟨r, by rw [h1, codeS, if_pos h], by rw [AnsS, if_pos h]; exact h2, h3⟩
  · have hb : decide ((256 : Int) < len) = true := by simp; omega
    have hl' : (len : Int) ≤ 1048576 := by omega
    have h2 : 256 < len := by omega
    have H := Lib.hid h2
    clear hx h h2
    go_enter Try.func20, Try.ntmps20
    go_wp2
    go_ret2
    exact ⟨0, by rw [codeS, if_neg (by have := H.out; omega)]; rfl, by rw [AnsS, if_neg (by have := H.out; omega)], 0, rfl⟩
theorem implSum_post (x len : Nat) (bs : List Nat) (w : World) (hl : len ≤ 1048576)
    (hx : ∀ i, i < len → w.cell? ⟨x, i, none⟩ = some (.float .f32 (bs[i]?.getD 0))) :
    Calls Try.prog 22 #[.slice (some ⟨x, 0, none⟩) len len] w (SumPost len bs w) := by
  by_cases h : len ≤ 256
  · rcases len with _ | n
    · exact (implSum_zero x w).mono fun e w' ⟨h1, h2⟩ => ⟨0, by rw [h1, codeS, if_pos h], by rw [AnsS, if_pos h]; exact .inl ⟨rfl, by decide⟩, 0, h2.symm⟩
    · by_cases hn : n = 0
      · subst hn
        exact (implSum_one x _ w (hx 0 (by omega))).mono fun e w' ⟨h1, h2⟩ => ⟨bs[0]?.getD 0, by rw [h1, codeS, if_pos h], by rw [AnsS, if_pos h]; exact rep_st _, 0, h2.symm⟩
      · exact (implSum_many x n (fun i => bs[i]?.getD 0) w (by omega) (by omega) hx).mono fun e w' ⟨r, h1, h2, h3⟩ => ⟨r, by rw [h1, codeS, if_pos h], by rw [AnsS, if_pos h]; exact h2, h3⟩
  · have hb : decide ((256 : Int) < len) = true := by simp; omega
    have hl' : (len : Int) ≤ 1048576 := by omega
    have h2 : 256 < len := by omega
    have H := Lib.hid h2
    clear hx h h2
    go_enter Try.func22, Try.ntmps22
    go_wp2
    go_ret2
    exact ⟨0, by rw [codeS, if_neg (by have := H.out; omega)]; rfl, by rw [AnsS, if_neg (by have := H.out; omega)], 0, rfl⟩
/-- two answers that stand for one sum are the same, or both NaN -/
theorem two_rep {acc : Option Nat} {r s : Nat} (h1 : rep acc r) (h2 : rep acc s) : Alike r s := by
  rcases h1 with ⟨e1, k1⟩ | ⟨e1, k1⟩
  · rcases h2 with ⟨e2, k2⟩ | ⟨e2, _⟩
    · left; rw [e1] at e2; cases e2; exact ⟨rfl, k1⟩
    · rw [e1] at e2; cases e2
  · rcases h2 with ⟨e2, _⟩ | ⟨_, k2⟩
    · rw [e1] at e2; cases e2
    · right; exact ⟨k1, k2⟩
theorem two_ans {len : Nat} {bs : List Nat} {r s : Nat} (h1 : AnsS len bs r) (h2 : AnsS len bs s) : Alike r s := by
  unfold AnsS at h1 h2
  by_cases h : len ≤ 256
  · rw [if_pos h] at h1 h2; exact two_rep h1 h2
  · rw [if_neg h] at h1 h2; subst h1; subst h2; exact .inl ⟨rfl, by decide⟩
end Go.Proofs.Ytjlghkhadfcfdaa
