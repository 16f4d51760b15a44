/-
  PLAIN MATHEMATICS OF IMAGES: apL keeps what is reduced; images of images.
-/
import Derived.Test.YtdcphheeapmjcaaWco
import Derived.Test.YtdcphheeapmjcaaFgr
namespace Go.Proofs.Ytdcphheeapmjcaa
open Wd
theorem apL_app (G : List (List UInt8)) (x y : List UInt8) : apL G (x ++ y) = apL G x ++ apL G y := by simp [apL, List.flatMap_append]
theorem imgC_oth {G : List (List UInt8)} (h : imgB G = true) {c : UInt8} (hc : isL c = true) : imgC G (oth c) = inv (imgC G c) := by
  have W : ∀ j, j < 4 → inv (inv (G[j]?.getD [])) = G[j]?.getD [] := fun j hj => inv_inv (wordB_lets (imgB_get h j hj))
  rcases lcases hc with rfl | rfl | rfl | rfl | rfl | rfl | rfl | rfl
  · rfl
  · exact (W 0 (by omega)).symm
  · rfl
  · exact (W 1 (by omega)).symm
  · rfl
  · exact (W 2 (by omega)).symm
  · rfl
  · exact (W 3 (by omega)).symm
theorem apL_inv {G : List (List UInt8)} (h : imgB G = true) : ∀ w : List UInt8, (∀ c ∈ w, isL c = true) → apL G (inv w) = inv (apL G w)
  | [], _ => rfl
  | c :: w, hw => by
    have e1 : inv (c :: w) = inv w ++ [oth c] := by simp [inv]
    have e2 : apL G (c :: w) = imgC G c ++ apL G w := by simp [apL]
    rw [e1, apL_snoc, e2, inv_app, imgC_oth h (hw c (by simp)), apL_inv h w (fun x hx => hw x (by simp [hx]))]
theorem oth_letter {c : UInt8} (h : isL c = true) : isL (oth c) = true := by
  rcases lcases h with rfl | rfl | rfl | rfl | rfl | rfl | rfl | rfl <;> rfl
theorem apL_red {G : List (List UInt8)} (h : imgB G = true) (w : List UInt8) : (∀ c ∈ w, isL c = true) → red (apL G (red w)) = red (apL G w) := by
  induction w using snoc_ind with
  | h0 => intro _; rfl
  | h1 w c ih =>
    intro hw
    have hwl : ∀ x ∈ w, isL x = true := fun x hx => hw x (by simp [hx])
    have hc : isL c = true := hw c (by simp)
    have IH := ih hwl
    have e1 : red (apL G (w ++ [c])) = red (apL G (red w) ++ imgC G c) := by
      rw [apL_snoc, ← red_app, ← IH, red_app]
    rw [e1, red_snoc]
    by_cases hl : (red w).getLast? = some (oth c)
    · rw [redS_pop hl]
      obtain ⟨x, hx⟩ : ∃ x, red w = x ++ [oth c] := List.getLast?_eq_some_iff.1 hl
      rw [hx, List.dropLast_concat, apL_snoc, imgC_oth h hc]
      have hu : ∀ y ∈ inv (imgC G c), isL y = true := inv_letters (imgC_lets h hc)
      have := red_mid (a := apL G x) (u := inv (imgC G c)) [] hu
      rw [inv_inv (imgC_lets h hc), List.append_nil, List.append_nil, ← List.append_assoc] at this
      exact this.symm
    · rw [redS_push hl, apL_snoc]
theorem red_inv_red {v : List UInt8} (hv : ∀ c ∈ v, isL c = true) : red (inv (red v)) = red (inv v) := by
  have hr := red_letters hv
  have e1 : red (inv (red v)) = red (inv (red v) ++ (v ++ inv v)) := by
    have := red_mid (a := inv (red v)) (u := v) [] hv
    rw [List.append_nil, List.append_nil] at this
    exact this.symm
  have e2 : red (inv (red v) ++ v) = [] := by
    rw [← red_left hv]
    have := red_inv (u := inv (red v)) (inv_letters hr)
    rw [inv_inv hr] at this
    exact this
  rw [e1, ← List.append_assoc, ← red_app, e2, List.nil_append]
/-- images of images -/
theorem apL_cmT {F G : List (List UInt8)} (hF : imgB F = true) (hG : imgB G = true) (u : List UInt8) : (∀ c ∈ u, isL c = true) → red (apL (cmT F G) u) = red (apL G (apL F u)) := by
  induction u using snoc_ind with
  | h0 => intro _; rfl
  | h1 u c ih =>
    intro hu
    have hc : isL c = true := hu c (by simp)
    have IH := ih fun x hx => hu x (by simp [hx])
    have h4 := imgB_len hF
    have key : red (imgC (cmT F G) c) = red (apL G (imgC F c)) := by
      obtain ⟨j, hj, e⟩ := lnum_two hc
      have hjF : j < F.length := by omega
      have e4 : (cmT F G)[j]?.getD [] = red (apL G (F[j]?.getD [])) := by
        simp [cmT, hjF]
      have hw := wordB_lets (imgB_get hF j hj)
      rcases e with e | e
      · unfold imgC
        rw [e, show (2 * (j : Int)).toNat = 2 * j by omega, if_pos (by omega), if_pos (by omega), show 2 * j / 2 = j by omega, e4, red_red]
      · unfold imgC
        rw [e, show (2 * (j : Int) + 1).toNat = 2 * j + 1 by omega, if_neg (by omega), if_neg (by omega), show (2 * j + 1) / 2 = j by omega, e4, red_inv_red (apL_lets hG hw)]
        have := apL_inv hG _ hw
        rw [← this]
    have hlM : ∀ x ∈ imgC (cmT F G) c, isL x = true := by
      obtain ⟨j, hj, e⟩ := lnum_two hc
      have hjF : j < F.length := by omega
      have e4 : (cmT F G)[j]?.getD [] = red (apL G (F[j]?.getD [])) := by simp [cmT, hjF]
      have hl := red_letters (apL_lets hG (wordB_lets (imgB_get hF j hj)))
      rcases e with e | e
      · unfold imgC
        rw [e, show (2 * (j : Int)).toNat = 2 * j by omega, if_pos (by omega), show 2 * j / 2 = j by omega, e4]
        exact hl
      · unfold imgC
        rw [e, show (2 * (j : Int) + 1).toNat = 2 * j + 1 by omega, if_neg (by omega), show (2 * j + 1) / 2 = j by omega, e4]
        exact inv_letters hl
    have hlG : ∀ x ∈ apL G (imgC F c), isL x = true := apL_lets hG (imgC_lets hF hc)
    rw [apL_snoc, ← red_app, IH, red_app, ← red_left hlM, key, red_left hlG, apL_snoc, apL_app]
end Go.Proofs.Ytdcphheeapmjcaa
