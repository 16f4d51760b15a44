/-
  THE SORT OF POINTS: from the shelf's words to rows that the call owns.
-/
import Derived.Test.YthfmkejdpflpcaaJo
import Derived.Shelf.SlSortCmp.InsertionK
namespace Go.Proofs.Ythfmkejdpflpcaa
open Go.ChangeShapes Go.WideShapes Go.ChangeAt Go.RowKit Go.Proofs
def encP (c : Int × Int) : List Value := two c.1 c.2
def cfP (a b : Int × Int) : Int := cmpR a.1 a.2 b.1 b.2
theorem ltP_cf (a b : Int × Int) : Go.Proofs.ltOf cfP a b = true ↔ ltP a b := by
  unfold Go.Proofs.ltOf cfP ltP
  rw [decide_eq_true_iff, cmpR_less]
  unfold lessB
  simp only [Bool.or_eq_true, Bool.and_eq_true, decide_eq_true_eq]
theorem swoP : Go.Sort.SWO (Go.Proofs.ltOf cfP) where
  irrefl x := by
    cases h : Go.Proofs.ltOf cfP x x with
    | false => rfl
    | true => rw [ltP_cf] at h; unfold ltP at h; omega
  trans x y z h1 h2 := by rw [ltP_cf] at *; unfold ltP at *; omega
  ntrans x y z h1 h2 := by
    cases h : Go.Proofs.ltOf cfP x z with
    | false => rfl
    | true =>
      have e1 : ¬ ltP x y := fun h => by rw [← ltP_cf, h1] at h; cases h
      have e2 : ¬ ltP y z := fun h => by rw [← ltP_cf, h2] at h; cases h
      rw [ltP_cf] at h
      unfold ltP at *
      omega
theorem ptsV_len (L : List (Int × Int)) : (ptsV L).length = 2 * L.length := by
  induction L with
  | nil => rfl
  | cons c L ih =>
    show (two c.1 c.2 ++ ptsV L).length = _
    rw [List.length_append, ih]
    simp [two]
    omega
theorem ptsV_at : ∀ (L : List (Int × Int)) (t : Nat), t < 2 * L.length → (ptsV L)[t]? = some ((encP L.toArray[t / 2]!)[t % 2]!)
  | [], t, h => absurd h (by simp)
  | c :: L, t, h => by
    show (two c.1 c.2 ++ ptsV L)[t]? = _
    match t, h with
    | 0, _ => rfl
    | 1, _ => rfl
    | t + 2, h =>
      rw [List.getElem?_append_right (by simp [two])]
      have e : t + 2 - (two c.1 c.2).length = t := by simp [two]
      rw [e, ptsV_at L t (by simp at h; omega)]
      have e1 : (t + 2) / 2 = t / 2 + 1 := by omega
      have e2 : (t + 2) % 2 = t % 2 := by omega
      have e3 : t / 2 < L.length := by simp at h; omega
      rw [e1, e2]
      simp [e3]
theorem flatK_pts (L : List (Int × Int)) : (Go.Sort.flatK encP 2 L.toArray).toList = ptsV L := by
  apply List.ext_getElem?
  intro t
  by_cases ht : t < 2 * L.length
  · rw [ptsV_at L t ht]
    have h1 : t < (Go.Sort.flatK encP 2 L.toArray).size := by simp; omega
    have h2 := Go.Sort.get_flatK encP 2 L.toArray t (by simp; omega)
    rw [getElem!_pos _ t h1] at h2
    rw [Array.getElem?_toList, Array.getElem?_eq_getElem h1, h2]
  · rw [List.getElem?_eq_none (by simp; omega), List.getElem?_eq_none (by rw [ptsV_len]; omega)]
end Go.Proofs.Ythfmkejdpflpcaa
