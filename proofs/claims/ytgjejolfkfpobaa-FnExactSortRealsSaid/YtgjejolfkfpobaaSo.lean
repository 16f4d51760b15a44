/-
  PLAIN MATHEMATICS: lists of numbers sorted by their places, NaN behind all others.
-/
import Derived.Test.YtgjejolfkfpobaaBits
namespace Go.Proofs.Ytgjejolfkfpobaa.Fl
/-- the place of a number among those that are sorted -/
def skey (a : Nat) : Int := if kd a = 4 then 2139095041 else key a
theorem skey_nan {a : Nat} (h : kd a = 4) : skey a = 2139095041 := if_pos h
theorem skey_num {a : Nat} (h : kd a ≠ 4) : skey a = key a := if_neg h
theorem key_le {a : Nat} (h : kd a ≠ 4) : key a ≤ 2139095040 := by
  have hs : sz a ≤ 2139095040 := by
    rcases Nat.lt_or_ge 2139095040 (sz a) with h1 | h1
    · exfalso; apply h
      unfold kd
      rw [if_neg (by omega), if_neg (by omega), if_neg (by omega), if_neg (by omega)]
    · exact h1
  unfold key; split <;> omega
theorem skey_inj {a b : Nat} (ha : W32 a) (hb : W32 b) (h : skey a = skey b) : (a = b ∧ kd a ≠ 4) ∨ (kd a = 4 ∧ kd b = 4) := by
  by_cases h1 : kd a = 4
  · right
    refine ⟨h1, ?_⟩
    by_cases h2 : kd b = 4
    · exact h2
    · rw [skey_nan h1, skey_num h2] at h
      have := key_le h2
      omega
  · left
    by_cases h2 : kd b = 4
    · rw [skey_nan h2, skey_num h1] at h
      have := key_le h1
      omega
    · rw [skey_num h1, skey_num h2] at h
      refine ⟨?_, h1⟩
      rw [← fromKey_key a ha, ← fromKey_key b hb, h]
/-- ascending -/
def Asc (L : List Nat) : Prop := L.Pairwise fun a b => skey a ≤ skey b
theorem asc_eq {A B : List Nat} (ha : Asc A) (hb : Asc B) (hp : A.Perm B) : A.map skey = B.map skey := by
  have h1 : (A.map skey).Pairwise (· ≤ ·) := List.pairwise_map.2 ha
  have h2 : (B.map skey).Pairwise (· ≤ ·) := List.pairwise_map.2 hb
  exact (hp.map skey).eq_of_pairwise (fun a b _ _ x y => Int.le_antisymm x y) h1 h2
theorem asc_at {L : List Nat} (h : Asc L) {i j : Nat} (hij : i < j) (hj : j < L.length) : skey (L[i]?.getD 0) ≤ skey (L[j]?.getD 0) := by
  have := List.pairwise_iff_getElem.1 h i j (by omega) hj hij
  simpa [List.getElem?_eq_getElem hj, List.getElem?_eq_getElem (show i < L.length by omega)] using this
/-- a number put into a list, ahead of those that it stands before -/
def putAt (L : List Nat) (p x : Nat) : List Nat := L.take p ++ x :: L.drop p
theorem putAt_length (L : List Nat) (p x : Nat) (h : p ≤ L.length) : (putAt L p x).length = L.length + 1 := by
  unfold putAt; simp; omega
theorem putAt_perm (L : List Nat) (p x : Nat) : (putAt L p x).Perm (x :: L) := by
  unfold putAt
  refine List.perm_middle.trans ?_
  rw [List.take_append_drop]
theorem putAt_asc {L : List Nat} {p x : Nat} (h : Asc L) (hp : p ≤ L.length) (h1 : ∀ j, p ≤ j → j < L.length → skey x < skey (L[j]?.getD 0)) (h2 : 0 < p → ¬ skey x < skey (L[p - 1]?.getD 0)) : Asc (putAt L p x) := by
  unfold Asc putAt
  rw [List.pairwise_append, List.pairwise_cons]
  have low : ∀ a ∈ L.take p, skey a ≤ skey x := by
    intro a ha
    obtain ⟨i, hi, rfl⟩ := List.mem_iff_getElem.1 ha
    rw [List.length_take] at hi
    have h3 := h2 (by omega)
    have e : (L.take p)[i]'(by rw [List.length_take]; exact hi) = L[i]?.getD 0 := by
      rw [List.getElem_take, List.getElem?_eq_getElem (by omega)]; rfl
    rw [e]
    rcases Nat.lt_or_ge i (p - 1) with h4 | h4
    · have := asc_at h h4 (by omega)
      omega
    · have : i = p - 1 := by omega
      subst this
      omega
  have high : ∀ b ∈ L.drop p, skey x ≤ skey b := by
    intro b hb
    obtain ⟨i, hi, rfl⟩ := List.mem_iff_getElem.1 hb
    rw [List.length_drop] at hi
    have e : (L.drop p)[i]'(by rw [List.length_drop]; exact hi) = L[p + i]?.getD 0 := by
      rw [List.getElem_drop, List.getElem?_eq_getElem (by omega)]; rfl
    rw [e]
    have := h1 (p + i) (by omega) (by omega)
    omega
  refine ⟨List.Pairwise.take h, ⟨high, List.Pairwise.drop h⟩, fun a ha b hb => ?_⟩
  rcases List.mem_cons.1 hb with rfl | hb
  · exact low a ha
  · have := low a ha
    have := high b hb
    omega
/-- two lists are alike: the same numbers, NaN for NaN -/
def AlikeL (A B : List Nat) (len : Nat) : Prop := ∀ i, i < len → ((A[i]?.getD 0) = (B[i]?.getD 0) ∧ kd (A[i]?.getD 0) ≠ 4) ∨ (kd (A[i]?.getD 0) = 4 ∧ kd (B[i]?.getD 0) = 4)
theorem alike_of {A B : List Nat} (ha : Asc A) (hb : Asc B) (hp : A.Perm B) (wa : ∀ a ∈ A, W32 a) (wb : ∀ b ∈ B, W32 b) : AlikeL A B A.length := by
  have h := asc_eq ha hb hp
  intro i hi
  have hi2 : i < B.length := by rw [← hp.length_eq]; exact hi
  have e : (A.map skey)[i]? = (B.map skey)[i]? := by rw [h]
  rw [List.getElem?_map, List.getElem?_map, List.getElem?_eq_getElem hi, List.getElem?_eq_getElem hi2] at e
  rw [List.getElem?_eq_getElem hi, List.getElem?_eq_getElem hi2]
  exact skey_inj (wa _ (List.getElem_mem hi)) (wb _ (List.getElem_mem hi2)) (Option.some.inj e)
end Go.Proofs.Ytgjejolfkfpobaa.Fl
