/-
  THE CELLS OF A PICTURE: the specification's list is in order, and holds what the blocks hold.
-/
import Derived.Test.YthfmkejdpflpcaaJe
import Derived.Test.YthfmkejdpflpcaaJc
namespace Go.Proofs.Ythfmkejdpflpcaa
open Go.ChangeShapes Go.WideShapes Go.ChangeAt Go.RowKit
def ltP (a b : Int × Int) : Prop := a.2 < b.2 ∨ a.2 = b.2 ∧ a.1 < b.1
/-- the first y rows of the block k -/
def colL (f : Nat → Int) (k : Nat) : Nat → List (Int × Int)
  | 0 => []
  | y + 1 => colL f k y ++ pxL f k y 16
/-- the cells of the first blocks, block by block -/
def blL (f : Nat → Int) : Nat → List (Int × Int)
  | 0 => []
  | k + 1 => blL f k ++ colL f k 16
theorem gpL_nil (f : Nat → Int) (i : Nat) : ∀ y, gpL f i 0 y = []
  | 0 => rfl
  | y + 1 => by
    show gpL f i 0 y ++ [] = []
    rw [List.append_nil]
    exact gpL_nil f i y
theorem gp_perm (f : Nat → Int) (i d : Nat) : ∀ y, (gpL f i (d + 1) y).Perm (gpL f i d y ++ colL f (i + d) y)
  | 0 => List.Perm.refl _
  | y + 1 => by
    have ih := gp_perm f i d y
    show (gpL f i (d + 1) y ++ (rwL f i y d ++ pxL f (i + d) y 16)).Perm ((gpL f i d y ++ rwL f i y d) ++ (colL f (i + d) y ++ pxL f (i + d) y 16))
    refine (List.Perm.append_right _ ih).trans ?_
    rw [List.append_assoc, List.append_assoc]
    refine List.Perm.append_left _ ?_
    rw [← List.append_assoc, ← List.append_assoc]
    exact List.Perm.append_right _ List.perm_append_comm
theorem gp_all (f : Nat → Int) (i : Nat) : ∀ d, (blL f i ++ gpL f i d 16).Perm (blL f (i + d))
  | 0 => by rw [gpL_nil, List.append_nil]; exact List.Perm.refl _
  | d + 1 => by
    have ih := gp_all f i d
    refine (List.Perm.append_left _ (gp_perm f i d 16)).trans ?_
    rw [← List.append_assoc]
    exact List.Perm.append_right _ ih
theorem GL.perm {f : Nat → Int} {n i : Nat} {A : List (Int × Int)} (h : GL f n i A) : A.Perm (blL f i) := by
  induction h with
  | zero => exact List.Perm.refl _
  | @next i d A _ _ _ _ _ ih => exact (List.Perm.append_right _ ih).trans (gp_all f i d)
/-! in order -/
theorem px_in {f : Nat → Int} {k y : Nat} : ∀ {x : Nat} {c : Int × Int}, c ∈ pxL f k y x → c.2 = 16 * f (k * 18 + 1) + (y : Int) ∧ 16 * f (k * 18) ≤ c.1 ∧ c.1 < 16 * f (k * 18) + (x : Int)
  | 0, c, h => absurd h List.not_mem_nil
  | x + 1, c, h => by
    cases hx : hasF (mkF f k) x y with
    | true =>
      rw [pxL_yes hx, List.mem_append, List.mem_singleton] at h
      rcases h with h | rfl
      · have := px_in h
        refine ⟨this.1, this.2.1, ?_⟩
        have := this.2.2
        omega
      · refine ⟨rfl, ?_, ?_⟩ <;> dsimp only <;> omega
    | false =>
      rw [pxL_no hx] at h
      have := px_in h
      refine ⟨this.1, this.2.1, ?_⟩
      have := this.2.2
      omega
theorem px_asc (f : Nat → Int) (k y : Nat) : ∀ x, (pxL f k y x).Pairwise ltP
  | 0 => List.Pairwise.nil
  | x + 1 => by
    have ih := px_asc f k y x
    cases hx : hasF (mkF f k) x y with
    | true =>
      rw [pxL_yes hx, List.pairwise_append]
      refine ⟨ih, List.pairwise_singleton _ _, fun a ha b hb => ?_⟩
      rw [List.mem_singleton] at hb
      subst hb
      have := px_in ha
      exact .inr ⟨this.1, this.2.2⟩
    | false => rw [pxL_no hx]; exact ih
theorem rw_in {f : Nat → Int} {i y : Nat} : ∀ {j : Nat} {c : Int × Int}, c ∈ rwL f i y j → ∃ k, k < j ∧ c.2 = 16 * f ((i + k) * 18 + 1) + (y : Int) ∧ 16 * f ((i + k) * 18) ≤ c.1 ∧ c.1 < 16 * f ((i + k) * 18) + 16
  | 0, c, h => absurd h List.not_mem_nil
  | j + 1, c, h => by
    have h2 : c ∈ rwL f i y j ++ pxL f (i + j) y 16 := h
    rw [List.mem_append] at h2
    rcases h2 with h | h
    · obtain ⟨k, hk, h⟩ := rw_in h
      exact ⟨k, by omega, h⟩
    · have := px_in h
      exact ⟨j, by omega, this.1, this.2.1, this.2.2⟩
theorem rw_asc {f : Nat → Int} {n i d y : Nat} (hv : validP f n = true) (hd : i + d ≤ n) (hs : ∀ k, k < d → f ((i + k) * 18 + 1) = f (i * 18 + 1)) : ∀ j, j ≤ d → (rwL f i y j).Pairwise ltP
  | 0, _ => List.Pairwise.nil
  | j + 1, hj => by
    show (rwL f i y j ++ pxL f (i + j) y 16).Pairwise ltP
    rw [List.pairwise_append]
    refine ⟨rw_asc hv hd hs j (by omega), px_asc f (i + j) y 16, fun a ha b hb => ?_⟩
    obtain ⟨k, hk, h1, h2, h3⟩ := rw_in ha
    have h4 := px_in hb
    have h5 := less_all (i := i + k) hv (i + j) (by omega) (by omega)
    have h6 := hs k (by omega)
    have h7 := hs j (by omega)
    refine .inr ⟨?_, ?_⟩
    · rw [h1, h4.1, h6, h7]
    · have := h4.2.1
      omega
theorem gp_in {f : Nat → Int} {i d : Nat} (hs : ∀ k, k < d → f ((i + k) * 18 + 1) = f (i * 18 + 1)) : ∀ {y : Nat} {c : Int × Int}, c ∈ gpL f i d y → 16 * f (i * 18 + 1) ≤ c.2 ∧ c.2 < 16 * f (i * 18 + 1) + (y : Int)
  | 0, c, h => absurd h List.not_mem_nil
  | y + 1, c, h => by
    have h2 : c ∈ gpL f i d y ++ rwL f i y d := h
    rw [List.mem_append] at h2
    rcases h2 with h | h
    · have := gp_in hs h
      omega
    · obtain ⟨k, hk, h1, _, _⟩ := rw_in h
      have := hs k hk
      omega
theorem gp_asc {f : Nat → Int} {n i d : Nat} (hv : validP f n = true) (hd : i + d ≤ n) (hs : ∀ k, k < d → f ((i + k) * 18 + 1) = f (i * 18 + 1)) : ∀ y, (gpL f i d y).Pairwise ltP
  | 0 => List.Pairwise.nil
  | y + 1 => by
    show (gpL f i d y ++ rwL f i y d).Pairwise ltP
    rw [List.pairwise_append]
    refine ⟨gp_asc hv hd hs y, rw_asc hv hd hs d (Nat.le_refl _), fun a ha b hb => ?_⟩
    have h1 := gp_in hs ha
    obtain ⟨k, hk, h2, _, _⟩ := rw_in hb
    have := hs k hk
    exact .inl (by omega)
theorem GL.edge {f : Nat → Int} {n i : Nat} {A : List (Int × Int)} (h : GL f n i A) : i = 0 ∨ i = n ∨ ∃ j, j < i ∧ (∀ k, j ≤ k → k < i → f (k * 18 + 1) = f (j * 18 + 1)) ∧ f (i * 18 + 1) ≠ f (j * 18 + 1) := by
  cases h with
  | zero => exact .inl rfl
  | @next i d A _ h1 h2 h3 h4 =>
    rcases h4 with h4 | h4
    · exact .inr (.inl h4)
    · refine .inr (.inr ⟨i, by omega, fun k hk hk2 => ?_, h4⟩)
      obtain ⟨m, rfl⟩ : ∃ m, k = i + m := ⟨k - i, by omega⟩
      exact h3 m (by omega)
theorem GL.asc {f : Nat → Int} {n i : Nat} {A : List (Int × Int)} (hv : validP f n = true) (h : GL f n i A) : A.Pairwise ltP ∧ ∀ c ∈ A, ∃ k, k < i ∧ c.2 < 16 * f (k * 18 + 1) + 16 := by
  induction h with
  | zero => exact ⟨List.Pairwise.nil, fun c h => absurd h List.not_mem_nil⟩
  | @next i d A hA h1 h2 h3 h4 ih =>
    refine ⟨?_, fun c hc => ?_⟩
    · rw [List.pairwise_append]
      refine ⟨ih.1, gp_asc hv h2 h3 16, fun a ha b hb => .inl ?_⟩
      obtain ⟨k, hk, hka⟩ := ih.2 a ha
      have hb2 := gp_in h3 hb
      have hki : f (k * 18 + 1) < f (i * 18 + 1) := by
        rcases hA.edge with h | h | ⟨j, hj, hjs, hjn⟩
        · omega
        · omega
        · have hji := less_all (i := j) hv i hj (by omega)
          rcases Nat.lt_or_ge k j with h | h
          · have hkj := less_all (i := k) hv j h (by omega)
            omega
          · have := hjs k h hk
            omega
      omega
    · rw [List.mem_append] at hc
      rcases hc with hc | hc
      · obtain ⟨k, hk, h⟩ := ih.2 c hc
        exact ⟨k, by omega, h⟩
      · exact ⟨i, by omega, by have := gp_in h3 hc; omega⟩
end Go.Proofs.Ythfmkejdpflpcaa
