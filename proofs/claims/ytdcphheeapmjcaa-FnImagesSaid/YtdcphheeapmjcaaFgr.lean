/-
  PLAIN MATHEMATICS OF THE FREE GROUP: joining, inverses, sums, parity.
-/
import Derived.Test.YtdcphheeapmjcaaGa
import Derived.Test.YtdcphheeapmjcaaWls
namespace Go.Proofs.Ytdcphheeapmjcaa.Wd
theorem snoc_ind {α : Type} {p : List α → Prop} (h0 : p []) (h1 : ∀ l a, p l → p (l ++ [a])) (l : List α) : p l := by
  have H : ∀ (n : Nat) (l : List α), l.length = n → p l := by
    intro n
    induction n with
    | zero => intro l hl; rw [List.length_eq_zero_iff.1 hl]; exact h0
    | succ n ih =>
      intro l hl
      have hne : l ≠ [] := by intro e; rw [e] at hl; cases hl
      have := h1 l.dropLast (l.getLast hne) (ih _ (by simp [hl]))
      rwa [List.dropLast_concat_getLast] at this
  exact H l.length l rfl
theorem NI_last {d : List UInt8} {x y : UInt8} (h : NI (d ++ [x])) (hy : d.getLast? = some y) : y ≠ oth x := by
  obtain ⟨ys, rfl⟩ := List.getLast?_eq_some_iff.1 hy
  exact h ys.length y x (by simp) (by simp)
theorem redS_back {out : List UInt8} (h : NI out) {c : UInt8} (hc : isL c = true) : redS (redS out c) (oth c) = out := by
  by_cases hl : out.getLast? = some (oth c)
  · have e : redS out c = out.dropLast := if_pos hl
    obtain ⟨d, rfl⟩ := List.getLast?_eq_some_iff.1 hl
    rw [e, List.dropLast_concat]
    unfold redS
    rw [if_neg fun h2 => NI_last h h2 rfl]
  · have e : redS out c = out ++ [c] := if_neg hl
    rw [e]
    unfold redS
    rw [if_pos (by simp [oth_oth hc])]
    simp
theorem red_right (v : List UInt8) : (∀ c ∈ v, isL c = true) → ∀ x : List UInt8, NI x → (red v).foldl redS x = v.foldl redS x := by
  refine snoc_ind (p := fun v => (∀ c ∈ v, isL c = true) → ∀ x : List UInt8, NI x → (red v).foldl redS x = v.foldl redS x) ?_ ?_ v
  · intro _ x _; simp [red]
  · intro v c ih hv x hx
    have ihv := ih (fun d hd => hv d (by simp [hd])) x hx
    have hc := hv c (by simp)
    rw [red_snoc, List.foldl_append, ← ihv]
    by_cases hl : (red v).getLast? = some (oth c)
    · have e : redS (red v) c = (red v).dropLast := if_pos hl
      obtain ⟨d, hd⟩ := List.getLast?_eq_some_iff.1 hl
      rw [e, hd, List.dropLast_concat, List.foldl_append]
      show d.foldl redS x = redS (redS (d.foldl redS x) (oth c)) c
      have := redS_back (NI_foldl d x hx) (oth_isL hc)
      rw [oth_oth hc] at this
      exact this.symm
    · have e : redS (red v) c = red v ++ [c] := if_neg hl
      rw [e, List.foldl_append]
theorem red_left {v : List UInt8} (hv : ∀ c ∈ v, isL c = true) (u : List UInt8) : red (u ++ red v) = red (u ++ v) := by
  rw [red_cat, red_cat, red_right v hv _ (NI_red u)]
theorem inv_snoc (u : List UInt8) (c : UInt8) : inv (u ++ [c]) = oth c :: inv u := by simp [inv]
theorem inv_app (a b : List UInt8) : inv (a ++ b) = inv b ++ inv a := by simp [inv]
theorem inv_inv {l : List UInt8} (h : ∀ c ∈ l, isL c = true) : inv (inv l) = l := by
  unfold inv
  rw [← List.map_reverse, List.reverse_reverse, List.map_map]
  conv => rhs; rw [← List.map_id l]
  exact List.map_congr_left fun c hc => oth_oth (h c hc)
theorem fold_inv (u : List UInt8) : (∀ c ∈ u, isL c = true) → ∀ x : List UInt8, NI x → (u ++ inv u).foldl redS x = x := by
  refine snoc_ind (p := fun u => (∀ c ∈ u, isL c = true) → ∀ x : List UInt8, NI x → (u ++ inv u).foldl redS x = x) ?_ ?_ u
  · intro _ x _; rfl
  · intro u c ih hu x hx
    have hc := hu c (by simp)
    have := ih (fun d hd => hu d (by simp [hd])) x hx
    rw [List.foldl_append] at this
    rw [inv_snoc, List.foldl_append, List.foldl_append]
    show (inv u).foldl redS (redS (redS (u.foldl redS x) c) (oth c)) = x
    rw [redS_back (NI_foldl u x hx) hc]
    exact this
theorem red_inv {u : List UInt8} (hu : ∀ c ∈ u, isL c = true) : red (u ++ inv u) = [] := fold_inv u hu [] NI_nil
/-- what stands between a word and its inverse falls out -/
theorem red_mid {a u : List UInt8} (b : List UInt8) (hu : ∀ c ∈ u, isL c = true) : red (a ++ (u ++ inv u) ++ b) = red (a ++ b) := by
  rw [red_cat, red_cat a b, red_cat a, fold_inv u hu _ (NI_red a)]
theorem red_even (l : List UInt8) : ∃ k, l.length = (red l).length + 2 * k := by
  refine snoc_ind (p := fun l => ∃ k, l.length = (red l).length + 2 * k) ?_ ?_ l
  · exact ⟨0, rfl⟩
  · rintro l c ⟨k, hk⟩
    rw [red_snoc]
    by_cases hl : (red l).getLast? = some (oth c)
    · have e : redS (red l) c = (red l).dropLast := if_pos hl
      obtain ⟨d, hd⟩ := List.getLast?_eq_some_iff.1 hl
      rw [e, hd]
      rw [hd] at hk
      refine ⟨k + 1, ?_⟩
      simp at hk ⊢
      omega
    · have e : redS (red l) c = red l ++ [c] := if_neg hl
      rw [e]
      exact ⟨k, by simp; omega⟩
theorem powR_letters' {l : List UInt8} (h : ∀ c ∈ l, isL c = true) (n : Nat) : ∀ c ∈ rep l n, isL c = true := rep_letters h n
theorem rep_add (l : List UInt8) (a b : Nat) : rep l (a + b) = rep l a ++ rep l b := by
  induction b with
  | zero => simp [rep]
  | succ b ih => show rep l (a + b) ++ l = _; rw [ih]; simp [rep]
end Go.Proofs.Ytdcphheeapmjcaa.Wd
namespace Go.Proofs.Ytdcphheeapmjcaa
open Wd
theorem dlt_oth {c : UInt8} (hc : isL c = true) (j : Nat) : dlt (oth c) j = - dlt c j := by
  rcases lcases hc with rfl | rfl | rfl | rfl | rfl | rfl | rfl | rfl <;> (simp [dlt, lnum, oth]; try split <;> rfl)
theorem sumL_app (a b : List UInt8) (j : Nat) : sumL (a ++ b) j = sumL a j + sumL b j := by
  refine snoc_ind (p := fun b => sumL (a ++ b) j = sumL a j + sumL b j) ?_ ?_ b
  · simp [sumL]
  · intro b c ih
    rw [← List.append_assoc, sumL_snoc, ih, sumL_snoc, Int.add_assoc]
theorem sumL_red (l : List UInt8) (j : Nat) : (∀ c ∈ l, isL c = true) → sumL (red l) j = sumL l j := by
  refine snoc_ind (p := fun l => (∀ c ∈ l, isL c = true) → sumL (red l) j = sumL l j) ?_ ?_ l
  · intro _; rfl
  · intro l c ih hl
    have i1 := ih fun d hd => hl d (by simp [hd])
    have hc := hl c (by simp)
    rw [red_snoc, sumL_snoc, ← i1]
    by_cases h : (red l).getLast? = some (oth c)
    · have e : redS (red l) c = (red l).dropLast := if_pos h
      obtain ⟨d, hd⟩ := List.getLast?_eq_some_iff.1 h
      rw [e, hd, List.dropLast_concat, sumL_snoc, dlt_oth hc]
      omega
    · have e : redS (red l) c = red l ++ [c] := if_neg h
      rw [e, sumL_snoc]
/-- powers are joined, at the exponents that the law draws -/
theorem pow_join {u : List UInt8} (hu : ∀ c ∈ u, isL c = true) {n m : Int} (hn : 0 ≤ n) (hm : -1 ≤ m) (hm1 : m ≤ 1) :
    red (powR (if n < 0 then inv u else u) n.natAbs ++ powR (if m < 0 then inv u else u) m.natAbs) = powR (if n + m < 0 then inv u else u) (n + m).natAbs := by
  rw [powR_rep, powR_rep, powR_rep, if_neg (by omega)]
  by_cases h1 : m < 0
  · obtain rfl : m = -1 := by omega
    rw [if_pos (by omega), red_app]
    have hi := inv_letters hu
    have e : rep (inv u) (-1 : Int).natAbs = inv u := by simp [rep]
    rw [e, red_left hi]
    by_cases h0 : n = 0
    · subst h0
      rw [if_pos (by omega)]
      show red ([] ++ inv u) = red ([] ++ inv u)
      rfl
    · rw [if_neg (by omega)]
      obtain ⟨k, rfl⟩ : ∃ k : Nat, n = (k : Int) + 1 := ⟨(n - 1).toNat, by omega⟩
      rw [show ((k : Int) + 1).natAbs = k + 1 by omega, show ((k : Int) + 1 + -1).natAbs = k by omega]
      show red (rep u k ++ u ++ inv u) = red (rep u k)
      have := red_mid (a := rep u k) (u := u) [] hu
      simpa using this
  · rw [if_neg h1, if_neg (by omega), red_app, red_left (rep_letters hu _), ← rep_add, show n.natAbs + m.natAbs = (n + m).natAbs by omega]
end Go.Proofs.Ytdcphheeapmjcaa
