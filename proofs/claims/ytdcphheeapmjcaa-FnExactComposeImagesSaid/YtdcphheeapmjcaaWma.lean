/-
  PLAIN MATHEMATICS OF REDUCED WORDS: reduced once more, joined, repeated; the length tells.
-/
import Derived.Test.YtdcphheeapmjcaaWdp
namespace Go.Proofs.Ytdcphheeapmjcaa.Wd
/-- no letter stands beside its inverse -/
def NI (l : List UInt8) : Prop := ∀ (i : Nat) (c d : UInt8), l[i]? = some c → l[i + 1]? = some d → c ≠ oth d
theorem NI_nil : NI [] := by intro i c d h; simp at h
theorem NI_redS {out : List UInt8} {c : UInt8} (h : NI out) : NI (redS out c) := by
  unfold redS
  split
  · intro i a b ha hb
    rw [List.getElem?_dropLast] at ha hb
    split at hb
    · split at ha
      · exact h i a b ha hb
      · cases ha
    · cases hb
  · rename_i hne
    intro i a b ha hb
    by_cases h1 : i + 1 < out.length
    · rw [List.getElem?_append_left (by omega)] at ha
      rw [List.getElem?_append_left h1] at hb
      exact h i a b ha hb
    · rw [List.getElem?_append_right (by omega)] at hb
      have e : i + 1 - out.length = 0 := by
        by_cases h2 : i + 1 - out.length = 0
        · exact h2
        · rw [List.getElem?_eq_none (by simp; omega)] at hb; cases hb
      rw [e] at hb
      obtain rfl : c = b := by simpa using hb
      rw [List.getElem?_append_left (by omega)] at ha
      rintro rfl
      apply hne
      rw [List.getLast?_eq_getElem?, show out.length - 1 = i by omega]
      exact ha
theorem NI_foldl (l out : List UInt8) (h : NI out) : NI (l.foldl redS out) := by
  induction l generalizing out with
  | nil => exact h
  | cons c r ih => exact ih _ (NI_redS h)
theorem NI_red (l : List UInt8) : NI (red l) := NI_foldl l [] NI_nil
theorem red_of_NI {l : List UInt8} (h : NI l) : red l = l := by
  have H : ∀ k, k ≤ l.length → red (l.take k) = l.take k := by
    intro k
    induction k with
    | zero => intro _; simp [red]
    | succ k ih =>
      intro hk
      rw [red_take l k (by omega), ih (by omega), take_snoc l k (by omega)]
      unfold redS
      rw [if_neg]
      intro e
      rw [List.getLast?_eq_getElem?, List.length_take, Nat.min_eq_left (by omega)] at e
      cases k with
      | zero => simp at e
      | succ j =>
        rw [Nat.add_sub_cancel, List.getElem?_take_of_lt (by omega)] at e
        exact h j _ _ e (List.getElem?_eq_getElem (by omega)) rfl
  have := H l.length (Nat.le_refl _)
  rwa [List.take_length] at this
theorem red_red (l : List UInt8) : red (red l) = red l := red_of_NI (NI_red l)
theorem red_cat (a b : List UInt8) : red (a ++ b) = b.foldl redS (red a) := by simp [red, List.foldl_append]
theorem red_app (a b : List UInt8) : red (red a ++ b) = red (a ++ b) := by rw [red_cat, red_red, red_cat]
/-- so many times behind itself -/
def rep (l : List UInt8) : Nat → List UInt8
  | 0 => []
  | n + 1 => rep l n ++ l
theorem rep_length (l : List UInt8) (n : Nat) : (rep l n).length = n * l.length := by
  induction n with
  | zero => simp [rep]
  | succ n ih => simp [rep, ih, Nat.succ_mul]
theorem rep_letters {l : List UInt8} (h : ∀ c ∈ l, isL c = true) (n : Nat) : ∀ c ∈ rep l n, isL c = true := by
  induction n with
  | zero => simp [rep]
  | succ n ih => intro c hc; exact (List.mem_append.1 hc).elim (ih c) (h c)
theorem redS_len_eq {out : List UInt8} {c : UInt8} (h : (redS out c).length = out.length + 1) : redS out c = out ++ [c] := by
  unfold redS at h ⊢
  split
  · rename_i e; rw [if_pos e, List.length_dropLast] at h; omega
  · rfl
theorem foldl_length (l out : List UInt8) : (l.foldl redS out).length ≤ out.length + l.length := by
  induction l generalizing out with
  | nil => simp
  | cons c r ih =>
    have h1 := ih (redS out c)
    have h2 := redS_length out c
    simp only [List.foldl_cons, List.length_cons]
    omega
theorem foldl_full (l out : List UInt8) (h : (l.foldl redS out).length = out.length + l.length) : l.foldl redS out = out ++ l := by
  induction l generalizing out with
  | nil => simp
  | cons c r ih =>
    simp only [List.foldl_cons, List.length_cons] at h ⊢
    have h1 := foldl_length r (redS out c)
    have h2 := redS_length out c
    have e := redS_len_eq (out := out) (c := c) (by omega)
    rw [ih (redS out c) (by omega), e]
    simp
theorem red_full {l : List UInt8} : (red l).length = l.length ↔ red l = l := by
  constructor
  · intro h
    have := foldl_full l [] (by simpa [red] using h)
    simpa [red] using this
  · intro h; rw [h]
end Go.Proofs.Ytdcphheeapmjcaa.Wd
namespace Go.Proofs.Ytdcphheeapmjcaa
open Wd
theorem powR_rep (l : List UInt8) (n : Nat) : powR l n = red (rep l n) := by
  induction n with
  | zero => rfl
  | succ n ih => show red (powR l n ++ l) = red (rep l n ++ l); rw [ih, red_app]
end Go.Proofs.Ytdcphheeapmjcaa
