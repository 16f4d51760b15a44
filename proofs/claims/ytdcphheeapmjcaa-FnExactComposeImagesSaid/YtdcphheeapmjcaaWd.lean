/-
  PLAIN MATHEMATICS OF WORDS: letters, their numbers, inverses; reduced words.
-/
import Derived.WalkKit
namespace Go.Proofs.Ytdcphheeapmjcaa.Wd
/-- the number of a letter in the order a A b B c C d D; -1 for every other byte -/
def lnum (c : UInt8) : Int := if c = 97 then 0 else if c = 65 then 1 else if c = 98 then 2 else if c = 66 then 3 else if c = 99 then 4 else if c = 67 then 5 else if c = 100 then 6 else if c = 68 then 7 else -1
/-- the inverse of a letter -/
def oth (c : UInt8) : UInt8 := if c = 97 then 65 else if c = 65 then 97 else if c = 98 then 66 else if c = 66 then 98 else if c = 99 then 67 else if c = 67 then 99 else if c = 100 then 68 else if c = 68 then 100 else c
def isL (c : UInt8) : Bool := decide (0 ≤ lnum c)
theorem lcases {c : UInt8} (h : isL c = true) : c = 97 ∨ c = 65 ∨ c = 98 ∨ c = 66 ∨ c = 99 ∨ c = 67 ∨ c = 100 ∨ c = 68 := by
  unfold isL lnum at h
  by_cases h0 : c = 97; · simp [h0]
  by_cases h1 : c = 65; · simp [h1]
  by_cases h2 : c = 98; · simp [h2]
  by_cases h3 : c = 66; · simp [h3]
  by_cases h4 : c = 99; · simp [h4]
  by_cases h5 : c = 67; · simp [h5]
  by_cases h6 : c = 100; · simp [h6]
  by_cases h7 : c = 68; · simp [h7]
  simp [h0, h1, h2, h3, h4, h5, h6, h7] at h
theorem nocase {c : UInt8} (h : isL c = false) : c ≠ 97 ∧ c ≠ 65 ∧ c ≠ 98 ∧ c ≠ 66 ∧ c ≠ 99 ∧ c ≠ 67 ∧ c ≠ 100 ∧ c ≠ 68 := by
  refine ⟨?_, ?_, ?_, ?_, ?_, ?_, ?_, ?_⟩ <;> (rintro rfl; revert h; decide)
theorem lnum_no {c : UInt8} (h : isL c = false) : lnum c = -1 := by
  obtain ⟨h0, h1, h2, h3, h4, h5, h6, h7⟩ := nocase h
  simp [lnum, h0, h1, h2, h3, h4, h5, h6, h7]
theorem lnum_yes {c : UInt8} (h : isL c = true) : 0 ≤ lnum c ∧ lnum c ≤ 7 := by
  rcases lcases h with rfl | rfl | rfl | rfl | rfl | rfl | rfl | rfl <;> decide
theorem oth_isL {c : UInt8} (h : isL c = true) : isL (oth c) = true := by
  rcases lcases h with rfl | rfl | rfl | rfl | rfl | rfl | rfl | rfl <;> decide
theorem oth_oth {c : UInt8} (h : isL c = true) : oth (oth c) = c := by
  rcases lcases h with rfl | rfl | rfl | rfl | rfl | rfl | rfl | rfl <;> decide
/-- only letters -/
def lets (l : List UInt8) : Bool := l.all isL
/-- a word -/
def wordB (l : List UInt8) : Bool := lets l && decide (l.length ≤ 40)
theorem wordB_lets {l : List UInt8} (h : wordB l = true) : ∀ c ∈ l, isL c = true := by
  unfold wordB lets at h
  rw [Bool.and_eq_true, List.all_eq_true] at h
  exact h.1
theorem wordB_len {l : List UInt8} (h : wordB l = true) : l.length ≤ 40 := by
  unfold wordB at h
  simp at h
  exact h.2
/-- the inverse of a word -/
def inv (l : List UInt8) : List UInt8 := l.reverse.map oth
theorem inv_length (l : List UInt8) : (inv l).length = l.length := by simp [inv]
/-- a letter more: left out with its inverse, or laid on -/
def redS (out : List UInt8) (c : UInt8) : List UInt8 := if out.getLast? = some (oth c) then out.dropLast else out ++ [c]
/-- the reduced word -/
def red (l : List UInt8) : List UInt8 := l.foldl redS []
theorem red_snoc (l : List UInt8) (c : UInt8) : red (l ++ [c]) = redS (red l) c := by simp [red, List.foldl_append]
theorem redS_length (out : List UInt8) (c : UInt8) : (redS out c).length ≤ out.length + 1 := by
  unfold redS; split
  · simp; omega
  · simp
theorem red_length (l : List UInt8) : (red l).length ≤ l.length := by
  suffices h : ∀ (l out : List UInt8), (l.foldl redS out).length ≤ out.length + l.length by
    have := h l []
    simpa [red] using this
  intro l
  induction l with
  | nil => intro out; simp
  | cons c r ih =>
    intro out
    have h1 := ih (redS out c)
    have h2 := redS_length out c
    simp only [List.foldl_cons, List.length_cons]
    omega
theorem take_snoc (l : List UInt8) (k : Nat) (h : k < l.length) : l.take (k + 1) = l.take k ++ [l[k]] := by
  rw [List.take_succ_eq_append_getElem h]
theorem red_take (l : List UInt8) (k : Nat) (h : k < l.length) : red (l.take (k + 1)) = redS (red (l.take k)) l[k] := by
  rw [take_snoc l k h, red_snoc]
end Go.Proofs.Ytdcphheeapmjcaa.Wd
