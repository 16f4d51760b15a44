/-
  THE PROGRAM'S WORDS: rows of letters' numbers.
-/
import Derived.Test.YtdcphheeapmjcaaGa
namespace Go.Proofs.Ytdcphheeapmjcaa
open Go.ChangeShapes Go.WideShapes Go.ChangeAt Go.RowKit
open Wd
/-- the cells of letters -/
def numC (l : List UInt8) : List Value := l.map fun c => .int .u8 (lnum c)
theorem numC_len (l : List UInt8) : (numC l).length = l.length := by simp [numC]
theorem numC_snoc (l : List UInt8) (c : UInt8) : numC l ++ [.int .u8 (lnum c)] = numC (l ++ [c]) := by simp [numC]
theorem numC_at (l : List UInt8) (j : Nat) (h : j < l.length) : (numC l)[j]? = some (.int .u8 (lnum (l[j]'h))) := by simp [numC, h]
/-- v is a slice of the call's own (its blocks begin at base) that holds the letters l -/
def OwnL (base : Nat) (v : Value) (l : List UInt8) (w : World) : Prop := w.ownsRow base 84 1 v l.length (numC l)
theorem info_let : (Try.prog.info? 84).map (fun i => (i.zero, i.size, i.bytes)) = some (some (.int .u8 0), 1, 1) := by kernel_rfl
/-- v is a slice that holds the letters l, in a block below n₀; or it is nil, and there are none -/
def LRow (n₀ : Nat) (W : World) (v : Value) (l : List UInt8) : Prop :=
  (v = .slice none 0 0 ∧ l = []) ∨ ∃ b off cap, v = .slice (some ⟨b, off, none⟩) l.length cap ∧ b < n₀ ∧ ∀ j (hj : j < l.length), W.cell? ⟨b, off + j, none⟩ = some (.int .u8 (lnum (l[j]'hj)))
theorem LRow.below {n₀ : Nat} {A B : World} (h : Below n₀ A B) {v : Value} {l : List UInt8} : LRow n₀ A v l → LRow n₀ B v l
  | .inl e => .inl e
  | .inr ⟨b, off, cap, e, hb, hc⟩ => .inr ⟨b, off, cap, e, hb, fun j hj => (h.cell (p := ⟨b, off + j, none⟩) hb).trans (hc j hj)⟩
theorem LRow.up {n₀ n₁ : Nat} {A : World} {v : Value} {l : List UInt8} (hn : n₀ ≤ n₁) : LRow n₀ A v l → LRow n₁ A v l
  | .inl e => .inl e
  | .inr ⟨b, off, cap, e, hb, hc⟩ => .inr ⟨b, off, cap, e, Nat.lt_of_lt_of_le hb hn, hc⟩
theorem OwnL.row {base : Nat} {v : Value} {l : List UInt8} {w : World} (h : OwnL base v l w) : LRow w.heap.size w v l := by
  have h' := h
  obtain ⟨h1, h2⟩ := h
  rcases h2 with ⟨rfl, h0⟩ | ⟨g, cap, cur, rfl, hb, hg, hn2, hm, hs, ht⟩
  · exact .inl ⟨rfl, List.eq_nil_of_length_eq_zero h0⟩
  · refine .inr ⟨g, 0, cap, rfl, (Array.getElem?_eq_some_iff.1 hg).1, fun j hj => ?_⟩
    have := World.ownsRow.cells h' (g := g) rfl j _ (numC_at l j hj)
    rw [addr_off, Nat.zero_add] at this
    rw [Nat.zero_add]; exact this
theorem LRow.len {n₀ : Nat} {W : World} {v : Value} {l : List UInt8} (h : LRow n₀ W v l) : ∃ a cap, v = .slice a l.length cap := by
  rcases h with ⟨rfl, rfl⟩ | ⟨b, off, cap, rfl, _⟩
  · exact ⟨none, 0, rfl⟩
  · exact ⟨_, cap, rfl⟩
/-- the letter with a number -/
def chr (n : Nat) : UInt8 := if n = 0 then 97 else if n = 1 then 65 else if n = 2 then 98 else if n = 3 then 66 else if n = 4 then 99 else if n = 5 then 67 else if n = 6 then 100 else 68
theorem lnum_chr {n : Nat} (h : n < 8) : lnum (chr n) = n := by
  have : n = 0 ∨ n = 1 ∨ n = 2 ∨ n = 3 ∨ n = 4 ∨ n = 5 ∨ n = 6 ∨ n = 7 := by omega
  rcases this with rfl | rfl | rfl | rfl | rfl | rfl | rfl | rfl <;> decide
theorem isL_chr (n : Nat) : isL (chr n) = true := by
  unfold chr; repeat' split
  all_goals decide
theorem chr_lnum {c : UInt8} (h : isL c = true) : chr (lnum c).toNat = c := by
  rcases lcases h with rfl | rfl | rfl | rfl | rfl | rfl | rfl | rfl <;> decide
theorem lnum_inj {c d : UInt8} (hc : isL c = true) (hd : isL d = true) (h : lnum c = lnum d) : c = d := by
  rw [← chr_lnum hc, ← chr_lnum hd, h]
end Go.Proofs.Ytdcphheeapmjcaa
