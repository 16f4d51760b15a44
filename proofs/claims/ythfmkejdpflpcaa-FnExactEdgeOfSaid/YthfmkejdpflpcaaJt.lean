/-
  CONTRACT: FrameOf by the specification.
-/
import Derived.Test.YthfmkejdpflpcaaJk
namespace Go.Proofs.Ythfmkejdpflpcaa
open Go.ChangeShapes Go.WideShapes Go.ChangeAt Go.RowKit
def pk (c : Int × Int) (k : Nat) : Int := if k = 0 then c.1 else c.2
def mnF (L : List (Int × Int)) (k : Nat) : Nat → Int
  | 0 => pk L[0]! k
  | i + 1 => if pk L[i]! k < mnF L k i then pk L[i]! k else mnF L k i
def mxF (L : List (Int × Int)) (k : Nat) : Nat → Int
  | 0 => pk L[0]! k
  | i + 1 => if mxF L k i < pk L[i]! k then pk L[i]! k else mxF L k i
def lwF (m : Nat → Nat → Int) (i k : Nat) : Nat → Int := fun c => if c < k then m c (i + 1) else m c i
theorem lw_step (m : Nat → Nat → Int) (i k : Nat) : updI (lwF m i k) k (m k (i + 1)) = lwF m i (k + 1) := by
  funext j
  unfold updI lwF
  by_cases h : j = k
  · subst h; rw [if_pos rfl, if_pos (by omega)]
  · rw [if_neg h]
    by_cases h2 : j < k
    · rw [if_pos h2, if_pos (by omega)]
    · rw [if_neg h2, if_neg (by omega)]
theorem lw_same {m : Nat → Nat → Int} {i k : Nat} (h : m k (i + 1) = m k i) : lwF m i (k + 1) = lwF m i k := by
  funext j
  unfold lwF
  by_cases h2 : j < k
  · rw [if_pos h2, if_pos (by omega)]
  · rw [if_neg h2]
    by_cases h3 : j = k
    · subst h3; rw [if_pos (by omega), h]
    · rw [if_neg (by omega)]
theorem lw_end (m : Nat → Nat → Int) (i : Nat) : arr .i32 2 (lwF m i 2) = arr .i32 2 (lwF m (i + 1) 0) := arr_congr fun j hj => by
  unfold lwF
  rw [if_pos hj, if_neg (by omega)]
theorem ptsV_pk (L : List (Int × Int)) (i k : Nat) (hi : i < L.length) (hk : k < 2) : (ptsV L)[i * 2 + k]? = some (.int .i32 (pk L[i]! k)) := by
  induction L generalizing i with
  | nil => simp at hi
  | cons c L ih =>
    show (two c.1 c.2 ++ ptsV L)[i * 2 + k]? = _
    cases i with
    | zero =>
      rcases (by omega : k = 0 ∨ k = 1) with rfl | rfl <;> rfl
    | succ i =>
      rw [List.getElem?_append_right (by simp [two]; omega)]
      have e : (i + 1) * 2 + k - (two c.1 c.2).length = i * 2 + k := by simp [two]; omega
      rw [e, ih i (by simp at hi; omega)]
      simp
theorem ow_cell {B : Nat} {a : Option Addr} {n c : Nat} {L : List (Int × Int)} {w : World} (h : OW B (.slice a n c) L w) (hn : n = L.length) (h0 : 0 < n) : ∃ g, a = some ⟨g, 0, none⟩ ∧ g < w.heap.size ∧ ∀ i k, i < n → k < 2 → w.cell? ⟨g, i * 2 + k, none⟩ = some (.int .i32 (pk L[i]! k)) := by
  subst hn
  rcases h.2 with ⟨_, hz⟩ | ⟨g, cap, cur, hv, _, hg, hc, _, hs, ht⟩
  · omega
  · simp only [Value.slice.injEq] at hv
    obtain ⟨rfl, -, -⟩ := hv
    refine ⟨g, rfl, (Array.getElem?_eq_some_iff.1 hg).1, fun i k hi hk => ?_⟩
    rw [Lib.cell_of_heap hg]
    have e1 : cur[i * 2 + k]? = (cur.toList.take (L.length * 2))[i * 2 + k]? := by rw [List.getElem?_take_of_lt (by omega), Array.getElem?_toList]
    rw [e1, ht]
    exact ptsV_pk L i k hi hk
end Go.Proofs.Ythfmkejdpflpcaa
