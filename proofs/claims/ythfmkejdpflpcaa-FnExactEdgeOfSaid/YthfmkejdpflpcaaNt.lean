/-
  CONTRACT: blockByBlock by the program: JoinPictures, MeetPictures, MinusPictures.
-/
import Derived.Test.YthfmkejdpflpcaaNs
import Derived.Test.YthfmkejdpflpcaaNg
import Derived.Test.YthfmkejdpflpcaaJc
import Derived.Test.YthfmkejdpflpcaaNj
namespace Go.Proofs.Ythfmkejdpflpcaa
open Go.ChangeShapes Go.WideShapes Go.ChangeAt Go.RowKit Go.Maps Go.WideMaps
abbrev MOp := (Nat → Int) → (Nat → Int) → Nat → Int
def GF (op : MOp) (A B : MF) : MF := fun p q => op (A p q) (B p q)
def bbF (op : MOp) (A B : MF) (f : Nat → Int) : Nat → MF
  | 0 => fun _ _ => zI
  | i + 1 => putM (bbF op A B f i) (f (i * 18)) (f (i * 18 + 1)) (op (A (f (i * 18)) (f (i * 18 + 1))) (B (f (i * 18)) (f (i * 18 + 1))))
theorem bbF_hit {op : MOp} {A B : MF} {f : Nat → Int} {p q : Int} : ∀ {i : Nat}, (∃ k, k < i ∧ f (k * 18) = p ∧ f (k * 18 + 1) = q) → bbF op A B f i p q = op (A p q) (B p q)
  | 0, h => by obtain ⟨k, hk, _⟩ := h; omega
  | i + 1, h => by
    show putM _ _ _ _ p q = _
    unfold putM
    split
    · rename_i e
      obtain ⟨rfl, rfl⟩ := e
      rfl
    · rename_i e
      obtain ⟨k, hk, e1, e2⟩ := h
      refine bbF_hit ⟨k, ?_, e1, e2⟩
      rcases Nat.lt_or_ge k i with h | h
      · exact h
      · obtain rfl : k = i := by omega
        exact absurd ⟨e1.symm, e2.symm⟩ e
theorem bbF_miss {op : MOp} {A B : MF} {f : Nat → Int} {p q : Int} : ∀ {i : Nat}, (∀ k, k < i → ¬ (f (k * 18) = p ∧ f (k * 18 + 1) = q)) → bbF op A B f i p q = zI
  | 0, _ => rfl
  | i + 1, h => by
    show putM _ _ _ _ p q = _
    unfold putM
    rw [if_neg fun e => h i (by omega) ⟨e.1.symm, e.2.symm⟩]
    exact bbF_miss fun k hk => h k (by omega)
theorem catG_lo {f p : Nat → Int} {n j : Nat} (h : j < 18 * n) : catG f n p j = f j := if_pos h
theorem catG_hi (f p : Nat → Int) (n j : Nat) : catG f n p (18 * n + j) = p j := by unfold catG; rw [if_neg (by omega), Nat.add_sub_cancel_left]
/-- all corners of both put: the masks made of both -/
theorem bbF_all {op : MOp} (h0 : ∀ j, j < 16 → op zI zI j = 0) (f g : Nat → Int) (n m : Nat) (p q : Int) (j : Nat) (hj : j < 16) : bbF op (shF f n) (shF g m) (catG f n g) (n + m) p q j = GF op (shF f n) (shF g m) p q j := by
  by_cases h : ∃ k, k < n + m ∧ catG f n g (k * 18) = p ∧ catG f n g (k * 18 + 1) = q
  · rw [bbF_hit h]
    rfl
  · have hm : ∀ k, k < n + m → ¬ (catG f n g (k * 18) = p ∧ catG f n g (k * 18 + 1) = q) := fun k hk e => h ⟨k, hk, e⟩
    rw [bbF_miss hm]
    have e1 : shF f n p q = zI := shF_none n fun k hk e => hm k (by omega) (by rw [catG_lo (by omega), catG_lo (by omega)]; exact e)
    have e2 : shF g m p q = zI := shF_none m fun k hk e => hm (n + k) (by omega) (by
      rw [show (n + k) * 18 = 18 * n + k * 18 by omega, show 18 * n + k * 18 + 1 = 18 * n + (k * 18 + 1) by omega, catG_hi, catG_hi]; exact e)
    unfold GF
    rw [e1, e2, h0 j hj]
    rfl
theorem shF_MB {f : Nat → Int} {n : Nat} (hf : BlF n f) : ∀ k, k ≤ n → MBF (shF f k)
  | 0, _ => fun _ _ => zero_MB
  | k + 1, hk => fun p q => by
    show MB (putM _ _ _ _ p q)
    unfold putM
    split
    · exact blf_mk hf (by omega)
    · exact shF_MB hf k (by omega) p q
theorem OwnG.bl {base n cap : Nat} {a : Option Addr} {f : Nat → Int} {w : World} (h : OwnG base (.slice a n cap) n f w) : BlR w.heap.size w a n f := by
  rcases h.2 with ⟨hv, h0⟩ | ⟨g, cap, cur, hv, hb, hg, hn, hc, hs, ht⟩
  · exact .inl h0
  · simp only [Value.slice.injEq] at hv
    obtain ⟨rfl, -, -⟩ := hv
    refine .inr ⟨g, 0, rfl, (Array.getElem?_eq_some_iff.1 hg).1, fun j hj => ?_⟩
    rw [Nat.zero_add, Lib.cell_of_heap hg]
    have e1 : cur[j]? = (cur.toList.take (n * 18))[j]? := by rw [List.getElem?_take_of_lt (by omega), Array.getElem?_toList]
    rw [e1, ht, rowK_get _ _ _ hj]
theorem OwnG.bl2 {base n cap : Nat} {a : Option Addr} {f : Nat → Int} {w : World} (h : OwnG base (.slice a n cap) n f w) : n = 0 ∨ ∃ g, a = some ⟨g, 0, none⟩ ∧ base ≤ g ∧ g < w.heap.size ∧ ∀ j, j < 18 * n → w.cell? ⟨g, j, none⟩ = some (bcell f j) := by
  rcases h.2 with ⟨hv, h0⟩ | ⟨g, cap, cur, hv, hb, hg, hn, hc, hs, ht⟩
  · exact .inl h0
  · simp only [Value.slice.injEq] at hv
    obtain ⟨rfl, -, -⟩ := hv
    refine .inr ⟨g, rfl, hb, (Array.getElem?_eq_some_iff.1 hg).1, fun j hj => ?_⟩
    rw [Lib.cell_of_heap hg]
    have e1 : cur[j]? = (cur.toList.take (n * 18))[j]? := by rw [List.getElem?_take_of_lt (by omega), Array.getElem?_toList]
    rw [e1, ht, rowK_get _ _ _ hj]
theorem OwnG.len {base n : Nat} {v : Value} {f : Nat → Int} {w : World} (h : OwnG base v n f w) : ∃ a cap, v = .slice a n cap := by
  rcases h.2 with ⟨rfl, h0⟩ | ⟨g, cap, cur, rfl, _⟩
  · exact ⟨none, 0, by rw [h0]⟩
  · exact ⟨_, cap, rfl⟩
theorem catG_BlF {f g : Nat → Int} {n m : Nat} (hf : BlF n f) (hg : BlF m g) : BlF (n + m) (catG f n g) := fun j hj => by
  by_cases h : j < 18 * n
  · rw [catG_lo h]; exact hf j h
  · have := hg (j - 18 * n) (by omega)
    rw [show (j - 18 * n) % 18 = j % 18 by omega] at this
    rw [show j = 18 * n + (j - 18 * n) by omega, catG_hi, ← show j = 18 * n + (j - 18 * n) by omega]
    exact this
def bbV (f : Nat → Int) (n : Nat) (g : Nat → Int) (m : Nat) : Bool := validP f n && validP g m
def bbC (f : Nat → Int) (n : Nat) (g : Nat → Int) (m : Nat) (K : List (Int × Int)) : Int := if bbV f n g m = true then ioC K else 1
def bbK (f : Nat → Int) (n : Nat) (g : Nat → Int) (m : Nat) (K : List (Int × Int)) : List (Int × Int) := if bbV f n g m = true then ioK K else []
def BbPost (op : MOp) (f : Nat → Int) (n : Nat) (g : Nat → Int) (m : Nat) (K : List (Int × Int)) (w : World) (e : Ending) (w' : World) : Prop := ∃ v, e = .returned (.tuple #[v, .int .i64 (bbC f n g m K)]) ∧ OB w.heap.size v (GF op (shF f n) (shF g m)) (bbK f n g m K) w' ∧ Below w.heap.size w w'
end Go.Proofs.Ythfmkejdpflpcaa
