/-
  WHAT UnpackMask ANSWERS.
-/
import Derived.Test.YtfnaddpohkbbnaaRk
import Derived.Test.YtfnaddpohkbbnaaPk
namespace Go.Proofs.Ytfnaddpohkbbnaa
open Go.ChangeShapes Go.WideShapes Go.ChangeAt Go.RowKit
/-- what a run is of -/
def onD (i : Nat) : Bool := decide (i % 2 = 1)
theorem onD_succ (i : Nat) : onD (i + 1) = !onD i := by
  unfold onD
  rcases Nat.mod_two_eq_zero_or_one i with h | h
  · rw [show (i + 1) % 2 = 1 by omega, h]; rfl
  · rw [show (i + 1) % 2 = 0 by omega, h]; rfl
/-- the cells of the first i runs -/
def rowD (D : List UInt8) : Nat → List Bool
  | 0 => []
  | i + 1 => rowD D i ++ List.replicate (D.getD i 0).toNat (onD i)
theorem rowD_succ (D : List UInt8) (i : Nat) : rowD D (i + 1) = rowD D i ++ List.replicate (D.getD i 0).toNat (onD i) := rfl
theorem rowD_len (D : List UInt8) (i : Nat) : (rowD D (i + 1)).length = (rowD D i).length + (D.getD i 0).toNat := by rw [rowD_succ]; simp
theorem rowD_mono (D : List UInt8) {i j : Nat} (h : i ≤ j) : (rowD D i).length ≤ (rowD D j).length := by
  induction j with
  | zero => rw [Nat.le_zero.1 h]; exact Nat.le_refl _
  | succ j ih =>
    rcases Nat.lt_or_ge i (j + 1) with h' | h'
    · have := ih (by omega); rw [rowD_len]; omega
    · rw [show i = j + 1 by omega]; exact Nat.le_refl _
theorem rowD_pre (D : List UInt8) {i j : Nat} (h : i ≤ j) : ∃ l, rowD D j = rowD D i ++ l := by
  induction j with
  | zero => rw [Nat.le_zero.1 h]; exact ⟨[], by simp⟩
  | succ j ih =>
    rcases Nat.lt_or_ge i (j + 1) with h' | h'
    · obtain ⟨l, hl⟩ := ih (by omega)
      exact ⟨l ++ List.replicate (D.getD j 0).toNat (onD j), by rw [rowD_succ, hl, List.append_assoc]⟩
    · rw [show i = j + 1 by omega]; exact ⟨[], by simp⟩
/-- all cells, the last run's too -/
def gF (D : List UInt8) (i : Nat) : Bool := (rowD D D.length ++ List.replicate 256 (onD D.length)).getD i false
theorem gF_in (D : List UInt8) {i j : Nat} (hi : i < D.length) (hj : j < (D.getD i 0).toNat) : gF D ((rowD D i).length + j) = onD i := by
  obtain ⟨l, hl⟩ := rowD_pre D (show i + 1 ≤ D.length by omega)
  unfold gF
  rw [hl, rowD_succ, List.getD_eq_getElem?_getD, List.append_assoc, List.append_assoc, List.getElem?_append_right (by omega), Nat.add_sub_cancel_left, List.getElem?_append_left (by simpa using hj), List.getElem?_replicate, if_pos hj]
  rfl
theorem gF_end (D : List UInt8) {a : Nat} (h : (rowD D D.length).length ≤ a) (h2 : a < 256) : gF D a = onD D.length := by
  unfold gF
  rw [List.getD_eq_getElem?_getD, List.getElem?_append_right h, List.getElem?_replicate, if_pos (by omega)]
  rfl
theorem mkF_stay (g : Nat → Bool) (a : Nat) : ∀ k, (∀ i, a ≤ i → i < a + k → g i = false) → mkF g (a + k) = mkF g a := by
  intro k
  induction k with
  | zero => intro _; rfl
  | succ k ih =>
    intro h
    rw [← Nat.add_assoc, mkF_no (h (a + k) (by omega) (by omega))]
    exact ih fun i h1 h2 => h i h1 (by omega)
def uF (D : List UInt8) : Nat → Int := mkF (gF D) 256
def pkL (f : Nat → Int) : List Nat := (pkK (bitR f) 256).1
theorem pk_sum (g : Nat → Bool) (k : Nat) : (pkK g k).1.sum + (pkK g k).2.2 = k ∧ (0 < k → 0 < (pkK g k).2.2 ∨ ((pkK g k).2.2 = 0 ∧ False)) := by
  induction k with
  | zero => exact ⟨rfl, fun h => absurd h (Nat.lt_irrefl _)⟩
  | succ k ih =>
    rw [pkK_succ]
    unfold pkS
    split
    · exact ⟨by have := ih.1; simp; omega, fun _ => .inl (by simp)⟩
    · exact ⟨by have := ih.1; simp; omega, fun _ => .inl (by simp)⟩
theorem pkL_sum (f : Nat → Int) : (pkL f).sum ≤ 255 := by
  obtain ⟨h1, h2⟩ := pk_sum (bitR f) 256
  unfold pkL
  rcases h2 (by omega) with h | h
  · omega
  · exact h.2.elim
theorem le_sumN (l : List Nat) : ∀ n ∈ l, n ≤ l.sum := by
  induction l with
  | nil => intro n hn; cases hn
  | cons a l ih =>
    intro n hn
    rcases List.mem_cons.1 hn with rfl | h
    · simp
    · have := ih n h; simp; omega
theorem pkL_le (f : Nat → Int) : ∀ n ∈ pkL f, n ≤ 255 := by
  intro n hn
  have := pkL_sum f
  have h : n ≤ (pkL f).sum := le_sumN _ n hn
  omega
theorem pkL_len (f : Nat → Int) : (pkL f).length ≤ 256 := (pkK_bound (bitR f) 256).1
def natD (D : List UInt8) : List Nat := D.map fun c => c.toNat
theorem rowD_sum (D : List UInt8) : ∀ i, i ≤ D.length → (rowD D i).length = (natD (D.take i)).sum := by
  intro i
  induction i with
  | zero => intro _; rfl
  | succ i ih =>
    intro hi
    have e : natD (D.take (i + 1)) = natD (D.take i) ++ [(D.getD i 0).toNat] := by
      unfold natD
      rw [List.take_succ_eq_append_getElem (show i < D.length by omega), List.map_append]
      simp [List.getD_eq_getElem?_getD, List.getElem?_eq_getElem (show i < D.length by omega)]
    rw [rowD_len, ih (by omega), e, List.sum_append]
    simp
def UnOk (D : List UInt8) : Prop := pkL (uF D) = natD D ∧ (rowD D D.length).length < 256
instance (D : List UInt8) : Decidable (UnOk D) := inferInstanceAs (Decidable (_ ∧ _))
def unF (D : List UInt8) : Nat → Int := if UnOk D then uF D else zI
def unC (D : List UInt8) : Int := if UnOk D then 0 else 5
theorem un_yes {D : List UInt8} (h : pkL (uF D) = natD D) : unF D = uF D ∧ unC D = 0 := by
  have h2 : UnOk D := ⟨h, by rw [rowD_sum D _ (Nat.le_refl _), List.take_length, ← h]; have := pkL_sum (uF D); omega⟩
  unfold unF unC; rw [if_pos h2, if_pos h2]; exact ⟨rfl, rfl⟩
theorem un_no {D : List UInt8} (h : pkL (uF D) ≠ natD D) : unF D = zI ∧ unC D = 5 := by
  have h2 : ¬ UnOk D := fun h' => h h'.1
  unfold unF unC; rw [if_neg h2, if_neg h2]; exact ⟨rfl, rfl⟩
theorem un_long {D : List UInt8} (h : 256 ≤ (rowD D D.length).length) : unF D = zI ∧ unC D = 5 := by
  have h2 : ¬ UnOk D := fun h' => by have := h'.2; omega
  unfold unF unC; rw [if_neg h2, if_neg h2]; exact ⟨rfl, rfl⟩
def UnPost (D : List UInt8) (w : World) (e : Ending) (w' : World) : Prop := e = .returned (.tuple #[.agg (M16 (unF D)), .int .i64 (unC D)]) ∧ Below w.heap.size w w'
/-- a slice of bytes in a block below B, or an empty one -/
def DR (B : Nat) (w : World) (a : Option Addr) (D : List UInt8) : Prop := D.length = 0 ∨ ∃ g off, a = some ⟨g, off, none⟩ ∧ g < B ∧ ∀ j (hj : j < D.length), w.cell? ⟨g, off + j, none⟩ = some (.int .u8 (((D[j]'hj).toNat : Nat) : Int))
theorem DR.below {B B' : Nat} {w w' : World} {a : Option Addr} {D : List UInt8} (h : DR B w a D) (hb : Below B w w') (hB : B ≤ B') : DR B' w' a D := by
  rcases h with h | ⟨g, off, ha, hg, hc⟩
  · exact .inl h
  · exact .inr ⟨g, off, ha, by omega, fun j hj => (hb.cell (p := ⟨g, off + j, none⟩) hg).trans (hc j hj)⟩
end Go.Proofs.Ytfnaddpohkbbnaa
