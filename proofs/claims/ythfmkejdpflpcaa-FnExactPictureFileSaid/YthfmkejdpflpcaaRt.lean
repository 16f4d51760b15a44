/-
  A REGION THAT DRAWS ITS ORDER, BY A TABLE: each operation's value is told beforehand; an operation is looked at alone, over a table of slots that isn't laid open (no program in sight).
-/
import Derived.Test.YthfmkejdpflpcaaGpa
import Derived.Below
namespace Go.Proofs.Ythfmkejdpflpcaa
open Go Go.RowKit
/-- the slots: what operations that are done have left in theirs -/
def tabT (base : Array Value) (own : Nat → Option Nat) (V : Nat → Value) (listed : Array Bool) : Array Value :=
  base.mapIdx fun s v => match own s with
    | some i => if listed.getD i false then V i else v
    | none => v
theorem tabT_none {base : Array Value} {own : Nat → Option Nat} {V : Nat → Value} {listed : Array Bool} {s : Nat} (h : own s = none) : (tabT base own V listed).getD s undef = base.getD s undef := by
  unfold tabT
  simp only [Array.getD_eq_getD_getElem?, Array.getElem?_mapIdx, h]
  cases base[s]? <;> rfl
theorem tabT_some {base : Array Value} {own : Nat → Option Nat} {V : Nat → Value} {listed : Array Bool} {s i : Nat} (hs : s < base.size) (h : own s = some i) (hl : listed.getD i false = true) : (tabT base own V listed).getD s undef = V i := by
  unfold tabT
  simp only [Array.getD_eq_getD_getElem?, Array.getElem?_mapIdx, h, Array.getElem?_eq_getElem hs, Option.map_some]
  rw [Array.getD_eq_getD_getElem?] at hl
  simp [hl]
theorem tabT_some2 {base : Array Value} {own : Nat → Option Nat} {V : Nat → Value} {listed : Array Bool} {s i : Nat} (hs : s < base.size) (h : own s = some i) (hl : listed.getD i false = true) : (tabT base own V listed)[s]? = some (V i) := by
  unfold tabT
  simp only [Array.getElem?_mapIdx, h, Array.getElem?_eq_getElem hs, Option.map_some]
  rw [Array.getD_eq_getD_getElem?] at hl
  simp [hl]
theorem tabT_put {base : Array Value} {own : Nat → Option Nat} {V : Nat → Value} {listed : Array Bool} {d i : Nat} (hi : i < listed.size) (h : own d = some i) (h1 : ∀ s, own s = some i → s = d) :
    (tabT base own V listed).setIfInBounds d (V i) = tabT base own V (listed.setIfInBounds i true) := by
  unfold tabT
  apply Array.ext_getElem?
  intro s
  simp only [Array.getElem?_setIfInBounds, Array.getElem?_mapIdx, Array.size_mapIdx]
  by_cases hs : s < base.size
  · rw [Array.getElem?_eq_getElem hs]
    simp only [Option.map_some]
    by_cases hd : d = s
    · subst hd
      rw [if_pos rfl, if_pos hs, h]
      simp [Array.getD_eq_getD_getElem?, Array.getElem?_setIfInBounds, hi]
    · rw [if_neg hd]
      congr 1
      cases ho : own s with
      | none => rfl
      | some j =>
        have hj : i ≠ j := fun e => hd (h1 s (by rw [ho, e])).symm
        simp only [Array.getD_eq_getD_getElem?, Array.getElem?_setIfInBounds, if_neg hj]
  · rw [Array.getElem?_eq_none (by omega)]
    by_cases hd : d = s
    · rw [if_pos hd]; simp; omega
    · rw [if_neg hd]; rfl
theorem tabT_start {base : Array Value} {own : Nat → Option Nat} {V : Nat → Value} {n : Nat} : tabT base own V (Array.replicate n false) = base := by
  unfold tabT
  apply Array.ext_getElem?
  intro s
  rw [Array.getElem?_mapIdx]
  cases base[s]? with
  | none => rfl
  | some v =>
    simp only [Option.map_some, Option.some.injEq]
    cases own s with
    | none => rfl
    | some i =>
      have : (Array.replicate n false).getD i false = false := by
        simp only [Array.getD_eq_getD_getElem?, Array.getElem?_replicate]
        split <;> rfl
      simp [this]
theorem tabT_all {base : Array Value} {own : Nat → Option Nat} {V : Nat → Value} {listed : Array Bool} {n : Nat} (hl : ∀ j, j < n → listed.getD j false = true) (ho : ∀ s i, own s = some i → i < n) :
    tabT base own V listed = tabT base own V (Array.replicate n true) := by
  unfold tabT
  congr 1
  funext s v
  cases h : own s with
  | none => rfl
  | some i =>
    have hi := ho s i h
    have e : (Array.replicate n true).getD i false = true := by simp [Array.getD_eq_getD_getElem?, hi]
    simp only [hl i hi, e]
/-- the slots from lo on belong to the n operations, in order -/
def ownR (lo n : Nat) : Nat → Option Nat := fun s => if lo ≤ s ∧ s < lo + n then some (s - lo) else none
theorem ownR_hit {lo n i : Nat} (hi : i < n) : ownR lo n (i + lo) = some i ∧ ∀ s, ownR lo n s = some i → s = i + lo := by
  unfold ownR
  refine ⟨by rw [if_pos (by omega)]; congr 1; omega, fun s hs => ?_⟩
  split at hs
  · cases hs; omega
  · cases hs
theorem ownR_lt {lo n s i : Nat} (h : ownR lo n s = some i) : i < n := by
  unfold ownR at h
  split at h
  · cases h; omega
  · cases h
section
variable {P : Program} {ops : Array Oper} {Q : Exit → Act → World → Prop}
theorem wp_region_table {id : Nat} {a : Act} {w : World} (hm : P.follows .mixedOrders = true) (ht : topB ops = true) (N : Nat) (hN : ops.size = N) (V : Nat → Value) (own : Nat → Option Nat) (dst : Nat → Nat)
    (hown : ∀ i, i < ops.size → own (dst i) = some i ∧ ∀ s, own s = some i → s = dst i) (hsz : ∀ s i, own s = some i → i < ops.size)
    (hstep : ∀ (i : Nat) (o : Oper) (listed : Array Bool) (T : Array Value) (W : World), ops[i]? = some o → Below w.heap.size w W → (∀ e ∈ o.after, Region.binds .any e = true → listed.getD e.on false = true) →
      (∀ (s j : Nat) (v : Value), s < a.tmps.size → own s = some j → listed.getD j false = true → V j = v → T.getD s undef = v ∧ T[s]? = some v) → (∀ s : Nat, own s = none → T.getD s undef = a.tmps.getD s undef) →
      wpOp P ops Q i (fun a' w' => a' = { tmps := T.setIfInBounds (dst i) (V i), defers := a.defers } ∧ Below w.heap.size w w') { tmps := T, defers := a.defers } W)
    (hend : ∀ W, Below w.heap.size w W → Q .normal { tmps := tabT a.tmps own V (Array.replicate N true), defers := a.defers } W) : (Code.region id ops true).wp P Q a w := by
  subst hN
  refine wp_region_inv hm (fun listed act W => listed.size = ops.size ∧ Below w.heap.size w W ∧ act = { tmps := tabT a.tmps own V listed, defers := a.defers }) ht ⟨by simp, (Below.refl _ _).drew, by rw [tabT_start]⟩ (fun _ _ _ h => h.1) ?_ ?_
  · rintro listed act W i o ⟨hs, hB, rfl⟩ hun hio hpre
    refine wpOp_mono (fun a' w' => ?_) (hstep i o listed (tabT a.tmps own V listed) W hio hB hpre (fun s j v h1 h2 h3 h4 => ⟨(tabT_some h1 h2 h3).trans h4, (tabT_some2 h1 h2 h3).trans (congrArg some h4)⟩) (fun s h => tabT_none h))
    rintro ⟨rfl, hb⟩
    have hi : i < ops.size := by
      rcases Nat.lt_or_ge i ops.size with h | h
      · exact h
      · rw [Array.getElem?_eq_none h] at hio; cases hio
    obtain ⟨h1, h2⟩ := hown i hi
    exact ⟨by rw [Array.size_setIfInBounds, hs], hb, by rw [tabT_put (by omega) h1 h2]⟩
  · rintro listed act W ⟨hs, hB, rfl⟩ hall
    rw [tabT_all hall hsz]
    exact hend W hB
end
end Go.Proofs.Ythfmkejdpflpcaa
