/-
  MASKS whose cells are moved (no program in sight): what comes of it, as the program and as the specification reckon it.
-/
import Derived.Test.YthfmkejdpflpcaaIt
namespace Go.Proofs.Ythfmkejdpflpcaa
open Go.ChangeShapes Go.WideShapes Go.ChangeAt Go.RowKit Go.Shelf
/-- one cell more: as 'with' lays it (k = true), or by an 'or' alone -/
def mvS (k : Bool) (mv : Nat → Nat → Int × Int) (g : Nat → Int) (c : Cl) : Nat → Int :=
  if inB (mv c.1.1 c.1.2).1 (mv c.1.1 c.1.2).2 then (if k then withF g (mv c.1.1 c.1.2).1.toNat (mv c.1.1 c.1.2).2.toNat true else setF g (mv c.1.1 c.1.2).1.toNat (mv c.1.1 c.1.2).2.toNat) else g
def mvF (k : Bool) (mv : Nat → Nat → Int × Int) (pre : List Cl) : Nat → Int := pre.foldl (mvS k mv) zI
theorem mvF_nil (k : Bool) (mv : Nat → Nat → Int × Int) : mvF k mv [] = zI := rfl
theorem mvF_snoc (k : Bool) (mv : Nat → Nat → Int × Int) (pre : List Cl) (c : Cl) : mvF k mv (pre ++ [c]) = mvS k mv (mvF k mv pre) c := by simp [mvF, List.foldl_append]
theorem mvS_MB {k : Bool} {mv : Nat → Nat → Int × Int} {g : Nat → Int} (h : MB g) (c : Cl) : MB (mvS k mv g c) := by
  unfold mvS
  split
  · cases k
    · rw [if_neg (by simp)]; exact setF_MB h _ _
    · rw [if_pos rfl]; exact withF_MB h _ _ _
  · exact h
theorem mvF_MB (k : Bool) (mv : Nat → Nat → Int × Int) (pre : List Cl) : MB (mvF k mv pre) := by
  unfold mvF
  generalize hz : zI = z
  have H : MB z := by rw [← hz]; exact zero_MB
  clear hz
  induction pre generalizing z with
  | nil => exact H
  | cons c r ih => exact ih _ (mvS_MB H c)
theorem mvF_both (mv : Nat → Nat → Int × Int) (pre : List Cl) : M16 (mvF true mv pre) = M16 (mvF false mv pre) := by
  refine mask_ext (mvF_MB _ _ _) (mvF_MB _ _ _) ?_
  have H : ∀ (pre : List Cl) (a b : Nat → Int), MB a → MB b → (∀ x y, x < 16 → y < 16 → hasF a x y = hasF b x y) → ∀ x y, x < 16 → y < 16 → hasF (pre.foldl (mvS true mv) a) x y = hasF (pre.foldl (mvS false mv) b) x y := by
    intro pre
    induction pre with
    | nil => intro a b _ _ h; exact h
    | cons c r ih =>
      intro a b ha hb h
      refine ih _ _ (mvS_MB ha c) (mvS_MB hb c) fun x y hx hy => ?_
      unfold mvS
      split
      · rename_i hin
        obtain ⟨u, v, e1, e2, hu, hv⟩ := inB_nat hin
        rw [e1, e2, Int.toNat_natCast, Int.toNat_natCast, if_pos rfl, if_neg (by simp), hasF_with ha hu hv true x y hx, hasF_set hb hu hv]
        by_cases hxy : x = u ∧ y = v
        · rw [if_pos hxy]; simp [hxy]
        · rw [if_neg hxy, h x y hx hy]
          rw [not_and] at hxy
          by_cases h1 : x = u
          · simp [h1, hxy h1]
          · simp [h1]
      · exact h x y hx hy
  exact H pre zI zI zero_MB zero_MB (fun _ _ _ _ => rfl)
theorem own_pure {β : Type} (p : β → Prop) : Own (fun s (_ : World) => p s) := fun _ _ _ _ hs _ _ => hs
theorem heap_own {β : Type} (B : Nat) (t : TypeId) (f : β → Array Value) : Own (fun s W => W.heap[B]? = some (.cells (f s) t (0, 0))) := fun s X Y row hs hg hrow => by
  refine (hg.block B (Array.getElem?_eq_some_iff.1 hs).1 (fun e => ?_)).trans hs
  obtain ⟨o, ho, hc⟩ := hrow B e.symm
  rw [hs] at ho
  cases ho; cases hc
end Go.Proofs.Ythfmkejdpflpcaa
