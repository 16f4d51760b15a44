/-
  THE SORT OF POINTS, given the shelf's contract of slices.SortFunc.
-/
import Derived.Test.YthfmkejdpflpcaaJp
namespace Go.Proofs.Ythfmkejdpflpcaa
open Go.ChangeShapes Go.WideShapes Go.ChangeAt Go.RowKit Go.Proofs
def SF0 : Prop := ∀ (blk cap : Nat) (d : Array (Int × Int)) (w : World), CmpLays Try.prog 100 #[] encP 2 cfP blk 0 d.size w → Go.Sort.HoldsK encP 2 w blk 0 d → blk < w.heap.size → d.size < 4611686018427387904 →
  Calls Try.prog 112 #[.slice (some ⟨blk, 0, none⟩) d.size cap, .func (.func 100) #[] #[]] w fun e w' => e = .returned (.tuple #[]) ∧ ∃ d' n os, Go.Sort.PermIn 0 d.size d d' ∧ Go.Sort.SortedIn (Go.Proofs.ltOf cfP) 0 d.size d' ∧ w' = sortWorldK encP 2 w blk 0 n d' os
def SFN : Prop := ∀ w, Calls Try.prog 112 #[.slice none 0 0, .func (.func 100) #[] #[]] w fun e w' => e = .returned (.tuple #[]) ∧ w' = w
theorem cmpLaysP (blk n : Nat) (w : World) : CmpLays Try.prog 100 #[] encP 2 cfP blk 0 n w := fun _ _ _ _ x y =>
  (cmpRows_bel x.1 x.2 y.1 y.2 _).mono fun _ _ h => ⟨h.1, h.2.grown⟩
theorem take_put (F cur : Array Value) (h : F.size ≤ cur.size) : (Go.Sort.putCells id 0 F cur).toList.take F.size = F.toList := by
  apply List.ext_getElem?
  intro t
  by_cases ht : t < F.size
  · rw [List.getElem?_take_of_lt ht, Array.getElem?_toList, Array.getElem?_toList]
    unfold Go.Sort.putCells
    rw [Array.getElem?_mapIdx, Array.getElem?_eq_getElem (by omega : t < cur.size), Array.getElem?_eq_getElem ht]
    simp [ht]
  · rw [List.getElem?_eq_none (by simp; omega), List.getElem?_eq_none (by simp; omega)]
theorem heap_sorted {W : World} {g : Nat} {cur : Array Value} {t : TypeId} {fr : Nat × Nat} (hg : W.heap[g]? = some (.cells cur t fr)) (n : Nat) (d' : Array (Int × Int)) (os : Array Obj) : (sortWorldK encP 2 W g 0 n d' os).heap[g]? = some (.cells (Go.Sort.putCells id 0 (Go.Sort.flatK encP 2 d') cur) t fr) := by
  have hl := (Array.getElem?_eq_some_iff.1 hg).1
  show ((W.heap.modify g (Go.Sort.onCells (Go.Sort.putCells id 0 (Go.Sort.flatK encP 2 d')))) ++ os)[g]? = _
  rw [Array.getElem?_append_left (by simpa using hl), Array.getElem?_modify, if_pos rfl, hg]
  rfl
theorem heap_sorted_far {W : World} {g k : Nat} (hk : k < W.heap.size) (hne : k ≠ g) (n : Nat) (d' : Array (Int × Int)) (os : Array Obj) : (sortWorldK encP 2 W g 0 n d' os).heap[k]? = W.heap[k]? := by
  show ((W.heap.modify g (Go.Sort.onCells (Go.Sort.putCells id 0 (Go.Sort.flatK encP 2 d')))) ++ os)[k]? = _
  rw [Array.getElem?_append_left (by simpa using hk), Array.getElem?_modify, if_neg (fun e => hne e.symm)]
theorem ext_all {α : Type} [Inhabited α] (d : Array α) : (d.extract 0 d.size).toList = d.toList := by simp
theorem sortsP_of (h0 : SF0) (hN : SFN) : SortsP := by
  intro B v L W hB hL ho
  obtain ⟨hlen, ⟨rfl, hz⟩ | ⟨g, cap, cur, rfl, hbg, hg, hnc, hcm, hcs, htk⟩⟩ := ho
  · have hL0 : L = [] := List.eq_nil_of_length_eq_zero hz
    subst hL0
    refine (hN W).mono ?_
    rintro e w' ⟨rfl, rfl⟩
    exact ⟨rfl, [], List.Perm.refl _, List.Pairwise.nil, World.ownsRow_nil _ _ _ _, ⟨rfl, rfl, rfl, Nat.le_refl _, fun _ _ _ => rfl⟩⟩
  · have hgl := (Array.getElem?_eq_some_iff.1 hg).1
    have hH : Go.Sort.HoldsK encP 2 W g 0 L.toArray := by
      intro j hj
      have hj2 : j < L.length * 2 := by simpa using hj
      refine ⟨?_, ?_⟩
      · rw [Nat.zero_add, Lib.cell_of_heap hg]
        have e1 : cur[j]? = (cur.toList.take (L.length * 2))[j]? := by rw [List.getElem?_take_of_lt hj2, Array.getElem?_toList]
        rw [e1, htk, ← flatK_pts, Array.getElem?_toList, Array.getElem?_eq_getElem hj, getElem!_pos _ j hj]
        rfl
      · simp [World.frozen?, hg]
    have hsz : L.toArray.size = L.length := by simp
    have hc := h0 g cap L.toArray W (cmpLaysP g _ W) hH hgl (by rw [hsz]; omega)
    rw [hsz] at hc
    refine hc.mono ?_
    rintro e w' ⟨rfl, d', n, os, hp, hs, rfl⟩
    have hd : d'.size = L.length := by rw [hp.1, hsz]
    have hperm : d'.toList.Perm L := by
      have := hp.2.2
      rw [← hd] at this
      rw [ext_all] at this
      have e2 : (L.toArray.extract 0 d'.size).toList = L := by rw [hd]; simp
      rwa [e2] at this
    have hF : Go.Sort.flatK encP 2 d' = Go.Sort.flatK encP 2 d'.toList.toArray := by simp
    refine ⟨rfl, d'.toList, hperm, ?_, ⟨by rw [ptsV_len]; simp; omega, .inr ⟨g, cap, _, by simp [hd], hbg, heap_sorted hg n d' os, by simp [hd]; exact hnc, hcm, by simp [Go.Sort.putCells]; exact hcs, ?_⟩⟩, ⟨rfl, rfl, rfl, ?_, fun k hk hne => ?_⟩⟩
    · rw [List.pairwise_iff_getElem]
      intro i j hi hj hij hlt
      have h3 := hs i j (Nat.zero_le _) hij (by simpa [hd] using hj)
      rw [getElem!_pos _ j (by simpa using hj), getElem!_pos _ i (by simpa using hi)] at h3
      rw [← ltP_cf] at hlt
      simp only [Array.getElem_toList] at hlt
      rw [hlt] at h3
      cases h3
    · have h4 := take_put (Go.Sort.flatK encP 2 d') cur (by simp [hd]; rw [hcs]; exact Nat.mul_le_mul hnc (Nat.le_refl _))
      have h5 : (Go.Sort.flatK encP 2 d').size = d'.toList.length * 2 := by simp
      rw [h5] at h4
      rw [h4, hF, flatK_pts]
    · show W.heap.size ≤ ((W.heap.modify g _) ++ os).size
      simp
    · exact heap_sorted_far hk (fun e => hne (by rw [e]; rfl)) n d' os
end Go.Proofs.Ythfmkejdpflpcaa
