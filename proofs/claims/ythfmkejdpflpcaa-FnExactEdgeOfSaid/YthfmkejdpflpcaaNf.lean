/-
  THE SORT OF BLOCKS, given the shelf's contract of slices.SortFunc.
-/
import Derived.Test.YthfmkejdpflpcaaNe
import Derived.Test.YthfmkejdpflpcaaGcc
namespace Go.Proofs.Ythfmkejdpflpcaa
open Go.ChangeShapes Go.WideShapes Go.ChangeAt Go.RowKit Go.Proofs
def SortsB : Prop := ∀ (B : Nat) (v : Value) (F : MF) (K : List (Int × Int)) (W : World), B ≤ W.heap.size → K.length ≤ 1000000 → OB B v F K W →
  Calls Try.prog 98 #[v, .func (.func 99) #[] #[]] W fun e w' => e = .returned (.tuple #[]) ∧ ∃ K', K'.Perm K ∧ K'.Pairwise (fun a b => ¬ ltP b a) ∧ OB B v F K' w' ∧ W.grownBy w' v.ownBlock
set_option maxRecDepth 20000 in
set_option maxHeartbeats 4000000 in
theorem cmpBlk (F : MF) (x y : Int × Int) (w : World) :
    Calls Try.prog 99 #[.agg (bkA F x), .agg (bkA F y)] w fun e w' => e = .returned (.int .i64 (cmpR x.1 x.2 y.1 y.2)) ∧ BelD w.heap.size w w' := by
  obtain ⟨p, q⟩ := x
  obtain ⟨p', q'⟩ := y
  have CM := fun W => cmpRows_bel p q p' q' W
  have sx := bkA_size F (p, q)
  have sy := bkA_size F (p', q')
  have x0 : (bkA F (p, q))[0]? = some (.int .i32 p) := rfl
  have x1 : (bkA F (p, q))[1]? = some (.int .i32 q) := rfl
  have y0 : (bkA F (p', q'))[0]? = some (.int .i32 p') := rfl
  have y1 : (bkA F (p', q'))[1]? = some (.int .i32 q') := rfl
  show Calls _ _ _ _ fun e w' => e = .returned (.int .i64 (cmpR p q p' q')) ∧ _
  generalize bkA F (p, q) = X at sx x0 x1 ⊢
  generalize bkA F (p', q') = Y at sy y0 y1 ⊢
  generalize cmpR p q p' q' = r at CM ⊢
  obtain ⟨W0, hW0⟩ : ∃ W0, (w.alloc (.cells X 73)).alloc (.cells Y 73) = W0 := ⟨_, rfl⟩
  have A0 : W0.heap[w.heap.size]? = some (.cells X 73 (0, 0)) := by rw [← hW0]; exact (Below.heap_alloc _ _ _ (by simp)).trans (World.alloc_heap_new w _)
  have A1 : W0.heap[w.heap.size + 1]? = some (.cells Y 73 (0, 0)) := by
    rw [← hW0]
    have := World.alloc_heap_new (w.alloc (.cells X 73)) (.cells Y 73)
    rw [World.size_alloc] at this
    exact this
  have C0 : W0.cell? ⟨w.heap.size, 0, none⟩ = some (.int .i32 p) := (Lib.cell_of_heap A0 0).trans x0
  have C1 : W0.cell? ⟨w.heap.size, 1, none⟩ = some (.int .i32 q) := (Lib.cell_of_heap A0 1).trans x1
  have C2 : W0.cell? ⟨w.heap.size + 1, 0, none⟩ = some (.int .i32 p') := (Lib.cell_of_heap A1 0).trans y0
  have C3 : W0.cell? ⟨w.heap.size + 1, 1, none⟩ = some (.int .i32 q') := (Lib.cell_of_heap A1 1).trans y1
  have AB : Hid (BelD w.heap.size w W0) := Lib.hid (by rw [← hW0]; exact ((BelD.refl _ w).alloc (Nat.le_refl _) _).alloc (by simp) _)
  clear A0 A1 x0 x1 y0 y1 sx sy
  go_enter Try.func99, Try.ntmps99
  go_wp2_with fail
  refine (CM _).mono ?_
  rintro e w2 ⟨rfl, b⟩
  have B2 := Lib.hid (AB.out.trans (b.mono AB.out.size))
  clear b
  go_wp2
  go_ret
  exact ⟨rfl, B2.out⟩
theorem encB_arr (F : MF) (c : Int × Int) : (encB F c).toArray = bkA F c := by rw [← bkA_list]
theorem cmpLaysB (F : MF) (blk n : Nat) (w : World) : CmpLays Try.prog 99 #[] (encB F) 18 cfP blk 0 n w := fun _ _ _ _ x y => by
  have := fun W => (cmpBlk F x y W).mono fun _ _ h => (⟨h.1, h.2.grown⟩ : _ ∧ _)
  rw [← encB_arr, ← encB_arr] at this
  exact this _
theorem flatK_bks (F : MF) (K : List (Int × Int)) : (Go.Sort.flatK (encB F) 18 K.toArray).toList = bksV F K := by
  refine bksV_ext (by simp) fun i j hi hj => ?_
  have h1 : i * 18 + j < (Go.Sort.flatK (encB F) 18 K.toArray).size := by simp; omega
  have h2 := Go.Sort.get_flatK (encB F) 18 K.toArray (i * 18 + j) (by simp; omega)
  rw [getElem!_pos (Go.Sort.flatK (encB F) 18 K.toArray) _ h1] at h2
  rw [Array.getElem?_toList, Array.getElem?_eq_getElem h1, h2]
  have e1 : (i * 18 + j) / 18 = i := by omega
  have e2 : (i * 18 + j) % 18 = j := by omega
  have h3 := encB_at F K[i]! j hj
  rw [e1, e2]
  have e4 : K.toArray[i]! = K[i]! := by simp
  rw [e4]
  have hl : j < (encB F K[i]!).length := by rw [encB_len]; exact hj
  rw [List.getElem?_eq_getElem hl] at h3
  rw [getElem!_pos _ j hl]
  exact h3
def SF0B : Prop := ∀ (F : MF) (blk cap : Nat) (d : Array (Int × Int)) (w : World), CmpLays Try.prog 99 #[] (encB F) 18 cfP blk 0 d.size w → Go.Sort.HoldsK (encB F) 18 w blk 0 d → blk < w.heap.size → d.size < 4611686018427387904 →
  Calls Try.prog 98 #[.slice (some ⟨blk, 0, none⟩) d.size cap, .func (.func 99) #[] #[]] w fun e w' => e = .returned (.tuple #[]) ∧ ∃ d' n os, Go.Sort.PermIn 0 d.size d d' ∧ Go.Sort.SortedIn (Go.Proofs.ltOf cfP) 0 d.size d' ∧ w' = sortWorldK (encB F) 18 w blk 0 n d' os
def SFNB : Prop := ∀ w, Calls Try.prog 98 #[.slice none 0 0, .func (.func 99) #[] #[]] w fun e w' => e = .returned (.tuple #[]) ∧ w' = w
theorem heap_sortedB {F : MF} {W : World} {g : Nat} {cur : Array Value} {t : TypeId} {fr : Nat × Nat} (hg : W.heap[g]? = some (.cells cur t fr)) (n : Nat) (d' : Array (Int × Int)) (os : Array Obj) : (sortWorldK (encB F) 18 W g 0 n d' os).heap[g]? = some (.cells (Go.Sort.putCells id 0 (Go.Sort.flatK (encB F) 18 d') cur) t fr) := by
  have hl := (Array.getElem?_eq_some_iff.1 hg).1
  show ((W.heap.modify g (Go.Sort.onCells (Go.Sort.putCells id 0 (Go.Sort.flatK (encB F) 18 d')))) ++ os)[g]? = _
  rw [Array.getElem?_append_left (by simpa using hl), Array.getElem?_modify, if_pos rfl, hg]
  rfl
theorem heap_sorted_farB {F : MF} {W : World} {g k : Nat} (hk : k < W.heap.size) (hne : k ≠ g) (n : Nat) (d' : Array (Int × Int)) (os : Array Obj) : (sortWorldK (encB F) 18 W g 0 n d' os).heap[k]? = W.heap[k]? := by
  show ((W.heap.modify g (Go.Sort.onCells (Go.Sort.putCells id 0 (Go.Sort.flatK (encB F) 18 d')))) ++ os)[k]? = _
  rw [Array.getElem?_append_left (by simpa using hk), Array.getElem?_modify, if_neg (fun e => hne e.symm)]
theorem sortsB_of (h0 : SF0B) (hN : SFNB) : SortsB := by
  intro B v F K W hB hL ho
  obtain ⟨hlen, ⟨rfl, hz⟩ | ⟨g, cap, cur, rfl, hbg, hg, hnc, hcm, hcs, htk⟩⟩ := ho
  · have hL0 : K = [] := List.eq_nil_of_length_eq_zero hz
    subst hL0
    refine (hN W).mono ?_
    rintro e w' ⟨rfl, rfl⟩
    exact ⟨rfl, [], List.Perm.refl _, List.Pairwise.nil, World.ownsRow_nil _ _ _ _, ⟨rfl, rfl, rfl, Nat.le_refl _, fun _ _ _ => rfl⟩⟩
  · have hgl := (Array.getElem?_eq_some_iff.1 hg).1
    have hH : Go.Sort.HoldsK (encB F) 18 W g 0 K.toArray := by
      intro j hj
      have hj2 : j < K.length * 18 := by simpa using hj
      refine ⟨?_, ?_⟩
      · rw [Nat.zero_add, Lib.cell_of_heap hg]
        have e1 : cur[j]? = (cur.toList.take (K.length * 18))[j]? := by rw [List.getElem?_take_of_lt hj2, Array.getElem?_toList]
        rw [e1, htk, ← flatK_bks, Array.getElem?_toList, Array.getElem?_eq_getElem hj, getElem!_pos _ j hj]
        rfl
      · simp [World.frozen?, hg]
    have hsz : K.toArray.size = K.length := by simp
    have hc := h0 F g cap K.toArray W (cmpLaysB F g _ W) hH hgl (by rw [hsz]; omega)
    rw [hsz] at hc
    refine hc.mono ?_
    rintro e w' ⟨rfl, d', n, os, hp, hs, rfl⟩
    have hd : d'.size = K.length := by rw [hp.1, hsz]
    have hperm : d'.toList.Perm K := by
      have := hp.2.2
      rw [← hd] at this
      rw [ext_all] at this
      have e2 : (K.toArray.extract 0 d'.size).toList = K := by rw [hd]; simp
      rwa [e2] at this
    have hF : Go.Sort.flatK (encB F) 18 d' = Go.Sort.flatK (encB F) 18 d'.toList.toArray := by simp
    refine ⟨rfl, d'.toList, hperm, ?_, ⟨by rw [bksV_len], .inr ⟨g, cap, _, by simp [hd], hbg, heap_sortedB hg n d' os, by simp [hd]; exact hnc, hcm, by simp [Go.Sort.putCells]; exact hcs, ?_⟩⟩, ⟨rfl, rfl, rfl, ?_, fun k hk hne => ?_⟩⟩
    · rw [List.pairwise_iff_getElem]
      intro i j hi hj hij hlt
      have h3 := hs i j (Nat.zero_le _) hij (by simpa [hd] using hj)
      rw [getElem!_pos _ j (by simpa using hj), getElem!_pos _ i (by simpa using hi)] at h3
      rw [← ltP_cf] at hlt
      simp only [Array.getElem_toList] at hlt
      rw [hlt] at h3
      cases h3
    · have h4 := take_put (Go.Sort.flatK (encB F) 18 d') cur (by simp [hd]; rw [hcs]; exact Nat.mul_le_mul hnc (Nat.le_refl _))
      have h5 : (Go.Sort.flatK (encB F) 18 d').size = d'.toList.length * 18 := by simp
      rw [h5] at h4
      rw [h4, hF, flatK_bks]
    · show W.heap.size ≤ ((W.heap.modify g _) ++ os).size
      simp
    · exact heap_sorted_farB hk (fun e => hne (by rw [e]; rfl)) n d' os
theorem ins_noneB (fv : Value) (w : World) : Calls Try.prog 156 #[.slice none 0 0, .int .i64 0, .int .i64 0, fv] w fun e w' => e = .returned (.tuple #[]) ∧ w' = w := by
  go_enter Try.func156, Try.ntmps156
  go_wp2
  refine wp_loop_rounds 1 ?_
  rw [rounds_succ]
  go_wp2
  go_end0
  exact ⟨rfl, rfl⟩
set_option maxRecDepth 20000 in
set_option maxHeartbeats 2000000 in
theorem pdq_noneB (lim : Int) (fv : Value) (w : World) : Calls Try.prog 133 #[.slice none 0 0, .int .i64 0, .int .i64 0, .int .i64 lim, fv] w fun e w' => e = .returned (.tuple #[]) ∧ w' = w := by
  have hi := fun W => ins_noneB fv W
  go_enter Try.func133, Try.ntmps133
  go_wp2
  refine wp_loop_rounds 1 ?_
  rw [rounds_succ]
  go_wp2_with (go_at_call 156; refine (hi _).mono ?_; rintro e w' ⟨rfl, rfl⟩)
  (try simp only [Exit.inBlock, Exit.then]); refine bodyPost_ret (results_none rfl _ _ _) rfl ?_
  exact ⟨rfl, rfl⟩
theorem sfnb_of (hl : ∀ W, Calls Try.prog 134 #[.int .u64 0] W fun e w' => (∃ n, e = .returned (.int .i64 n)) ∧ w' = W) : SFNB := by
  intro w
  have hp := fun lim W => pdq_noneB lim (.func (.func 99) #[] #[]) W
  go_enter Try.func98, Try.ntmps98
  go_wp2_with (first | (go_at_call 134; refine (hl _).mono ?_; rintro e w' ⟨⟨lim, rfl⟩, rfl⟩) | (go_at_call 133; refine (hp _ _).mono ?_; rintro e w' ⟨rfl, rfl⟩))
  go_end0
  exact ⟨rfl, rfl⟩
end Go.Proofs.Ythfmkejdpflpcaa
