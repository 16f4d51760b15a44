/-
  BLOCKS IN ROWS OF A CALL's OWN: masks by corners (F), listed by their corners (K).
-/
import Derived.Test.YthfmkejdpflpcaaGaa
import Derived.Test.YthfmkejdpflpcaaJk
import Derived.Test.YthfmkejdpflpcaaGcc
import Derived.Test.YthfmkejdpflpcaaJm
namespace Go.Proofs.Ythfmkejdpflpcaa
open Go.ChangeShapes Go.WideShapes Go.ChangeAt Go.RowKit
abbrev MF := Int → Int → Nat → Int
def encB (F : MF) (c : Int × Int) : List Value := two c.1 c.2 ++ (M16 (F c.1 c.2)).toList
def bksV (F : MF) : List (Int × Int) → List Value
  | [] => []
  | c :: K => encB F c ++ bksV F K
def bkc (F : MF) (c : Int × Int) (j : Nat) : Value := if j = 0 then .int .i32 c.1 else if j = 1 then .int .i32 c.2 else .int .u16 (F c.1 c.2 (j - 2))
theorem encB_len (F : MF) (c : Int × Int) : (encB F c).length = 18 := by simp [encB, two, arr]
theorem encB_at (F : MF) (c : Int × Int) (j : Nat) (h : j < 18) : (encB F c)[j]? = some (bkc F c j) := by
  unfold encB bkc
  match j, h with
  | 0, _ => rfl
  | 1, _ => rfl
  | j + 2, h =>
    rw [List.getElem?_append_right (by simp [two])]
    have e : j + 2 - (two c.1 c.2).length = j := by simp [two]
    rw [e, if_neg (by omega), if_neg (by omega), Array.getElem?_toList, arr_get _ _ _ _ (by omega)]
    rfl
theorem encB_one (F : MF) (c : Int × Int) : ∀ u ∈ encB F c, u.oneCell' = true := by
  intro u hu
  obtain ⟨j, hj⟩ := List.mem_iff_getElem?.1 hu
  have hl := (List.getElem?_eq_some_iff.1 hj).1
  rw [encB_len] at hl
  rw [encB_at F c j hl] at hj
  injection hj with hj
  rw [← hj]
  unfold bkc
  split
  · rfl
  · split <;> rfl
theorem bksV_len (F : MF) : ∀ K, (bksV F K).length = K.length * 18
  | [] => rfl
  | c :: K => by
    show (encB F c ++ bksV F K).length = _
    rw [List.length_append, encB_len, bksV_len F K, List.length_cons]
    omega
theorem bksV_one' (F : MF) : ∀ K, ∀ u ∈ bksV F K, u.oneCell' = true
  | [], u, h => by cases h
  | c :: K, u, h => by
    rcases List.mem_append.1 (show u ∈ encB F c ++ bksV F K from h) with h | h
    · exact encB_one F c u h
    · exact bksV_one' F K u h
theorem bksV_append (F : MF) : ∀ K K', bksV F (K ++ K') = bksV F K ++ bksV F K'
  | [], _ => rfl
  | c :: K, K' => by
    show encB F c ++ bksV F (K ++ K') = encB F c ++ bksV F K ++ bksV F K'
    rw [bksV_append F K K', List.append_assoc]
theorem bksV_one (F : MF) (c : Int × Int) : bksV F [c] = encB F c := by simp [bksV]
theorem bksV_at (F : MF) : ∀ (K : List (Int × Int)) (i j : Nat), i < K.length → j < 18 → (bksV F K)[i * 18 + j]? = some (bkc F K[i]! j)
  | [], i, j, h, _ => absurd h (by simp)
  | c :: K, 0, j, _, hj => by
    show (encB F c ++ bksV F K)[0 * 18 + j]? = _
    rw [Nat.zero_mul, Nat.zero_add, List.getElem?_append_left (by rw [encB_len]; exact hj), encB_at F c j hj]
    rfl
  | c :: K, i + 1, j, hi, hj => by
    show (encB F c ++ bksV F K)[(i + 1) * 18 + j]? = _
    rw [List.getElem?_append_right (by rw [encB_len]; omega), encB_len, show (i + 1) * 18 + j - 18 = i * 18 + j by omega, bksV_at F K i j (by simpa using hi) hj]
    simp
theorem bksV_ext {F : MF} {K : List (Int × Int)} {L : List Value} (hl : L.length = K.length * 18) (h : ∀ i j, i < K.length → j < 18 → L[i * 18 + j]? = some (bkc F K[i]! j)) : L = bksV F K := by
  apply List.ext_getElem?
  intro t
  by_cases ht : t < K.length * 18
  · have e : t = t / 18 * 18 + t % 18 := by omega
    rw [e, h (t / 18) (t % 18) (by omega) (by omega), bksV_at F K (t / 18) (t % 18) (by omega) (by omega)]
  · rw [List.getElem?_eq_none (by omega), List.getElem?_eq_none (by rw [bksV_len]; omega)]
theorem bkc_congr {F F' : MF} {c : Int × Int} (h : ∀ y, y < 16 → F c.1 c.2 y = F' c.1 c.2 y) {j : Nat} (hj : j < 18) : bkc F c j = bkc F' c j := by
  unfold bkc
  split
  · rfl
  · split
    · rfl
    · rw [h (j - 2) (by omega)]
theorem bksV_congr {F F' : MF} {K : List (Int × Int)} (h : ∀ i, i < K.length → ∀ y, y < 16 → F K[i]!.1 K[i]!.2 y = F' K[i]!.1 K[i]!.2 y) : bksV F K = bksV F' K :=
  bksV_ext (bksV_len F K) fun i j hi hj => by rw [bksV_at F K i j hi hj, bkc_congr (h i hi) hj]
/-- one block put into the list -/
theorem bksV_set (F : MF) (K : List (Int × Int)) (p : Nat) (c : Int × Int) (hp : p < K.length) : splice (bksV F K) (p * 18) (encB F c) = bksV F (K.set p c) := by
  have hl : (splice (bksV F K) (p * 18) (encB F c)).length = K.length * 18 := by rw [length_splice _ _ _ (by rw [encB_len, bksV_len]; omega), bksV_len]
  refine bksV_ext (by rw [hl, List.length_set]) fun i j hi hj => ?_
  rw [List.length_set] at hi
  unfold splice
  have h1 : (List.take (p * 18) (bksV F K)).length = p * 18 := by rw [List.length_take, bksV_len]; omega
  by_cases hip : i < p
  · rw [List.getElem?_append_left (by rw [h1]; omega), List.getElem?_take_of_lt (by omega), bksV_at F K i j hi hj]
    congr 2
    rw [getElem!_pos (K.set p c) i (by rw [List.length_set]; exact hi), getElem!_pos K i hi, List.getElem_set_ne (by omega)]
  · rw [List.getElem?_append_right (by rw [h1]; omega), h1]
    by_cases hip2 : i = p
    · subst hip2
      rw [List.getElem?_append_left (by rw [encB_len]; omega), show i * 18 + j - i * 18 = j by omega, encB_at F c j hj]
      rw [getElem!_pos (K.set i c) i (by rw [List.length_set]; exact hi), List.getElem_set_self]
    · rw [List.getElem?_append_right (by rw [encB_len]; omega), encB_len, List.getElem?_drop, show p * 18 + 18 + (i * 18 + j - p * 18 - 18) = i * 18 + j by omega, bksV_at F K i j hi hj]
      congr 2
      rw [getElem!_pos (K.set p c) i (by rw [List.length_set]; exact hi), getElem!_pos K i hi, List.getElem_set_ne (by omega)]
/-- the mask of one block put anew: the corner stands there alone -/
theorem bksV_turn (F : MF) (K : List (Int × Int)) (p : Nat) (m : Nat → Int) (hp : p < K.length) (hu : ∀ i, i < K.length → i ≠ p → K[i]! ≠ K[p]!) : splice (bksV F K) (p * 18 + 2) (M16 m).toList = bksV (putM F K[p]!.1 K[p]!.2 m) K := by
  have ha : (M16 m).toList.length = 16 := by simp [arr]
  have hl : (splice (bksV F K) (p * 18 + 2) (M16 m).toList).length = K.length * 18 := by rw [length_splice _ _ _ (by rw [ha, bksV_len]; omega), bksV_len]
  refine bksV_ext hl fun i j hi hj => ?_
  unfold splice
  have h1 : (List.take (p * 18 + 2) (bksV F K)).length = p * 18 + 2 := by rw [List.length_take, bksV_len]; omega
  have hne : i ≠ p → bkc F K[i]! j = bkc (putM F K[p]!.1 K[p]!.2 m) K[i]! j := fun hip => bkc_congr (fun y _ => by
    unfold putM
    rw [if_neg]
    rintro ⟨e1, e2⟩
    exact hu i hi hip (Prod.ext e1 e2)) hj
  by_cases hip : i < p
  · rw [List.getElem?_append_left (by rw [h1]; omega), List.getElem?_take_of_lt (by omega), bksV_at F K i j hi hj, hne (by omega)]
  · by_cases hip2 : i = p
    · subst hip2
      by_cases hj2 : j < 2
      · rw [List.getElem?_append_left (by rw [h1]; omega), List.getElem?_take_of_lt (by omega), bksV_at F K i j hi hj]
        congr 1
        unfold bkc
        match j, hj2 with
        | 0, _ => rfl
        | 1, _ => rfl
      · rw [List.getElem?_append_right (by rw [h1]; omega), h1, List.getElem?_append_left (by rw [ha]; omega), show i * 18 + j - (i * 18 + 2) = j - 2 by omega, Array.getElem?_toList, arr_get _ _ _ _ (by omega)]
        congr 1
        unfold bkc putM
        rw [if_neg (by omega), if_neg (by omega), if_pos ⟨rfl, rfl⟩]
    · rw [List.getElem?_append_right (by rw [h1]; omega), h1, List.getElem?_append_right (by rw [ha]; omega), ha, List.getElem?_drop, show p * 18 + 2 + 16 + (i * 18 + j - (p * 18 + 2) - 16) = i * 18 + j by omega, bksV_at F K i j hi hj, hne hip2]
/-! the flat form -/
def flB (F : MF) (K : List (Int × Int)) (j : Nat) : Int := if j % 18 = 0 then K[j / 18]!.1 else if j % 18 = 1 then K[j / 18]!.2 else F K[j / 18]!.1 K[j / 18]!.2 (j % 18 - 2)
theorem flB_bcell (F : MF) (K : List (Int × Int)) (t : Nat) (h : t < 18 * K.length) : (bksV F K)[t]? = some (bcell (flB F K) t) := by
  have e : t = t / 18 * 18 + t % 18 := by omega
  conv => lhs; rw [e]
  rw [bksV_at F K (t / 18) (t % 18) (by omega) (by omega)]
  congr 1
  unfold bkc bcell flB
  split
  · rw [if_pos (by omega)]
  · split
    · rw [if_pos (by omega)]
    · rw [if_neg (by omega)]
def OB (B : Nat) (v : Value) (F : MF) (K : List (Int × Int)) (w : World) : Prop := w.ownsRow B 73 18 v K.length (bksV F K)
theorem OB.mono {B B' : Nat} {v : Value} {F : MF} {K : List (Int × Int)} {w : World} (h : OB B v F K w) (hb : B' ≤ B) : OB B' v F K w := own_mono hb h
theorem OB.far {B : Nat} {v : Value} {F : MF} {K : List (Int × Int)} {w : World} (h : OB B v F K w) {g : Nat} (hg : g < B) : v.ownBlock ≠ some g := fun e => by
  have := (World.ownsRow.lt h g e).1
  omega
theorem OB.len {B : Nat} {v : Value} {F : MF} {K : List (Int × Int)} {w : World} (h : OB B v F K w) : ∃ a cap, v = .slice a K.length cap := by
  rcases h.2 with ⟨rfl, h0⟩ | ⟨g, cap, cur, rfl, _⟩
  · exact ⟨none, 0, by rw [h0]⟩
  · exact ⟨_, cap, rfl⟩
/-- an own row, opened -/
theorem OB.block {B : Nat} {v : Value} {F : MF} {K : List (Int × Int)} {w : World} (h : OB B v F K w) (h0 : 0 < K.length) : ∃ g cap cur, v = .slice (some ⟨g, 0, none⟩) K.length cap ∧ B ≤ g ∧ w.heap[g]? = some (.cells cur 73 (0, 0)) ∧ K.length ≤ cap ∧ cap ≤ maxLen ∧ cur.size = cap * 18 ∧ cur.toList.take (K.length * 18) = bksV F K := by
  rcases h.2 with ⟨_, hz⟩ | ⟨g, cap, cur, hv, hb, hg, hn, hc, hs, ht⟩
  · omega
  · exact ⟨g, cap, cur, hv, hb, hg, hn, hc, hs, ht⟩
theorem OB.bl {B : Nat} {F : MF} {K : List (Int × Int)} {w : World} {a : Option Addr} {n cap : Nat} (h : OB B (.slice a n cap) F K w) (hn : n = K.length) : BlR w.heap.size w a n (flB F K) := by
  subst hn
  by_cases h0 : K.length = 0
  · exact .inl h0
  · obtain ⟨g, cap, cur, hv, hb, hg, -, -, hs, ht⟩ := h.block (by omega)
    simp only [Value.slice.injEq] at hv
    obtain ⟨rfl, -, -⟩ := hv
    refine .inr ⟨g, 0, rfl, (Array.getElem?_eq_some_iff.1 hg).1, fun j hj => ?_⟩
    rw [Nat.zero_add, Lib.cell_of_heap hg]
    have e1 : cur[j]? = (cur.toList.take (K.length * 18))[j]? := by rw [List.getElem?_take_of_lt (by omega), Array.getElem?_toList]
    rw [e1, ht, flB_bcell F K j hj]
theorem splice_get (xs ys : List Value) (o j : Nat) (h : o + ys.length ≤ xs.length) : (splice xs o ys)[j]? = if j < o then xs[j]? else if j < o + ys.length then ys[j - o]? else xs[j]? := by
  unfold splice
  have h1 : (List.take o xs).length = o := by rw [List.length_take]; omega
  by_cases hj1 : j < o
  · rw [if_pos hj1, List.getElem?_append_left (by omega), List.getElem?_take_of_lt hj1]
  · rw [if_neg hj1, List.getElem?_append_right (by omega), h1]
    by_cases hj2 : j < o + ys.length
    · rw [if_pos hj2, List.getElem?_append_left (by omega)]
    · rw [if_neg hj2, List.getElem?_append_right (by omega), List.getElem?_drop, show o + ys.length + (j - o - ys.length) = j by omega]
/-- cells of an own row put anew -/
theorem own_put {B n g cap o : Nat} {cur : Array Value} {e : TypeId} {xs ys : List Value} {w : World} (hb : B ≤ g) (hg : w.heap[g]? = some (.cells cur e (0, 0))) (hn : n ≤ cap) (hc : cap ≤ maxLen) (hs : cur.size = cap * 18) (ht : cur.toList.take (n * 18) = xs) (hy : o + ys.length ≤ n * 18) :
    (w.setRow g (splice cur.toList o ys).toArray).ownsRow B e 18 (.slice (some ⟨g, 0, none⟩) n cap) n (splice xs o ys) := by
  have hcl : cur.toList.length = cap * 18 := by simp [hs]
  have hm : n * 18 ≤ cap * 18 := Nat.mul_le_mul_right _ hn
  have hL : (splice cur.toList o ys).length = cap * 18 := by rw [length_splice _ _ _ (by omega), hcl]
  have hx : xs.length = n * 18 := by rw [← ht, List.length_take, hcl]; omega
  have hX : (splice xs o ys).length = n * 18 := by rw [length_splice _ _ _ (by omega), hx]
  refine ⟨hX, .inr ⟨g, cap, _, rfl, hb, setRow_heap _ _ _ _ _ _ hg, hn, hc, by simp only [List.size_toArray]; exact hL, ?_⟩⟩
  show List.take (n * 18) (splice cur.toList o ys) = _
  rw [← ht]
  apply List.ext_getElem?
  intro j
  have h3 : (splice (List.take (n * 18) cur.toList) o ys).length = n * 18 := by rw [ht]; exact hX
  by_cases hj : j < n * 18
  · rw [List.getElem?_take_of_lt hj, splice_get _ _ _ _ (by omega), splice_get _ _ _ _ (by rw [ht]; omega), List.getElem?_take_of_lt hj]
  · rw [List.getElem?_eq_none (by rw [List.length_take]; omega), List.getElem?_eq_none (by omega)]
/-! pictures -/
theorem asc_uniq : ∀ {K K' : List (Int × Int)}, K.Pairwise ltP → K'.Pairwise ltP → (∀ c, c ∈ K ↔ c ∈ K') → K = K'
  | [], [], _, _, _ => rfl
  | [], c :: K', _, _, h => absurd ((h c).2 (by simp)) (by simp)
  | c :: K, [], _, _, h => absurd ((h c).1 (by simp)) (by simp)
  | c :: K, c' :: K', h1, h2, h => by
    rw [List.pairwise_cons] at h1 h2
    have e : c = c' := by
      have h3 := (h c).1 (by simp)
      have h4 := (h c').2 (by simp)
      rw [List.mem_cons] at h3 h4
      rcases h3 with h3 | h3
      · exact h3
      · rcases h4 with h4 | h4
        · exact h4.symm
        · have h5 := h2.1 c h3
          have h6 := h1.1 c' h4
          unfold ltP at h5 h6
          omega
    subst e
    have hir : ∀ x, ltP c x → x ≠ c := fun x hx e => by subst e; unfold ltP at hx; omega
    rw [asc_uniq h1.2 h2.2 fun x => ⟨fun hx => by
      have := (h x).1 (List.mem_cons_of_mem _ hx)
      rw [List.mem_cons] at this
      exact this.resolve_left (hir x (h1.1 x hx)), fun hx => by
      have := (h x).2 (List.mem_cons_of_mem _ hx)
      rw [List.mem_cons] at this
      exact this.resolve_left (hir x (h2.1 x hx))⟩]
/-- K lists the corners whose masks have cells, in order -/
def PicK (F : MF) (K : List (Int × Int)) : Prop := K.Pairwise ltP ∧ ∀ p q, (p, q) ∈ K ↔ (C32 p ∧ C32 q) ∧ emptyF (F p q) = false
theorem PicK.uniq {F : MF} {K K' : List (Int × Int)} (h : PicK F K) (h' : PicK F K') : K = K' := asc_uniq h.1 h'.1 fun c => (h.2 c.1 c.2).trans (h'.2 c.1 c.2).symm
theorem emptyF_congr {f g : Nat → Int} (h : ∀ y, y < 16 → f y = g y) : emptyF f = emptyF g := by
  unfold emptyF
  rw [Bool.eq_iff_iff, List.all_eq_true, List.all_eq_true]
  refine ⟨fun k i hi => ?_, fun k i hi => ?_⟩
  · rw [← h i (by simpa using hi)]; exact k i hi
  · rw [h i (by simpa using hi)]; exact k i hi
theorem PicK.congr {F F' : MF} {K : List (Int × Int)} (h : PicK F K) (e : ∀ p q, C32 p → C32 q → ∀ y, y < 16 → F p q y = F' p q y) : PicK F' K := ⟨h.1, fun p q => (h.2 p q).trans
  ⟨fun ⟨⟨h1, h2⟩, h3⟩ => ⟨⟨h1, h2⟩, by rw [← emptyF_congr (e p q h1 h2)]; exact h3⟩, fun ⟨⟨h1, h2⟩, h3⟩ => ⟨⟨h1, h2⟩, by rw [emptyF_congr (e p q h1 h2)]; exact h3⟩⟩⟩
theorem PicK.c32 {F : MF} {K : List (Int × Int)} (h : PicK F K) {i : Nat} (hi : i < K.length) : C32 K[i]!.1 ∧ C32 K[i]!.2 := by
  rw [getElem!_pos _ i hi]
  exact ((h.2 _ _).1 (List.getElem_mem hi)).1
theorem PicK.one {F : MF} {K : List (Int × Int)} (h : PicK F K) {i j : Nat} (hi : i < K.length) (hj : j < K.length) (hij : i ≠ j) : K[i]! ≠ K[j]! := by
  rw [getElem!_pos _ i hi, getElem!_pos _ j hj]
  intro e
  rcases Nat.lt_or_gt_of_ne hij with hlt | hlt
  · have := List.pairwise_iff_getElem.1 h.1 i j hi hj hlt
    rw [e] at this
    unfold ltP at this
    omega
  · have := List.pairwise_iff_getElem.1 h.1 j i hj hi hlt
    rw [e] at this
    unfold ltP at this
    omega
theorem PicK.nil : PicK (fun _ _ => zI) [] := ⟨List.Pairwise.nil, fun p q => ⟨fun h => absurd h (by simp), fun ⟨_, h⟩ => absurd h (by rw [show emptyF zI = true from rfl]; simp)⟩⟩
end Go.Proofs.Ythfmkejdpflpcaa
