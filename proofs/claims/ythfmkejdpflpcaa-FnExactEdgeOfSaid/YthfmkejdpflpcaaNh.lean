/-
  PICTURES: a mask joined to the block of a corner (no program in sight).
-/
import Derived.Test.YthfmkejdpflpcaaNa
namespace Go.Proofs.Ythfmkejdpflpcaa
open Go.ChangeShapes Go.WideShapes Go.ChangeAt Go.RowKit
def orM (F : MF) (p q : Int) (m : Nat → Int) : MF := putM F p q (JoinMasksG (F p q) m)
def MBF (F : MF) : Prop := ∀ p q, MB (F p q)
theorem or_zero {v : Int} (hv : 0 ≤ v ∧ v ≤ 65535) : bits .or .u16 v 0 = v := by
  obtain ⟨n, rfl⟩ : ∃ n : Nat, v = n := ⟨v.toNat, by omega⟩
  rw [show (0 : Int) = ((0 : Nat) : Int) from rfl, u16_or_nat _ _ (by omega) (by omega)]
  simp
theorem zero_or {v : Int} (hv : 0 ≤ v ∧ v ≤ 65535) : bits .or .u16 0 v = v := by
  obtain ⟨n, rfl⟩ : ∃ n : Nat, v = n := ⟨v.toNat, by omega⟩
  rw [show (0 : Int) = ((0 : Nat) : Int) from rfl, u16_or_nat _ _ (by omega) (by omega)]
  simp
theorem or_none {a b : Int} (ha : 0 ≤ a ∧ a ≤ 65535) (hb : 0 ≤ b ∧ b ≤ 65535) (h : bits .or .u16 a b = 0) : a = 0 ∧ b = 0 := by
  obtain ⟨n, rfl⟩ : ∃ n : Nat, a = n := ⟨a.toNat, by omega⟩
  obtain ⟨m, rfl⟩ : ∃ m : Nat, b = m := ⟨b.toNat, by omega⟩
  rw [u16_or_nat _ _ (by omega) (by omega)] at h
  have h2 : n ||| m = 0 := by omega
  have h3 : n = 0 := by
    apply Nat.eq_of_testBit_eq
    intro i
    have := congrArg (fun z => Nat.testBit z i) h2
    simp only [Nat.testBit_or, Nat.zero_testBit, Bool.or_eq_false_iff] at this
    rw [this.1, Nat.zero_testBit]
  have h4 : m = 0 := by
    apply Nat.eq_of_testBit_eq
    intro i
    have := congrArg (fun z => Nat.testBit z i) h2
    simp only [Nat.testBit_or, Nat.zero_testBit, Bool.or_eq_false_iff] at this
    rw [this.2, Nat.zero_testBit]
  subst h3 h4
  exact ⟨rfl, rfl⟩
theorem joinG_at (a b : Nat → Int) (y : Nat) : JoinMasksG a b y = bits .or .u16 (a y) (b y) := rfl
theorem joinG_MB (a b : Nat → Int) : MB (JoinMasksG a b) := fun y _ => by rw [joinG_at]; exact u16_hi _ _ _
theorem orM_MB {F : MF} (h : MBF F) (p q : Int) (m : Nat → Int) : MBF (orM F p q m) := fun p' q' => by
  unfold orM putM
  split
  · exact joinG_MB _ _
  · exact h p' q'
theorem emptyF_iff {f : Nat → Int} : emptyF f = true ↔ ∀ y, y < 16 → f y = 0 := by
  unfold emptyF
  rw [List.all_eq_true]
  exact ⟨fun h y hy => by simpa [zI] using h y (by simpa using hy), fun h y hy => by simpa [zI] using h y (by simpa using hy)⟩
theorem join_empty {a b : Nat → Int} (ha : MB a) (hb : MB b) : emptyF (JoinMasksG a b) = (emptyF a && emptyF b) := by
  rw [Bool.eq_iff_iff, Bool.and_eq_true, emptyF_iff, emptyF_iff, emptyF_iff]
  exact ⟨fun h => ⟨fun y hy => (or_none (ha y hy) (hb y hy) (h y hy)).1, fun y hy => (or_none (ha y hy) (hb y hy) (h y hy)).2⟩, fun ⟨h1, h2⟩ y hy => by rw [joinG_at, h1 y hy, h2 y hy]; exact or_zero (by omega)⟩
/-- a mask without cells changes nothing -/
theorem orM_none {F : MF} (hF : MBF F) {p q : Int} {m : Nat → Int} (hm : emptyF m = true) (p' q' : Int) (y : Nat) (hy : y < 16) : F p' q' y = orM F p q m p' q' y := by
  unfold orM putM
  split
  · rename_i h
    obtain ⟨rfl, rfl⟩ := h
    rw [joinG_at, emptyF_iff.1 hm y hy, or_zero (hF _ _ y hy)]
  · rfl
theorem PicK.or_none {F : MF} {K : List (Int × Int)} (h : PicK F K) (hF : MBF F) {p q : Int} {m : Nat → Int} (hm : emptyF m = true) : PicK (orM F p q m) K := h.congr fun p' q' _ _ y hy => orM_none hF hm p' q' y hy
theorem OB.or_none {B : Nat} {v : Value} {F : MF} {K : List (Int × Int)} {w : World} (h : OB B v F K w) (hF : MBF F) {p q : Int} {m : Nat → Int} (hm : emptyF m = true) : OB B v (orM F p q m) K w := by
  unfold OB at h ⊢
  rw [← bksV_congr fun i _ y hy => orM_none hF hm _ _ y hy]
  exact h
/-- the corner is there -/
theorem PicK.or_in {F : MF} {K : List (Int × Int)} (h : PicK F K) (hF : MBF F) {p q : Int} {m : Nat → Int} (hm : MB m) (hin : (p, q) ∈ K) : PicK (orM F p q m) K := by
  refine ⟨h.1, fun p' q' => ?_⟩
  unfold orM putM
  split
  · rename_i e
    obtain ⟨rfl, rfl⟩ := e
    rw [join_empty (hF _ _) hm]
    have := (h.2 p' q').1 hin
    rw [this.2]
    exact ⟨fun _ => ⟨this.1, rfl⟩, fun _ => hin⟩
  · exact h.2 p' q'
/-- the corner is not there: its mask is the new one -/
theorem or_new_mask {F : MF} {K : List (Int × Int)} (h : PicK F K) {p q : Int} (hp : C32 p) (hq : C32 q) {m : Nat → Int} (hm : MB m) (hin : (p, q) ∉ K) (y : Nat) (hy : y < 16) : orM F p q m p q y = m y := by
  have he : emptyF (F p q) = true := by
    cases he : emptyF (F p q) with
    | true => rfl
    | false => exact absurd ((h.2 p q).2 ⟨⟨hp, hq⟩, he⟩) hin
  unfold orM putM
  rw [if_pos ⟨rfl, rfl⟩, joinG_at, emptyF_iff.1 he y hy, zero_or (hm y hy)]
theorem ltP_tri {a b : Int × Int} (h1 : ¬ ltP a b) (h2 : a ≠ b) : ltP b a := by
  rcases a with ⟨a1, a2⟩
  rcases b with ⟨b1, b2⟩
  unfold ltP at *
  simp only [ne_eq, Prod.mk.injEq] at *
  omega
theorem ltP_trans {a b c : Int × Int} (h1 : ltP a b) (h2 : ltP b c) : ltP a c := by
  unfold ltP at *
  omega
theorem asc_at {K : List (Int × Int)} (h : K.Pairwise ltP) {i j : Nat} (hij : i < j) (hj : j < K.length) : ltP K[i]! K[j]! := by
  rw [getElem!_pos K i (by omega), getElem!_pos K j hj]
  exact List.pairwise_iff_getElem.1 h i j (by omega) hj hij
theorem PicK.or_new {F : MF} {K : List (Int × Int)} (h : PicK F K) (hF : MBF F) {p q : Int} (hp : C32 p) (hq : C32 q) {m : Nat → Int} (hm : MB m) (hne : emptyF m = false) (hin : (p, q) ∉ K) {k : Nat} (hk : k ≤ K.length) (hlo : k = 0 ∨ ltP K[k - 1]! (p, q)) (hhi : k = K.length ∨ ltP (p, q) K[k]!) : PicK (orM F p q m) (K.take k ++ (p, q) :: K.drop k) := by
  have hpw : (K.take k ++ K.drop k).Pairwise ltP := by rw [List.take_append_drop]; exact h.1
  rw [List.pairwise_append] at hpw
  have h1 : ∀ a ∈ K.take k, ltP a (p, q) := fun a ha => by
    obtain ⟨i, hi⟩ := List.mem_iff_getElem?.1 ha
    have hl := (List.getElem?_eq_some_iff.1 hi).1
    rw [List.length_take] at hl
    rw [List.getElem?_take_of_lt (by omega)] at hi
    have ea : K[i]! = a := by rw [getElem!_pos K i (by omega)]; exact (List.getElem?_eq_some_iff.1 hi).2
    rcases hlo with h0 | h0
    · omega
    · rw [← ea]
      by_cases e : i = k - 1
      · rw [e]; exact h0
      · exact ltP_trans (asc_at h.1 (by omega) (by omega)) h0
  have h2 : ∀ a ∈ K.drop k, ltP (p, q) a := fun a ha => by
    obtain ⟨i, hi⟩ := List.mem_iff_getElem?.1 ha
    have hl := (List.getElem?_eq_some_iff.1 hi).1
    rw [List.length_drop] at hl
    rw [List.getElem?_drop] at hi
    have ea : K[k + i]! = a := by rw [getElem!_pos K (k + i) (by omega)]; exact (List.getElem?_eq_some_iff.1 hi).2
    rcases hhi with h0 | h0
    · omega
    · rw [← ea]
      by_cases e : i = 0
      · rw [e]; exact h0
      · exact ltP_trans h0 (asc_at h.1 (by omega) (by omega))
  refine ⟨?_, fun p' q' => ?_⟩
  · rw [List.pairwise_append, List.pairwise_cons]
    refine ⟨hpw.1, ⟨h2, hpw.2.1⟩, fun a ha b hb => ?_⟩
    rcases List.mem_cons.1 hb with rfl | hb
    · exact h1 a ha
    · exact hpw.2.2 a ha b hb
  · have hmem : (p', q') ∈ K.take k ++ (p, q) :: K.drop k ↔ (p', q') ∈ K ∨ (p' = p ∧ q' = q) := by
      rw [List.mem_append, List.mem_cons, Prod.mk.injEq]
      conv => rhs; rw [← List.take_append_drop k K, List.mem_append]
      constructor
      · rintro (h | h | h)
        · exact .inl (.inl h)
        · exact .inr h
        · exact .inl (.inr h)
      · rintro ((h | h) | h)
        · exact .inl h
        · exact .inr (.inr h)
        · exact .inr (.inl h)
    rw [hmem]
    by_cases e : p' = p ∧ q' = q
    · obtain ⟨rfl, rfl⟩ := e
      rw [emptyF_congr (or_new_mask h hp hq hm hin), hne]
      exact ⟨fun _ => ⟨⟨hp, hq⟩, rfl⟩, fun _ => .inr ⟨rfl, rfl⟩⟩
    · have e2 : orM F p q m p' q' = F p' q' := by unfold orM putM; rw [if_neg e]
      rw [e2, h.2]
      exact ⟨fun hh => hh.resolve_right e, .inl⟩
/-- the list with a corner at place k -/
def insK (K : List (Int × Int)) (k : Nat) (c : Int × Int) : List (Int × Int) := K.take k ++ c :: K.drop k
theorem insK_len (K : List (Int × Int)) (k : Nat) (c : Int × Int) : (insK K k c).length = K.length + 1 := by
  unfold insK
  rw [List.length_append, List.length_cons, List.length_take, List.length_drop]
  omega
theorem insK_get (K : List (Int × Int)) (k : Nat) (c : Int × Int) (hk : k ≤ K.length) (i : Nat) : (insK K k c)[i]? = if i < k then K[i]? else if i = k then some c else K[i - 1]? := by
  unfold insK
  have hl : (K.take k).length = k := by rw [List.length_take]; omega
  by_cases h1 : i < k
  · rw [if_pos h1, List.getElem?_append_left (by omega), List.getElem?_take_of_lt h1]
  · rw [if_neg h1, List.getElem?_append_right (by omega), hl]
    by_cases h2 : i = k
    · subst h2
      rw [if_pos rfl, Nat.sub_self, List.getElem?_cons_zero]
    · rw [if_neg h2, show i - k = (i - k - 1) + 1 by omega, List.getElem?_cons_succ, List.getElem?_drop, show k + (i - k - 1) = i - 1 by omega]
theorem get_bang {K : List (Int × Int)} {i : Nat} {c : Int × Int} (h : K[i]? = some c) : K[i]! = c := by
  obtain ⟨hl, e⟩ := List.getElem?_eq_some_iff.1 h
  rw [getElem!_pos K i hl, e]
theorem insK_at (K : List (Int × Int)) (k : Nat) (c : Int × Int) (hk : k ≤ K.length) : (insK K k c)[k]! = c := get_bang (by rw [insK_get K k c hk, if_neg (Nat.lt_irrefl _), if_pos rfl])
theorem insK_prev (K : List (Int × Int)) (j : Nat) (c : Int × Int) (hk : j + 1 ≤ K.length) : (insK K (j + 1) c)[j]! = K[j]! := by
  refine get_bang ?_
  rw [insK_get K (j + 1) c hk, if_pos (Nat.lt_succ_self _), List.getElem?_eq_getElem (by omega), getElem!_pos K j (by omega)]
theorem insK_start (K : List (Int × Int)) (c : Int × Int) : insK K K.length c = K ++ [c] := by
  unfold insK
  rw [List.take_length, List.drop_length]
theorem insK_swap (K : List (Int × Int)) (j : Nat) (c : Int × Int) (hk : j + 1 ≤ K.length) : ((insK K (j + 1) c).set (j + 1) K[j]!).set j c = insK K j c := by
  apply List.ext_getElem?
  intro i
  have hl := insK_len K (j + 1) c
  rw [insK_get K j c (by omega)]
  by_cases h1 : i = j
  · subst h1
    rw [if_neg (Nat.lt_irrefl _), if_pos rfl, List.getElem?_set_self (by rw [List.length_set]; omega)]
  · rw [List.getElem?_set_ne (Ne.symm h1)]
    by_cases h2 : i = j + 1
    · subst h2
      rw [List.getElem?_set_self (by omega), if_neg (by omega), if_neg (by omega), show j + 1 - 1 = j by omega, List.getElem?_eq_getElem (by omega), getElem!_pos K j (by omega)]
    · rw [List.getElem?_set_ne (Ne.symm h2), insK_get K (j + 1) c hk]
      by_cases h3 : i < j
      · rw [if_pos (by omega), if_pos h3]
      · rw [if_neg (by omega), if_neg h2, if_neg h3, if_neg h1]
end Go.Proofs.Ythfmkejdpflpcaa
