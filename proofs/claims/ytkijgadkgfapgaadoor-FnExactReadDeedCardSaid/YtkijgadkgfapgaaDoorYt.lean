/-
  PLAIN MATHEMATICS: the deed with a text: the parts of a deed's text between blanks, as both sides cut it.
-/
import Derived.Test.YtkijgadkgfapgaaDoorYs
import Derived.Test.YtkijgadkgfapgaaDoorYq
import Derived.Lib.SplitLaws
import Derived.Lib.IndexLaws
namespace Go.Proofs.YtkijgadkgfapgaaDoor
open Go.ChangeShapes Go.WideShapes Go.ChangeAt Go.RowKit
theorem dgv_app : ∀ (l r : List UInt8) (a : Nat), digV a (l ++ r) = (digV a l).bind fun b => digV b r
  | [], r, a => by simp [digV]
  | x :: l, r, a => by
    rw [List.cons_append, digV, digV]
    split
    · exact dgv_app l r _
    · rfl
theorem dgv_one (d : Nat) (h : d < 10) (a : Nat) : digV a [UInt8.ofNat (48 + d)] = some (10 * a + d) := by
  have e : (UInt8.ofNat (48 + d)).toNat = 48 + d := by
    have key : ∀ a : Fin 10, (UInt8.ofNat (48 + a.val)).toNat = 48 + a.val := by decide +kernel
    exact key ⟨d, h⟩
  rw [digV, e, if_pos (by omega), digV]
  congr 1; omega
theorem dgv_dec : ∀ n : Nat, digV 0 (Lib.decDigits n) = some n := by
  intro n
  induction n using Nat.strongRecOn with
  | ind n ih =>
    by_cases h : n < 10
    · rw [Lib.decDigits_one h, dgv_one n h]; congr 1; omega
    · rw [Lib.decDigits.eq_def n, dif_neg h, dgv_app, ih (n / 10) (by omega)]
      simp only [Option.bind_some]
      rw [dgv_one (n % 10) (by omega)]
      congr 1; omega
theorem dgv_mem : ∀ n : Nat, ∀ x ∈ Lib.decDigits n, 48 ≤ x.toNat := by
  intro n
  induction n using Nat.strongRecOn with
  | ind n ih =>
    have key : ∀ a : Fin 10, 48 ≤ (UInt8.ofNat (48 + a.val)).toNat := by decide +kernel
    by_cases h : n < 10
    · rw [Lib.decDigits_one h]
      intro x hx
      simp only [List.mem_singleton] at hx
      subst hx
      exact key ⟨n, h⟩
    · rw [Lib.decDigits.eq_def n, dif_neg h]
      intro x hx
      rcases List.mem_append.1 hx with hx | hx
      · exact ih (n / 10) (by omega) x hx
      · simp only [List.mem_singleton] at hx
        subst hx
        exact key ⟨n % 10, by omega⟩
theorem dgv_free (n : Nat) : ∀ x ∈ Lib.decDigits n, x ≠ 32 := fun x hx e => by
  have := dgv_mem n x hx
  subst e; revert this; decide
theorem dgv_pos (n : Nat) : 1 ≤ (Lib.decDigits n).length := by
  by_cases h : n < 10
  · rw [dec_one h]; omega
  · rw [dec_more h]; omega
theorem smN_dec (m n : Nat) (h : (Lib.decDigits n).length ≤ m) : smN m (Lib.decDigits n) = some n := by
  unfold smN
  rw [if_neg (by
    rintro (e | e)
    · have := dgv_pos n
      rw [e] at this; simp at this
    · omega), dgv_dec]
theorem wdD_list (k : Int) : (∀ x ∈ (wdD k).data.toList, x ≠ 32) ∧ 4 ≤ (wdD k).data.toList.length := by
  unfold wdD
  repeat' (split; exact by decide)
  decide
theorem splitK_at (c : UInt8) (n : Nat) (p r : List UInt8) (hp : ∀ x ∈ p, x ≠ c) : Lib.splitK [c] 0 (n + 1) (p ++ c :: r) = p :: Lib.splitK [c] 0 n r := by
  have e : Lib.index (p ++ c :: r) [c] = (p.length : Int) := by
    refine Lib.index_first (by simp) ?_ ?_
    · simp [Lib.occAt]
    · intro j hj
      unfold Lib.occAt
      rw [List.drop_append_of_le_length (by omega), List.drop_eq_getElem_cons hj]
      simp only [List.cons_append, List.isPrefixOf, Bool.and_true, beq_eq_false_iff_ne]
      exact fun h => hp _ (List.getElem_mem hj) h.symm
  rw [Lib.splitK, e]
  rw [if_neg (by simp)]
  simp
theorem splitK_none (c : UInt8) (n : Nat) (p : List UInt8) (hp : ∀ x ∈ p, x ≠ c) : Lib.splitK [c] 0 n p = [p] := by
  cases n with
  | zero => rfl
  | succ n =>
    have e : Lib.index p [c] = -1 := by
      refine Lib.index_none ?_
      intro j hj
      unfold Lib.occAt
      by_cases h : j < p.length
      · rw [List.drop_eq_getElem_cons h]
        simp only [List.isPrefixOf, Bool.and_true, beq_eq_false_iff_ne]
        exact fun h' => hp _ (List.getElem_mem h) h'.symm
      · rw [List.drop_of_length_le (by omega)]; rfl
    rw [Lib.splitK, e]
    rfl
theorem splitL_pos (c : UInt8) : ∀ l : List UInt8, 1 ≤ (splitL c l).length
  | [] => by simp [splitL]
  | x :: r => by
    have := splitL_pos c r
    rw [splitL]
    split
    · simp
    · split
      · simp
      · simp
theorem splitL_len (c : UInt8) : ∀ l : List UInt8, (splitL c l).length ≤ l.length + 1
  | [] => by simp [splitL]
  | x :: r => by
    have := splitL_len c r
    rw [splitL]
    split
    · simp; omega
    · split
      · simp
      · rename_i h; rw [h] at this; simp at this ⊢; omega
/-- the parts of a deed's text -/
def wsD (k a b : Int) : List (List UInt8) := (wdD k).data.toList :: (if 1 < nmD k then [Lib.decDigits a.toNat, Lib.decDigits b.toNat] else if 0 < nmD k then [Lib.decDigits a.toNat] else [])
theorem num_list (x : Int) : (numT x).data.toList = 32 :: Lib.decDigits x.toNat := by
  unfold numT
  simp
theorem dtT_list (k a b : Int) (hv : vdB k a b = true) : (dtT k a b).data.toList = (wdD k).data.toList ++ (if 1 < nmD k then 32 :: (Lib.decDigits a.toNat ++ 32 :: Lib.decDigits b.toNat) else if 0 < nmD k then 32 :: Lib.decDigits a.toNat else []) := by
  unfold dtT
  rw [if_pos hv]
  rcases nmD_in k with h | h | h <;> rw [h] <;> simp [ByteArray.data_append, num_list]
theorem dtT_splitL (k a b : Int) (hv : vdB k a b = true) : splitL 32 (dtT k a b).data.toList = wsD k a b := by
  rw [dtT_list k a b hv]
  unfold wsD
  have h0 := (wdD_list k).1
  rcases nmD_in k with h | h | h <;> rw [h] <;> simp
  · exact splitL_none _ _ h0
  · rw [splitL_at _ _ _ h0, splitL_none _ _ (dgv_free _)]
  · rw [splitL_at _ _ _ h0, splitL_at _ _ _ (dgv_free _), splitL_none _ _ (dgv_free _)]
theorem dtT_splitK (k a b : Int) (hv : vdB k a b = true) : Lib.splitK [32] 0 2 (dtT k a b).data.toList = wsD k a b := by
  rw [dtT_list k a b hv]
  unfold wsD
  have h0 := (wdD_list k).1
  rcases nmD_in k with h | h | h <;> rw [h] <;> simp
  · exact splitK_none _ _ _ h0
  · rw [splitK_at _ _ _ _ h0, splitK_none _ _ _ (dgv_free _)]
  · rw [splitK_at _ _ _ _ h0, splitK_at _ _ _ _ (dgv_free _), splitK_none _ _ _ (dgv_free _)]
/-- what vdB says -/
theorem vdB_all {k a b : Int} (hv : vdB k a b = true) : 1 ≤ k ∧ k ≤ 9 ∧ 0 ≤ a ∧ a ≤ 999 ∧ 0 ≤ b ∧ b ≤ 999 ∧ (0 < nmD k ∨ a = 0) ∧ (1 < nmD k ∨ b = 0) := by
  unfold vdB at hv
  simpa [and_assoc] using hv
theorem dtT_size (k a b : Int) (hv : vdB k a b = true) : 4 ≤ (dtT k a b).size ∧ (dtT k a b).size ≤ 40 := by
  obtain ⟨_, _, h1, h2, h3, h4, _, _⟩ := vdB_all hv
  have e : (dtT k a b).size = (dtT k a b).data.toList.length := by rw [Array.length_toList]; rfl
  have l0 := (wdD_list k).2
  have l1 : (wdD k).data.toList.length ≤ 7 := by rw [Array.length_toList]; exact wdD_size k
  have la := dec_len a.toNat (by omega)
  have lb := dec_len b.toNat (by omega)
  rw [e, dtT_list k a b hv]
  generalize (wdD k).data.toList = WL at l0 l1 ⊢
  generalize Lib.decDigits a.toNat = LA at la ⊢
  generalize Lib.decDigits b.toNat = LB at lb ⊢
  rcases nmD_in k with h | h | h <;> rw [h] <;> simp [List.length_append] <;> omega
/-- the numbers of the deed of kind k, by the specification: of the words q -/
def aQ (k : Int) (q : List (List UInt8)) : Int := if 0 < nmD k then smallI (smN 9 (q.getD 1 [])) else 0
def bQ (k : Int) (q : List (List UInt8)) : Int := if 1 < nmD k then smallI (smN 9 (q.getD 2 [])) else 0
theorem spec_good {k a b : Int} (hv : vdB k a b = true) : aQ k (wsD k a b) = a ∧ bQ k (wsD k a b) = b ∧ (wsD k a b).getD 0 [] = (wdD k).data.toList := by
  obtain ⟨_, _, h1, h2, h3, h4, h5, h6⟩ := vdB_all hv
  have la := dec_len a.toNat (by omega)
  have lb := dec_len b.toNat (by omega)
  have sa := smN_dec 9 a.toNat (by omega)
  have sb := smN_dec 9 b.toNat (by omega)
  unfold aQ bQ wsD
  rcases nmD_in k with h | h | h <;> rw [h] <;> rw [h] at h5 h6 <;> simp at h5 h6 ⊢
  · omega
  · rw [sa]; simp [smallI]; omega
  · rw [sa, sb]; simp [smallI]; omega
/-- the numbers, by the program -/
def nP (q : List (List UInt8)) (i : Nat) : Int := match q[i]? with | none => 0 | some l => match smN 3 l with | some v => (v : Int) | none => 0
theorem prog_good {k a b : Int} (hv : vdB k a b = true) : nP (wsD k a b) 1 = a ∧ nP (wsD k a b) 2 = b := by
  obtain ⟨_, _, h1, h2, h3, h4, h5, h6⟩ := vdB_all hv
  have la := dec_len a.toNat (by omega)
  have lb := dec_len b.toNat (by omega)
  have sa := smN_dec 3 a.toNat (by omega)
  have sb := smN_dec 3 b.toNat (by omega)
  unfold nP wsD
  rcases nmD_in k with h | h | h <;> rw [h] <;> rw [h] at h5 h6 <;> simp at h5 h6 ⊢
  · omega
  · rw [sa]; simp; omega
  · rw [sa, sb]; simp; omega
/-- is the text that of a deed of kind k -/
def isD (T : ByteArray) (k a b : Int) : Prop := vdB k a b = true ∧ dtT k a b = T
theorem isD_spec {T : ByteArray} {k a b : Int} (h : isD T k a b) : aQ k (splitL 32 T.data.toList) = a ∧ bQ k (splitL 32 T.data.toList) = b ∧ (splitL 32 T.data.toList).getD 0 [] = (wdD k).data.toList := by
  rw [← h.2, dtT_splitL k a b h.1]
  exact spec_good h.1
theorem isD_prog {T : ByteArray} {k a b : Int} (h : isD T k a b) : nP (Lib.splitK [32] 0 2 T.data.toList) 1 = a ∧ nP (Lib.splitK [32] 0 2 T.data.toList) 2 = b := by
  rw [← h.2, dtT_splitK k a b h.1]
  exact prog_good h.1
/-- the specification's test -/
theorem spec_test {T : ByteArray} {k : Int} (h0 : (splitL 32 T.data.toList).getD 0 [] = (wdD k).data.toList) (h : dtT k (aQ k (splitL 32 T.data.toList)) (bQ k (splitL 32 T.data.toList)) = T) : isD T k (aQ k (splitL 32 T.data.toList)) (bQ k (splitL 32 T.data.toList)) := by
  refine ⟨?_, h⟩
  cases hv : vdB k (aQ k (splitL 32 T.data.toList)) (bQ k (splitL 32 T.data.toList)) with
  | true => rfl
  | false =>
    unfold dtT at h
    rw [hv] at h
    simp at h
    rw [← h] at h0
    have := (wdD_list k).2
    rw [← h0] at this
    simp [splitL] at this
open Classical in
/-- the numbers of the deed of kind k with this text -/
noncomputable def rdA (T : ByteArray) (k : Int) : Option (Int × Int) := if h : ∃ p : Int × Int, isD T k p.1 p.2 then some h.choose else none
theorem rdA_some {T : ByteArray} {k a b : Int} (h : isD T k a b) : rdA T k = some (a, b) := by
  have hx : ∃ p : Int × Int, isD T k p.1 p.2 := ⟨(a, b), h⟩
  unfold rdA
  rw [dif_pos hx]
  have g := hx.choose_spec
  obtain ⟨e1, e2, _⟩ := isD_spec h
  obtain ⟨f1, f2, _⟩ := isD_spec g
  congr 1
  exact Prod.ext (f1.symm.trans e1) (f2.symm.trans e2)
theorem rdA_none {T : ByteArray} {k : Int} (h : ∀ a b, ¬ isD T k a b) : rdA T k = none := by
  unfold rdA
  rw [dif_neg (by rintro ⟨p, hp⟩; exact h _ _ hp)]
theorem rdA_prog {T : ByteArray} {k : Int} (h : ¬ isD T k (nP (Lib.splitK [32] 0 2 T.data.toList) 1) (nP (Lib.splitK [32] 0 2 T.data.toList) 2)) : rdA T k = none := by
  refine rdA_none fun a b hh => h ?_
  obtain ⟨e1, e2⟩ := isD_prog hh
  rw [e1, e2]
  exact hh
theorem rdA_spec {T : ByteArray} {k : Int} (h : ¬ ((splitL 32 T.data.toList).getD 0 [] = (wdD k).data.toList ∧ dtT k (aQ k (splitL 32 T.data.toList)) (bQ k (splitL 32 T.data.toList)) = T)) : rdA T k = none := by
  refine rdA_none fun a b hh => h ?_
  obtain ⟨e1, e2, e3⟩ := isD_spec hh
  rw [e1, e2]
  exact ⟨e3, hh.2⟩
/-- the answer: kinds from k on, n of them -/
noncomputable def rdV (T : ByteArray) : Int → Nat → Value
  | _, 0 => .tuple #[.agg (D3 0 0 0), .int .i64 5]
  | k, n + 1 => match rdA T k with
    | some p => .tuple #[.agg (D3 k p.1 p.2), .int .i64 0]
    | none => rdV T (k + 1) n
theorem rdV_far (T : ByteArray) (h : ∀ k a b, ¬ isD T k a b) : ∀ (n : Nat) (k : Int), rdV T k n = .tuple #[.agg (D3 0 0 0), .int .i64 5]
  | 0, _ => rfl
  | n + 1, k => by rw [rdV, rdA_none (h k)]; exact rdV_far T h n (k + 1)
theorem rdV_long (T : ByteArray) (h : 40 < T.size) (k : Int) (n : Nat) : rdV T k n = .tuple #[.agg (D3 0 0 0), .int .i64 5] :=
  rdV_far T (fun k a b hh => by have := (dtT_size k a b hh.1).2; rw [hh.2] at this; omega) n k
theorem rdV_short (T : ByteArray) (h : T.size < 4) (k : Int) (n : Nat) : rdV T k n = .tuple #[.agg (D3 0 0 0), .int .i64 5] :=
  rdV_far T (fun k a b hh => by have := (dtT_size k a b hh.1).1; rw [hh.2] at this; omega) n k
theorem rdV_ten (T : ByteArray) : rdV T 0 10 = rdV T 1 9 := by
  rw [rdV, rdA_none (fun a b hh => by have := (vdB_all hh.1).1; omega)]
  rfl
theorem rdV_hit {T : ByteArray} {k a b : Int} {n : Nat} (h : isD T k a b) : rdV T k (n + 1) = .tuple #[.agg (D3 k a b), .int .i64 0] := by
  rw [rdV, rdA_some h]
theorem rdV_miss {T : ByteArray} {k : Int} {n : Nat} (h : rdA T k = none) : rdV T k (n + 1) = rdV T (k + 1) n := by
  rw [rdV, h]
end Go.Proofs.YtkijgadkgfapgaaDoor
