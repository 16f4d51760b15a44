/-
  A TEXT's PARTS BETWEEN A BYTE: the specification's l01Split.
-/
import Derived.Test.YtkijgadkgfapgaaDoorOwn
namespace Go.Proofs.YtkijgadkgfapgaaDoor
open Go.ChangeShapes Go.WideShapes Go.ChangeAt Go.RowKit
def strsC (q : List ByteArray) : List Value := q.map Value.string
/-- v is a slice of the call's own that holds the texts q -/
def OwnS (base : Nat) (v : Value) (q : List ByteArray) (w : World) : Prop := w.ownsRow base 9 1 v q.length (strsC q)
theorem OwnS.alloc {base : Nat} {v : Value} {q : List ByteArray} {w : World} (h : OwnS base v q w) (o : Obj) : OwnS base v q (w.alloc o) := World.ownsRow.alloc h o
theorem info_str : (Tryd.prog.info? 9).map (fun i => (i.zero, i.size, i.bytes)) = some (some (.string .empty), 1, 16) := by kernel_rfl
/-- 'out = append(out, s)' -/
theorem wpList_append_str {ops : Array Oper} {rest : List Oper} {o : Oper} {a : Act} {W : World} {Q : Exit → Act → World → Prop} (hgd : o.guard = none) (s x : Operand)
    (ho : o.op = .call { callee := .builtin .append, args := #[s, x], argTypes := #[59, 59] })
    (base : Nat) (v : Value) (q : List ByteArray) (c : ByteArray) (hs : a.eval s = v) (hown : OwnS base v q W) (g : Nat) (hx : a.eval x = .slice (some ⟨g, 0, none⟩) 1 1)
    (hc : W.cell? ⟨g, 0, none⟩ = some (.string c)) (hl : q.length ≤ 100000000) (hbase : base ≤ W.heap.size)
    (w0 : World) (hb : Below base w0 W)
    (h : ∀ v' w', OwnS base v' (q ++ [c]) w' → Below base w0 w' → wpList Tryd.prog ops Q rest (a.put o.dst v') w') : wpList Tryd.prog ops Q (o :: rest) a W := by
  obtain ⟨i0, hi, hz0, hz1, hz2⟩ := info_parts info_str
  refine wpList_append_own W hgd s x 59 ho base 9 i0 (.string .empty) 1 16 Tryd.underlying59 hi hz0 hz1 hz2 rfl (by decide) v q.length (strsC q) hs hown ⟨g, 0, none⟩ 1 1 [.string c] hx rfl ?_ ?_ (by unfold maxLen; omega) (by omega) hbase ?_
  · intro j u hj
    match j, hj with
    | 0, hj => simp at hj; subst hj; exact hc
    | j + 1, hj => simp at hj
  · intro u hu; simp at hu; subst hu; rfl
  · intro v' w' h1 h2 _
    refine h v' w' ?_ ?_
    · unfold OwnS
      rw [List.length_append, show strsC (q ++ [c]) = strsC q ++ [.string c] from by simp [strsC]]
      exact h1
    · exact hb.grown h2 hbase (fun k hk => (World.ownsRow.lt hown k hk).1)
/-- the texts between the bytes c -/
def splitL (c : UInt8) : List UInt8 → List (List UInt8)
  | [] => [[]]
  | x :: r => if x = c then [] :: splitL c r else match splitL c r with
    | [] => [[x]]
    | h :: t => (x :: h) :: t
theorem splitL_none (c : UInt8) : ∀ l : List UInt8, (∀ x ∈ l, x ≠ c) → splitL c l = [l]
  | [], _ => rfl
  | x :: r, h => by
    rw [splitL, if_neg (h x (by simp)), splitL_none c r (fun y hy => h y (by simp [hy]))]
theorem splitL_at (c : UInt8) : ∀ (p r : List UInt8), (∀ x ∈ p, x ≠ c) → splitL c (p ++ c :: r) = p :: splitL c r
  | [], r, _ => by simp [splitL]
  | x :: p, r, h => by
    rw [List.cons_append, splitL, if_neg (h x (by simp)), splitL_at c p r (fun y hy => h y (by simp [hy]))]
/-- so far: q the texts that are whole, the next one begins at b, and from b to k there is no c -/
structure Spl (c : UInt8) (l : List UInt8) (q : List ByteArray) (b k : Nat) : Prop where
  le : b ≤ k
  len : q.length ≤ k
  eq : splitL c l = q.map (·.data.toList) ++ splitL c (l.drop b)
  free : ∀ x ∈ (l.drop b).take (k - b), x ≠ c
theorem Spl.start (c : UInt8) (l : List UInt8) : Spl c l [] 0 0 := ⟨Nat.le_refl _, Nat.le_refl _, rfl, by simp⟩
theorem Spl.next {c : UInt8} {l : List UInt8} {q : List ByteArray} {b k : Nat} (h : Spl c l q b k) (hk : k < l.length) (hc : l[k]'hk ≠ c) : Spl c l q b (k + 1) := by
  obtain ⟨h1, h2, h3, h4⟩ := h
  refine ⟨by omega, by omega, h3, ?_⟩
  have e : (l.drop b).take (k + 1 - b) = (l.drop b).take (k - b) ++ [l[k]'hk] := by
    rw [show k + 1 - b = (k - b) + 1 from by omega, List.take_succ_eq_append_getElem (by rw [List.length_drop]; omega)]
    congr 1
    simp only [List.getElem_drop]
    congr 2
    omega
  rw [e]
  intro x hx
  rcases List.mem_append.1 hx with hx | hx
  · exact h4 x hx
  · simp at hx; subst hx; exact hc
theorem Spl.cut {c : UInt8} {l : List UInt8} {q : List ByteArray} {b k : Nat} (h : Spl c l q b k) (hk : k < l.length) (hc : l[k]'hk = c) (p : ByteArray) (hp : p.data.toList = (l.drop b).take (k - b)) : Spl c l (q ++ [p]) (k + 1) (k + 1) := by
  obtain ⟨h1, h2, h3, h4⟩ := h
  refine ⟨Nat.le_refl _, by simp; omega, ?_, by simp⟩
  have e : l.drop b = (l.drop b).take (k - b) ++ c :: l.drop (k + 1) := by
    rw [← hc, ← List.drop_eq_getElem_cons hk]
    have := (List.take_append_drop (k - b) (l.drop b)).symm
    rw [List.drop_drop, show b + (k - b) = k from by omega] at this
    exact this
  rw [h3, e, splitL_at c _ _ h4, List.map_append, List.append_assoc]
  simp [hp]
theorem Spl.fin {c : UInt8} {l : List UInt8} {q : List ByteArray} {b : Nat} (h : Spl c l q b l.length) (p : ByteArray) (hp : p.data.toList = l.drop b) : splitL c l = (q ++ [p]).map (·.data.toList) := by
  obtain ⟨h1, h2, h3, h4⟩ := h
  rw [List.take_of_length_le (by rw [List.length_drop]; omega)] at h4
  rw [h3, splitL_none c _ h4, List.map_append]
  simp [hp]
end Go.Proofs.YtkijgadkgfapgaaDoor
