/-
  SLICES OF NARROW NUMBERS THAT THE CALL ITSELF BUILDS BY append.
-/
import Derived.Test.YtgjejolfkfpobaaSf
import Derived.Test.YtgjejolfkfpobaaSl
import Derived.OwnWalk
import Derived.Below
namespace Go.Proofs.Ytgjejolfkfpobaa
open Go.ChangeShapes Go.WideShapes Go.ChangeAt Go.RowKit
/-- the cells of numbers -/
def numC (l : List Nat) : List Value := l.map fun c => .float .f32 c
theorem numC_len (l : List Nat) : (numC l).length = l.length := by simp [numC]
theorem numC_app (l r : List Nat) : numC l ++ numC r = numC (l ++ r) := by simp [numC]
theorem numC_at (l : List Nat) (j : Nat) (h : j < l.length) : (numC l)[j]? = some (.float .f32 (l[j]?.getD 0)) := by simp [numC, h]
theorem numC_at' {l : List Nat} {j : Nat} {u : Value} (h : (numC l)[j]? = some u) : j < l.length ∧ u = .float .f32 (l[j]?.getD 0) := by
  have hj : j < l.length := by
    rcases Nat.lt_or_ge j l.length with h1 | h1
    · exact h1
    · rw [List.getElem?_eq_none (by rw [numC_len]; exact h1)] at h; cases h
  rw [numC_at l j hj] at h
  exact ⟨hj, (Option.some.inj h).symm⟩
/-- v is a slice of the call's own (its blocks begin at base) that holds the numbers l -/
def OwnF (base : Nat) (v : Value) (l : List Nat) (w : World) : Prop := w.ownsRow base 31 1 v l.length (numC l)
theorem OwnF.alloc {base : Nat} {v : Value} {l : List Nat} {w : World} (h : OwnF base v l w) (o : Obj) : OwnF base v l (w.alloc o) := World.ownsRow.alloc h o
theorem OwnF.drew {base : Nat} {v : Value} {l : List Nat} {w : World} (h : OwnF base v l w) : OwnF base v l w.drew := h
theorem add_off (g off j : Nat) : (⟨g, off, none⟩ : Addr).add j = ⟨g, off + j, none⟩ := by cases j <;> simp [Addr.add]
/-- 'out = append(out, part...)' -/
theorem wpList_append_f {ops : Array Oper} {rest : List Oper} {o : Oper} {a : Act} {W : World} {Q : Exit → Act → World → Prop} (hgd : o.guard = none) (s x : Operand)
    (ho : o.op = .call { callee := .builtin .append, args := #[s, x], argTypes := #[24, 24] })
    (base : Nat) (v : Value) (l : List Nat) (hs : a.eval s = v) (hown : OwnF base v l W) (g off m c : Nat) (hx : a.eval x = .slice (some ⟨g, off, none⟩) m c) (r : List Nat) (hr : r.length = m)
    (hc : ∀ j, j < m → W.cell? ⟨g, off + j, none⟩ = some (.float .f32 (r[j]?.getD 0))) (hl : l.length + m ≤ 100000000) (hbase : base ≤ W.heap.size)
    (w0 : World) (hb : Below base w0 W) (hn : v ≠ .slice none 0 0)
    (h : ∀ v' w', OwnF base v' (l ++ r) w' → Below base w0 w' → W.grownBy w' v.ownBlock → v' ≠ .slice none 0 0 → wpList Try.prog ops Q rest (a.put o.dst v') w') : wpList Try.prog ops Q (o :: rest) a W := by
  obtain ⟨i0, hi, hz0, hz1, hz2⟩ := info_parts info_f32
  refine wpList_append_own W hgd s x 24 ho base 31 i0 (.float .f32 0) 1 4 Try.underlying24 hi hz0 hz1 hz2 rfl (by decide) v l.length (numC l) hs hown ⟨g, off, none⟩ m c (numC r) hx (by rw [numC_len, hr, Nat.mul_one]) ?_ ?_ (by unfold maxLen; omega) (by omega) hbase ?_
  · intro j u hj
    obtain ⟨h1, rfl⟩ := numC_at' hj
    rw [add_off]
    exact hc j (by omega)
  · intro u hu
    obtain ⟨_, _, rfl⟩ := List.mem_map.1 hu
    rfl
  · intro v' w' h1 h2 h3
    refine h v' w' ?_ ?_ h2 ?_
    · unfold OwnF
      rw [List.length_append, hr, ← numC_app]
      exact h1
    · exact hb.grown h2 hbase (fun k hk => (World.ownsRow.lt hown k hk).1)
    · intro e; exact hn (h3.1 e).1
/-- what a slice of the call's own looks like -/
theorem OwnF.form {base : Nat} {v : Value} {l : List Nat} {w : World} (h : OwnF base v l w) (hn : v ≠ .slice none 0 0) :
    ∃ g cap, v = .slice (some ⟨g, 0, none⟩) l.length cap ∧ base ≤ g ∧ g < w.heap.size ∧ l.length ≤ cap ∧ cap ≤ maxLen ∧ (∃ cur, w.heap[g]? = some (.cells cur 31 (0, 0)) ∧ cur.size = cap) ∧ ∀ j, j < l.length → w.cell? ⟨g, j, none⟩ = some (.float .f32 (l[j]?.getD 0)) ∧ w.frozen? ⟨g, j, none⟩ = false := by
  have h' := h
  obtain ⟨h1, h2⟩ := h
  rcases h2 with ⟨rfl, h0⟩ | ⟨g, cap, cur, rfl, hb, hg, hn2, hm, hs, ht⟩
  · exact absurd rfl hn
  · refine ⟨g, cap, rfl, hb, (Array.getElem?_eq_some_iff.1 hg).1, hn2, hm, ⟨cur, hg, by rw [hs, Nat.mul_one]⟩, fun j hj => ⟨?_, ?_⟩⟩
    · have := World.ownsRow.cells h' (g := g) rfl j _ (numC_at l j hj)
      rw [add_off, Nat.zero_add] at this
      exact this
    · simp [World.frozen?, hg]
end Go.Proofs.Ytgjejolfkfpobaa
