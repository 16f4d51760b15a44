/-
  SLICES OF BYTES THAT THE CALL ITSELF BUILDS BY append, one byte after the other, and what string(..) makes of them.
-/
import Derived.Test.YtkijgadkgfapgaaDoorSf
import Derived.OwnWalk
import Derived.Below
namespace Go.Proofs.YtkijgadkgfapgaaDoor
open Go.ChangeShapes Go.WideShapes Go.ChangeAt Go.RowKit
/-- the cells of bytes -/
def bytesC (l : List UInt8) : List Value := l.map fun c => .int .u8 (c.toNat : Int)
theorem bytesC_len (l : List UInt8) : (bytesC l).length = l.length := by simp [bytesC]
theorem bytesC_snoc (l : List UInt8) (c : UInt8) : bytesC l ++ [.int .u8 (c.toNat : Int)] = bytesC (l ++ [c]) := by simp [bytesC]
/-- v is a slice of the call's own (its blocks begin at base) that holds the bytes l -/
def OwnB (base : Nat) (v : Value) (l : List UInt8) (w : World) : Prop := w.ownsRow base 5 1 v l.length (bytesC l)
theorem info_u8 : (Tryd.prog.info? 5).map (fun i => (i.zero, i.size, i.bytes)) = some (some (.int .u8 0), 1, 1) := by kernel_rfl
theorem OwnB.alloc {base : Nat} {v : Value} {l : List UInt8} {w : World} (h : OwnB base v l w) (o : Obj) : OwnB base v l (w.alloc o) := World.ownsRow.alloc h o
theorem OwnB.drew {base : Nat} {v : Value} {l : List UInt8} {w : World} (h : OwnB base v l w) : OwnB base v l w.drew := h
/-- 'out = append(out, c)' -/
theorem wpList_append_byte {ops : Array Oper} {rest : List Oper} {o : Oper} {a : Act} {W : World} {Q : Exit → Act → World → Prop} (hgd : o.guard = none) (s x : Operand)
    (ho : o.op = .call { callee := .builtin .append, args := #[s, x], argTypes := #[32, 32] })
    (base : Nat) (v : Value) (l : List UInt8) (c : UInt8) (hs : a.eval s = v) (hown : OwnB base v l W) (g : Nat) (hx : a.eval x = .slice (some ⟨g, 0, none⟩) 1 1)
    (hc : W.cell? ⟨g, 0, none⟩ = some (.int .u8 (c.toNat : Int))) (hl : l.length ≤ 100000000) (hbase : base ≤ W.heap.size)
    (w0 : World) (hb : Below base w0 W)
    (h : ∀ v' w', OwnB base v' (l ++ [c]) w' → Below base w0 w' → wpList Tryd.prog ops Q rest (a.put o.dst v') w') : wpList Tryd.prog ops Q (o :: rest) a W := by
  obtain ⟨i0, hi, hz0, hz1, hz2⟩ := info_parts info_u8
  refine wpList_append_own W hgd s x 32 ho base 5 i0 (.int .u8 0) 1 1 Tryd.underlying32 hi hz0 hz1 hz2 rfl (by decide) v l.length (bytesC l) hs hown ⟨g, 0, none⟩ 1 1 [.int .u8 (c.toNat : Int)] hx rfl ?_ ?_ (by unfold maxLen; omega) (by omega) hbase ?_
  · intro j u hj
    match j, hj with
    | 0, hj => simp at hj; subst hj; exact hc
    | j + 1, hj => simp at hj
  · intro u hu; simp at hu; subst hu; rfl
  · intro v' w' h1 h2 _
    refine h v' w' ?_ ?_
    · unfold OwnB
      rw [List.length_append, ← bytesC_snoc]
      exact h1
    · exact hb.grown h2 hbase (fun k hk => (World.ownsRow.lt hown k hk).1)
/-- 'string(out)' -/
theorem own_string {base : Nat} {v : Value} {l : List UInt8} {W : World} (h : OwnB base v l W) : (convert 32 9 v).run Tryd.prog W = .ok (.string ⟨l.toArray⟩) W := by
  obtain ⟨h1, h2⟩ := h
  rcases h2 with ⟨rfl, h0⟩ | ⟨g, cap, cur, rfl, hb, hg, hn, hm, hs, ht⟩
  · have : l = [] := List.eq_nil_of_length_eq_zero h0
    subst this
    rw [run_convert_bytes_string W 32 9 5 none 0 0 Tryd.underlying32 Tryd.underlying5 Tryd.underlying9]
    rfl
  · refine run_convert_bytes_back W 32 9 5 ⟨g, 0, none⟩ cap l Tryd.underlying32 Tryd.underlying5 Tryd.underlying9 ?_
    intro j hj
    have e : (bytesC l)[j]? = some (.int .u8 (l[j].toNat : Int)) := by simp [bytesC, hj]
    have := World.ownsRow.cells (w := W) (base := base) (e := 5) (size := 1) (v := .slice (some ⟨g, 0, none⟩) l.length cap) (n := l.length) (xs := bytesC l) ⟨h1, .inr ⟨g, cap, cur, rfl, hb, hg, hn, hm, hs, ht⟩⟩ (g := g) rfl j _ e
    exact this
end Go.Proofs.YtkijgadkgfapgaaDoor
