/-
  SLICES OF FRAMES THAT A CALL BUILDS ITSELF: append; slices.Clone.
-/
import Derived.Test.YtkijgadkgfapgaaGd
import Derived.WalkSpells
import Derived.Lib.SliceRun
namespace Go.Proofs.Ytkijgadkgfapgaa
open Go.ChangeShapes Go.WideShapes Go.ChangeAt Go.RowKit
/-- v is a slice of the call's own that holds n frames f -/
def OwnFr (base : Nat) (v : Value) (n : Nat) (f : Nat → Int) (w : World) : Prop := w.ownsRow base 93 16 v n (rowU f (n * 16))
theorem OwnFr.alloc {base : Nat} {v : Value} {n : Nat} {f : Nat → Int} {w : World} (h : OwnFr base v n f w) (o : Obj) : OwnFr base v n f (w.alloc o) := World.ownsRow.alloc h o
theorem OwnFr.congr {base : Nat} {v : Value} {n : Nat} {q r : Nat → Int} {w : World} (h : OwnFr base v n q w) (e : ∀ j, j < n * 16 → q j = r j) : OwnFr base v n r w := by
  unfold OwnFr at *
  rw [← rowU_congr e]; exact h
theorem OwnFr.nil (base : Nat) (q : Nat → Int) (w : World) : OwnFr base (.slice none 0 0) 0 q w := World.ownsRow_nil _ _ _ _
theorem OwnFr.made (q : Nat → Int) (w : World) (base : Nat) (hb : base ≤ w.heap.size) : OwnFr base (.slice (some ⟨w.heap.size, 0, none⟩) 0 0) 0 q (w.alloc (.cells #[] 93)) :=
  ⟨rfl, .inr ⟨w.heap.size, 0, #[], rfl, hb, heap_alloc_new w _, Nat.le_refl _, Nat.zero_le _, rfl, rfl⟩⟩
theorem OwnFr.base {base b2 : Nat} {v : Value} {n : Nat} {q : Nat → Int} {w : World} (hb : base ≤ b2) (h : OwnFr b2 v n q w) : OwnFr base v n q w := by
  refine ⟨h.1, ?_⟩
  rcases h.2 with h0 | ⟨g, cap, cur, h1, h2, h3⟩
  · exact .inl h0
  · exact .inr ⟨g, cap, cur, h1, Nat.le_trans hb h2, h3⟩
theorem OwnFr.pr {base : Nat} {v : Value} {n : Nat} {f : Nat → Int} {w : World} (h : OwnFr base v n f w) : PR 16 base w.heap.size w v n (FF f) := by
  obtain ⟨a, cap, rfl, h0 | ⟨g, rfl, h1, h2, h3, h4, h5⟩⟩ := PR.of_own h
  · exact ⟨a, cap, rfl, .inl h0⟩
  · refine ⟨_, cap, rfl, .inr ⟨g, rfl, h1, h2, h3, fun j hj => ?_, h5⟩⟩
    rw [h4 j hj]
    unfold listF
    rw [rowU_get _ _ _ hj]
    rfl
theorem OwnU.pr {base : Nat} {v : Value} {n : Nat} {f : Nat → Int} {w : World} (h : OwnU base v n f w) : PR 1 base w.heap.size w v n (FF f) := by
  obtain ⟨a, cap, rfl, h0 | ⟨g, rfl, h1, h2, h3, h4, h5⟩⟩ := PR.of_own h
  · exact ⟨a, cap, rfl, .inl h0⟩
  · refine ⟨_, cap, rfl, .inr ⟨g, rfl, h1, h2, h3, fun j hj => ?_, h5⟩⟩
    rw [h4 j hj]
    unfold listF
    rw [rowU_get _ _ _ (by omega)]
    rfl
/-- append of frames that lie behind an address -/
theorem wpList_append_fr {ops : Array Oper} {rest : List Oper} {o : Oper} {a : Act} {W : World} {Q : Exit → Act → World → Prop} (hgd : o.guard = none) (s x : Operand)
    (ho : o.op = .call { callee := .builtin .append, args := #[s, x], argTypes := #[48, 48] })
    (base : Nat) (v : Value) (n : Nat) (q : Nat → Int) (hs : a.eval s = v) (hown : OwnFr base v n q W) (g off m c : Nat) (p : Nat → Int) (hx : a.eval x = .slice (some ⟨g, off, none⟩) m c)
    (hc : ∀ j, j < m * 16 → W.cell? ⟨g, off + j, none⟩ = some (.int .u8 (p j))) (hl : n + m ≤ 10000000) (hbase : base ≤ W.heap.size)
    (w0 : World) (hb : Below base w0 W)
    (h : ∀ v' w', OwnFr base v' (n + m) (catU q (n * 16) p) w' → Below base w0 w' → wpList Try.prog ops Q rest (a.put o.dst v') w') : wpList Try.prog ops Q (o :: rest) a W := by
  obtain ⟨i0, hi, hz0, hz1, hz2⟩ := info_parts info_fr
  refine wpList_append_own W hgd s x 48 ho base 93 i0 _ 16 16 Try.underlying48 hi hz0 hz1 hz2 rfl (by decide) v n (rowU q (n * 16)) hs hown ⟨g, off, none⟩ m c (rowU p (m * 16)) hx (by rw [rowU_len]) ?_ (rowU_one p _) (by unfold maxLen; omega) (by omega) hbase ?_
  · intro j u hj
    have hlt : j < m * 16 := by
      rcases Nat.lt_or_ge j (m * 16) with h | h
      · exact h
      · rw [List.getElem?_eq_none (by rw [rowU_len]; exact h)] at hj; cases hj
    rw [rowU_get _ _ _ hlt] at hj
    rw [Go.WideShapes.add_plain, hc j hlt]; exact hj
  · intro v' w' h1 h2 _
    refine h v' w' ?_ ?_
    · unfold OwnFr
      rw [Nat.add_mul, ← rowU_cat]
      exact h1
    · exact hb.grown h2 hbase (fun k hk => (World.ownsRow.lt hown k hk).1)
theorem toF_any {a : Option Addr} {cap n : Nat} {f : Nat → Int} {B : Nat} {w : World} (hB : B ≤ w.heap.size) (h : FrR B w a n f) (hl : n ≤ 1048576) :
    Calls Try.prog 26 #[.slice a n cap] w fun e w' => ∃ v, e = .returned v ∧ PR 16 w.heap.size w'.heap.size w' v n (FF f) ∧ Below w.heap.size w w' :=
  (toFS_any a cap n f B w hB h hl).mono fun e w' ⟨he, _, hb, hs, hr⟩ => ⟨_, he, ⟨_, n, rfl, .inr ⟨w.heap.size, rfl, Nat.le_refl _, hs, Nat.le_refl _, fun j hj => by
    rw [Lib.cell_of_heap hr j, rowFr_get _ _ _ _ (by omega), if_pos (by omega)]; rfl, fun j _ => Lib.frozen_of_heap hr j⟩⟩, hb⟩
end Go.Proofs.Ytkijgadkgfapgaa
