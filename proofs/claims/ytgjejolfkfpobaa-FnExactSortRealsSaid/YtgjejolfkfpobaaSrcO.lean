/-
  WORLDS in which one block alone is written.
-/
import Derived.Test.YtgjejolfkfpobaaBase
namespace Go.Proofs.Ytgjejolfkfpobaa
open Go.ChangeShapes Go.WideShapes Go.ChangeAt Go.RowKit
/-- only block p is written -/
def Only (p : Nat) (w w' : World) : Prop := w.grownBy w' (some p)
theorem Only.refl (p : Nat) (w : World) : Only p w w := ⟨rfl, rfl, rfl, Nat.le_refl _, fun _ _ _ => rfl⟩
theorem Only.trans {p : Nat} {w w1 w2 : World} (h : Only p w w1) (k : Only p w1 w2) : Only p w w2 :=
  ⟨k.os.trans h.os, k.tape.trans h.tape, k.output.trans h.output, Nat.le_trans h.size k.size, fun j hj hn => (k.block j (Nat.lt_of_lt_of_le hj h.size) hn).trans (h.block j hj hn)⟩
theorem Only.drewN {p : Nat} {w w1 : World} (h : Only p w w1) (n : Nat) : Only p w (w1.drewN n) := ⟨h.os, h.tape, h.output, h.size, h.block⟩
theorem Only.setCell {p o : Nat} {w w1 : World} (h : Only p w w1) (v : Value) : Only p w (w1.setCell ⟨p, o, none⟩ v) :=
  ⟨h.os, h.tape, h.output, by simpa using h.size, fun j hj hn => by
    rw [← h.block j hj hn]
    exact Below.heap_setCell _ _ _ j (by intro e; apply hn; rw [e])⟩
theorem Only.alloc {p : Nat} {w w1 : World} (h : Only p w w1) (o : Obj) : Only p w (w1.alloc o) :=
  ⟨h.os, h.tape, h.output, by simp; exact Nat.le_succ_of_le h.size, fun j hj hn => by
    rw [← h.block j hj hn]
    exact ((Below.refl w1.heap.size w1).alloc (Nat.le_refl _) o).block j (Nat.lt_of_lt_of_le hj h.size)⟩
theorem Only.cell {p : Nat} {w w1 : World} (h : Only p w w1) {q : Addr} {v : Value} (hc : w.cell? q = some v) (hn : q.block ≠ p) : w1.cell? q = some v :=
  World.grownBy.cell h hc (by intro e; cases e; exact hn rfl)
theorem Only.below {p B : Nat} {w w1 : World} (h : Only p w w1) (hB : B ≤ p) (hw : B ≤ w.heap.size) : Below B w w1 :=
  ⟨h.os, h.tape, h.output, h.size, fun j hj => h.block j (by omega) (by intro e; cases e; omega)⟩
end Go.Proofs.Ytgjejolfkfpobaa
