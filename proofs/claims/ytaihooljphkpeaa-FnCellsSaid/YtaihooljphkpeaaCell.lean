/-
  SLICES OF CELLS (two numbers each): built by append; rows of them read.
-/
import Derived.Test.YtaihooljphkpeaaChecked
import Derived.Test.YtaihooljphkpeaaArr
import Derived.WalkKit
import Derived.ProofKit
import Derived.OpenShut
import Derived.WalkLawsBesides
import Derived.Outline
import Derived.OwnWalk
import Derived.LoopTactic
import Derived.Laws.Rows
import Derived.Laws.Tables
import Derived.Laws.CopyOwn
import Derived.Deep.RegionHeld3
import Derived.StillTailTactics
import Derived.Deep.QuietTactic
import Derived.BigQuiet
import Derived.WalkSmall
import Derived.Lib.Hide
namespace Go.Proofs.Ytaihooljphkpeaa
open Go.ChangeShapes Go.WideShapes Go.ChangeAt Go.RowKit
theorem own_alloc {w : World} {base : Nat} {e : TypeId} {size : Nat} {v : Value} {n : Nat} {xs : List Value} (h : w.ownsRow base e size v n xs) (o : Obj) : (w.alloc o).ownsRow base e size v n xs := by
  refine h.kept (World.grownBy_alloc w o none) ?_
  cases hv : v.ownBlock with
  | none => exact .inl rfl
  | some k => exact .inr (by simp)
def two (p q : Int) : List Value := [.int .i32 p, .int .i32 q]
theorem two_at (w : World) (p q : Int) (t : TypeId) : ∀ j u, (two p q)[j]? = some u → (w.alloc (.cells #[.int .i32 p, .int .i32 q] t)).cell? ((⟨w.heap.size, 0, none⟩ : Addr).add j) = some u := by
  intro j u h
  have e : (⟨w.heap.size, 0, none⟩ : Addr).add j = ⟨w.heap.size, j, none⟩ := by rw [Go.WideShapes.add_plain, Nat.zero_add]
  rw [e, World.cell?_alloc_new]
  match j, h with
  | 0, h => exact h
  | 1, h => exact h
  | k + 2, h => simp [two] at h
theorem two_one (p q : Int) : ∀ u ∈ two p q, u.oneCell' = true := by
  intro u hu
  simp [two] at hu
  rcases hu with rfl | rfl <;> rfl
theorem belowN {B n : Nat} {a w : World} (h : Below B a w) : Below B a (w.drewN n) := ⟨h.os, h.tape, h.output, h.size, h.block⟩
/-- A CELL IS APPENDED to a slice of the call's own. -/
theorem wpList_append_cell {ops : Array Oper} {rest : List Oper} {o : Oper} {a : Act} {Q : Exit → Act → World → Prop} (hgd : o.guard = none) (s x : Operand)
    (ho : o.op = .call { callee := .builtin .append, args := #[s, x], argTypes := #[34, 34] })
    (base : Nat) (w0 W : World) (v : Value) (n : Nat) (xs : List Value) (p q : Int) (hs : a.eval s = v) (m : Nat) (hm : W.heap.size = m) (hx : a.eval x = .slice (some ⟨m, 0, none⟩) 1 1)
    (H : Hid (W.ownsRow base 29 2 v n xs)) (HB : Hid (Below base w0 W)) (hb : base ≤ w0.heap.size) (hn : n ≤ 1000000)
    (h : ∀ v' w', Hid (w'.ownsRow base 29 2 v' (n + 1) (xs ++ two p q)) → Hid (Below base w0 w') → wpList Try.prog ops Q rest (a.put o.dst v') w') :
    wpList Try.prog ops Q (o :: rest) a (W.alloc (.cells #[.int .i32 p, .int .i32 q] 29)) := by
  have hsz := HB.out.size
  subst hm
  refine wpList_append_own _ hgd s x 34 ho base 29 Try.t29 (.agg #[.int .i32 0, .int .i32 0]) 2 8 Try.underlying34 (by kernel_rfl) (by kernel_rfl) (by kernel_rfl) (by kernel_rfl) (by kernel_rfl) (by decide) v n xs hs (own_alloc H.out _) ⟨W.heap.size, 0, none⟩ 1 1 (two p q) hx rfl (two_at _ _ _ _) (two_one p q) (by unfold maxLen; omega) (by omega) (by simp; omega) ?_
  intro v' w' h1 h2 _
  exact h v' w' h1 ((HB.out.alloc (by omega) _).grown h2 (by simp; omega) (fun k hk => (H.out.lt k hk).1))
/-- two cells held equal -/
theorem eqTwo (p q r s : Int) (w : World) : (Op.equalIn 10000 29 (.agg #[.int .i32 p, .int .i32 q]) (.agg #[.int .i32 r, .int .i32 s])).run Try.prog w = .ok (p == r && q == s) w := by
  have h := eqArrI (P := Try.prog) (t := 29) (q := .i32) (n := 2) (fun i => if i = 0 then p else q) (fun i => if i = 0 then r else s) Try.underlying29 Try.underlying21 (by kernel_rfl) w
  have e : ((List.range 2).all fun i => (if i = 0 then p else q) == (if i = 0 then r else s)) = (p == r && q == s) := by
    rw [show List.range 2 = [0, 1] from rfl]; simp
  rw [e] at h
  exact h
end Go.Proofs.Ytaihooljphkpeaa
