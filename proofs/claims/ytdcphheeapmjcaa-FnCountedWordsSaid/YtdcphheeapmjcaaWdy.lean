/-
  CONTRACT: the specification's RankReduced.
-/
import Derived.Test.YtdcphheeapmjcaaWdw
import Derived.Test.YtdcphheeapmjcaaWdg
namespace Go.Proofs.Ytdcphheeapmjcaa
open Go.ChangeShapes Go.WideShapes Go.ChangeAt Go.RowKit
open Wd
/-- the letter of a number -/
def letB : Nat → UInt8
  | 0 => 97 | 1 => 65 | 2 => 98 | 3 => 66 | 4 => 99 | 5 => 67 | 6 => 100 | _ => 68
/-- what the letters below one add behind another -/
def innR (p : Option UInt8) (each : Int) : Nat → Int
  | 0 => 0
  | x + 1 => innR p each x + (if p = some (oth (letB x)) then 0 else each)
def prevL (l : List UInt8) (i : Nat) : Option UInt8 := if i = 0 then none else l[i - 1]?
/-- the rank by the first letters -/
def rankTo (g : Int) (l : List UInt8) : Nat → Int
  | 0 => 0
  | i + 1 => rankTo g l i + innR (prevL l i) (ways g true (l.length - i - 1)) (lnum (l[i]?.getD 0)).toNat
theorem drewN_below0 {B : Nat} {w : World} (n : Nat) : Below B w (w.drewN n) := ⟨rfl, rfl, rfl, Nat.le_refl _, fun _ _ => rfl⟩
theorem innR_le {each : Int} (h1 : 1 ≤ each) (h2 : each ≤ 68719476736) (p : Option UInt8) (x : Nat) : 0 ≤ innR p each x ∧ innR p each x ≤ x * 68719476736 := by
  induction x with
  | zero => simp [innR]
  | succ x ih =>
    unfold innR
    split <;> (push_cast; omega)
theorem rankTo_le {g : Int} (h1 : 1 ≤ g) (h2 : g ≤ 4) {l : List UInt8} (hl : l.length ≤ 12) (i : Nat) : 0 ≤ rankTo g l i ∧ rankTo g l i ≤ i * 549755813888 := by
  induction i with
  | zero => simp [rankTo]
  | succ i ih =>
    unfold rankTo
    obtain ⟨a, b⟩ := ways_le h1 h2 true (k := l.length - i - 1) (by omega)
    obtain ⟨c, d⟩ := innR_le a b (prevL l i) (lnum (l[i]?.getD 0)).toNat
    have e : lnum (l[i]?.getD 0) ≤ 7 := by unfold lnum; repeat' split
                                           all_goals omega
    generalize innR _ _ _ = y at c d ⊢
    generalize lnum _ = z at d e
    have : (z.toNat : Int) * 68719476736 ≤ 7 * 68719476736 := by omega
    push_cast
    omega
theorem idx_xor (y : Nat) (hy : y ≤ 7) (w : World) : (Instr.index 9 (.string (⟨#[97, 65, 98, 66, 99, 67, 100, 68]⟩ : ByteArray)) (.int .i64 (bits BinOp.xor IntKind.i64 (y : Int) 1))).run Try.prog w = .ok (.int .u8 (((oth (letB y)).toNat : Nat) : Int)) w := by
  obtain rfl | rfl | rfl | rfl | rfl | rfl | rfl | rfl : y = 0 ∨ y = 1 ∨ y = 2 ∨ y = 3 ∨ y = 4 ∨ y = 5 ∨ y = 6 ∨ y = 7 := by omega
  all_goals
    rw [run_index_string w 9 _ .i64 _ Try.underlying9, dif_pos (by decide)]
    rfl
end Go.Proofs.Ytdcphheeapmjcaa
