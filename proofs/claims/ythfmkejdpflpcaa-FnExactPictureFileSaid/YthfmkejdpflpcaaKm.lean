/-
  MAPS KEYED BY CORNERS: the key's law, and what a corner reads as.
-/
import Derived.Test.YthfmkejdpflpcaaDb
import Derived.Maps.Own
import Derived.Maps.OwnSet
import Derived.DeepKeys4
namespace Go.Proofs.Ythfmkejdpflpcaa
open Go.ChangeShapes Go.WideShapes Go.ChangeAt Go.RowKit Go.Maps Go.WideMaps
theorem laidK : laidOutB Try.prog = true := by kernel_rfl
theorem rowCo : 46 < Try.prog.types.size := of_decide_eq_true (by kernel_rfl)
theorem lawCo : KeyLaw Try.prog 46 := deep_law_laid laidK (m := 2) (by omega) rowCo (by kernel_rfl) (by kernel_rfl)
theorem keyedCo : Keyed Try.prog 46 := Keyed.of_law lawCo
/-- what a corner reads as, as a key -/
def coKey (p q : Int) : Lit := .string (keyBytes [.int .i32 p, .int .i32 q])
theorem litsInt (d : Nat) (p : Int) (hp : -2147483648 ≤ p ∧ p ≤ 2147483647) : Try.prog.keyLits (d + 1) 21 [.int .i32 p] = some [.int .i32 p] := by
  have w1 : (Lit.int .i32 p).wf = true := by simp [Lit.wf, IntKind.min, IntKind.max, IntKind.bits, IntKind.signed]; omega
  rw [Program.keyLits.eq_def]
  simp [Try.underlying21, w1]
theorem litsCo (d : Nat) (p q : Int) (hp : -2147483648 ≤ p ∧ p ≤ 2147483647) (hq : -2147483648 ≤ q ∧ q ≤ 2147483647) : Try.prog.keyLits (d + 2) 46 [.int .i32 p, .int .i32 q] = some [.int .i32 p, .int .i32 q] := by
  have c2 : Try.prog.cellsOf 46 = 2 := by kernel_rfl
  have c1 : Try.prog.cellsOf 21 = 1 := by kernel_rfl
  have e : List.range 2 = [0, 1] := rfl
  rw [Program.keyLits.eq_def]
  simp [Try.underlying46, c2, c1, e, litsInt d p hp, litsInt d q hq]
theorem keyCo (p q : Int) (hp : -2147483648 ≤ p ∧ p ≤ 2147483647) (hq : -2147483648 ≤ q ∧ q ≤ 2147483647) : keyOf Try.prog 46 (.agg #[.int .i32 p, .int .i32 q]) = some (coKey p q) := by
  have c2 : Try.prog.cellsOf 46 = 2 := by kernel_rfl
  have kt : Try.prog.keyType 46 = true := by kernel_rfl
  have hsz : ∃ d, Try.prog.types.size + 1 = d + 2 := ⟨Try.prog.types.size - 1, by have := rowCo; omega⟩
  obtain ⟨d, hd⟩ := hsz
  have hf : (Value.agg #[.int .i32 p, .int .i32 q]).formed Try.prog 46 = true := by
    simp [Value.formed, Try.underlying46, c2]
  unfold keyOf
  simp only [Try.underlying46, kt, hf, Bool.and_self, if_true, hd]
  rw [show (Value.agg #[.int .i32 p, .int .i32 q]).cells.toList = [.int .i32 p, .int .i32 q] from rfl, litsCo d p q hp hq]
  rfl
end Go.Proofs.Ythfmkejdpflpcaa
