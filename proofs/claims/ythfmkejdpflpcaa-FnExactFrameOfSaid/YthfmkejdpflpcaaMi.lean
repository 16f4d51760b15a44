/-
  CONTRACTS: HasCell, SetCell, JoinMasks, MeetMasks, MinusMasks on both sides.
-/
import Derived.Test.YthfmkejdpflpcaaMl
namespace Go.Proofs.Ythfmkejdpflpcaa
open Go.ChangeShapes Go.WideShapes Go.ChangeAt Go.RowKit
theorem l00In_any (n l h : Int) (w : World) :
    Calls Try.prog 92 #[.int .i64 n, .int .i64 l, .int .i64 h] w fun e w' => e = .returned (.bool (decide (l ≤ n) && decide (n ≤ h))) ∧ w = w' := by
  cases t1 : decide (l ≤ n) <;> cases t2 : decide (n ≤ h)
  all_goals
    go_enter Try.func92, Try.ntmps92
    go_wp2
    go_ret
    exact ⟨rfl, rfl⟩
/-- l07Has at a mask that lies in a block -/
theorem l07Has_any (g : Nat) (f : Nat → Int) (hf : MB f) (x y : Nat) (hx : x < 16) (hy : y < 16) (w : World) (hc : w.cell? ⟨g, y, none⟩ = some (.int .u16 (f y))) :
    Calls Try.prog 105 #[.pointer (some ⟨g, 0, none⟩), .int .i64 (x : Int), .int .i64 (y : Int)] w fun e w' => e = .returned (.bool (hasF f x y)) ∧ w = w' := by
  have hv := hf y hy
  have HS : Hid (bits .and .u16 (f y / 2 ^ x) 1 = if (f y).toNat.testBit x then 1 else 0) := Lib.hid (shr_bit hv x)
  obtain ⟨v0, v1⟩ := hv
  have hx' : (x : Int) ≤ 16 := by omega
  have hy' : (y : Int) < 16 := by omega
  clear hf
  unfold hasF
  generalize f y = v at hc v0 v1 HS ⊢
  go_enter Try.func105, Try.ntmps105
  go_wp2
  go_ret
  exact ⟨mret_bool (by rw [HS.out]; cases v.toNat.testBit x <;> rfl), rfl⟩
/-- what HasCell answers -/
def HcPost (f : Nat → Int) (x y : Int) (w : World) (e : Ending) (w' : World) : Prop := e = .returned (.tuple #[.bool (if inB x y then hasF f x.toNat y.toNat else false), .int .i64 (if inB x y then 0 else 2)]) ∧ Below w.heap.size w w'
end Go.Proofs.Ythfmkejdpflpcaa
