/-
  SUMS OF PRODUCTS: what they are, and the specification's function.
-/
import Derived.Test.YtgjejolfkfpobaaSum2
import Derived.Test.YtgjejolfkfpobaaWorlds
namespace Go.Proofs.Ytgjejolfkfpobaa
open Go.ChangeShapes Go.WideShapes Go.ChangeAt Go.RowKit Go.Deep
open Fl
def addOO (acc q : Option Nat) : Option Nat := match acc, q with | some x, some y => Ieee.single.add x y | _, _ => none
def sumO (f : Nat → Option Nat) : Nat → Option Nat
  | 0 => some 0
  | 1 => f 0
  | k + 2 => addOO (sumO f (k + 1)) (f (k + 1))
theorem sumO_step (f : Nat → Option Nat) (k : Nat) (h : 1 ≤ k) : sumO f (k + 1) = addOO (sumO f k) (f k) := by
  obtain ⟨j, rfl⟩ : ∃ j, k = j + 1 := ⟨k - 1, by omega⟩
  rfl
theorem add_nanR (x : Nat) {b : Nat} (h : kd b = 4) : Ieee.single.add x b = none := by
  have h' : nan32 b = true := by rw [nan_kd]; simpa using h
  have h2 : 2139095040 < b % 2147483648 := by simpa [nan32] using h'
  unfold Ieee.Format.add
  rw [read32 b, if_neg (by omega), if_neg (by omega), if_neg (by omega)]
  cases Ieee.single.read x <;> rfl
theorem rep_add2 {acc q : Option Nat} {x p : Nat} (h : rep acc x) (hp : rep q p) : floatBits .add .f32 x p = addOO acc q := by
  show Ieee.single.add x p = _
  rcases h with ⟨rfl, _⟩ | ⟨rfl, hk⟩
  · rcases hp with ⟨rfl, _⟩ | ⟨rfl, hk⟩
    · rfl
    · exact add_nanR x hk
  · rw [add_nan p hk]; rfl
theorem rep_some2 {acc q : Option Nat} {s : Nat} (h : addOO acc q = some s) : rep (addOO acc q) s := by
  left
  refine ⟨h, ?_⟩
  cases acc with
  | none => cases h
  | some x => cases q with
    | none => cases h
    | some y => exact add_not_nan h
theorem rep_none2 {acc q : Option Nat} {s : Nat} (h : addOO acc q = none) (hs : kd s = 4) : rep (addOO acc q) s := .inr ⟨h, hs⟩
/-- the bits that stand for the terms give the sum of the terms -/
theorem sumK_sumO (f : Nat → Nat) (q : Nat → Option Nat) : ∀ k, (∀ i, i < k → rep (q i) (f i)) → sumK f k = sumO q k
  | 0, _ => rfl
  | 1, h => by
    have h0 := h 0 (by omega)
    show st (f 0) = q 0
    unfold st
    rcases h0 with ⟨e, hk⟩ | ⟨e, hk⟩
    · rw [if_neg hk, e]
    · rw [if_pos hk, e]
  | k + 2, h => by
    have ih := sumK_sumO f q (k + 1) (fun i hi => h i (by omega))
    have h1 := h (k + 1) (by omega)
    show addO (sumK f (k + 1)) (f (k + 1)) = addOO (sumO q (k + 1)) (q (k + 1))
    rw [ih]
    cases sumO q (k + 1) with
    | none => rfl
    | some x =>
      rcases h1 with ⟨e, hk⟩ | ⟨e, hk⟩
      · rw [e]; rfl
      · rw [e]; exact add_nanR x hk
/-- the product of the numbers with an index -/
def prod (bs cs : List Nat) (i : Nat) : Option Nat := Ieee.single.mul (bs[i]?.getD 0) (cs[i]?.getD 0)
theorem rep_prod_some {bs cs : List Nat} {i p : Nat} (h : prod bs cs i = some p) : rep (prod bs cs i) p := .inl ⟨h, mul_not_nan h⟩
/-- THE SPECIFICATION's SUM OF PRODUCTS. -/
theorem l01Two_any (x y lx ly : Nat) (w : World) (hx : lx ≤ 1048576) (hy : ly ≤ 1048576) :
    Calls Try.prog 62 #[.slice (some ⟨x, 0, none⟩) lx lx, .slice (some ⟨y, 0, none⟩) ly ly] w fun e w' => e = .returned (.int .i64 (if 256 < lx ∨ 256 < ly then 3 else if lx = ly then 0 else 2)) ∧ w = w' := by
  have hx' : (lx : Int) ≤ 1048576 := by omega
  have hy' : (ly : Int) ≤ 1048576 := by omega
  by_cases h1 : 256 < lx
  · have g1 : decide ((256 : Int) < lx) = true := by simp; omega
    rw [if_pos (.inl h1)]
    clear h1
    go_enter Try.func62, Try.ntmps62
    go_wp2
    go_ret
    exact ⟨rfl, rfl⟩
  · have g1 : decide ((256 : Int) < lx) = false := by simp; omega
    by_cases h2 : 256 < ly
    · have g2 : decide ((256 : Int) < ly) = true := by simp; omega
      rw [if_pos (.inr h2)]
      clear h1 h2
      go_enter Try.func62, Try.ntmps62
      go_wp2
      go_ret
      exact ⟨rfl, rfl⟩
    · have g2 : decide ((256 : Int) < ly) = false := by simp; omega
      rw [if_neg (by omega)]
      by_cases h3 : lx = ly
      · subst h3
        rw [if_pos rfl]
        clear h1 h2
        go_enter Try.func62, Try.ntmps62
        go_wp2
        go_ret
        exact ⟨rfl, rfl⟩
      · have g3 : ((lx : Int) != (ly : Int)) = true := by simp; omega
        rw [if_neg h3]
        clear h1 h2 h3
        go_enter Try.func62, Try.ntmps62
        go_wp2
        go_ret
        exact ⟨rfl, rfl⟩
theorem pairCode_any (x y lx ly : Nat) (w : World) (hx : lx ≤ 1048576) (hy : ly ≤ 1048576) :
    Calls Try.prog 65 #[.slice (some ⟨x, 0, none⟩) lx lx, .slice (some ⟨y, 0, none⟩) ly ly] w fun e w' => e = .returned (.int .i64 (if 256 < lx ∨ 256 < ly then 3 else if lx = ly then 0 else 2)) ∧ w = w' := by
  have hx' : (lx : Int) ≤ 1048576 := by omega
  have hy' : (ly : Int) ≤ 1048576 := by omega
  by_cases h1 : 256 < lx
  · have g1 : decide ((256 : Int) < lx) = true := by simp; omega
    rw [if_pos (.inl h1)]
    clear h1
    go_enter Try.func65, Try.ntmps65
    go_wp2
    go_ret
    exact ⟨rfl, rfl⟩
  · have g1 : decide ((256 : Int) < lx) = false := by simp; omega
    by_cases h2 : 256 < ly
    · have g2 : decide ((256 : Int) < ly) = true := by simp; omega
      rw [if_pos (.inr h2)]
      clear h1 h2
      go_enter Try.func65, Try.ntmps65
      go_wp2
      go_ret
      exact ⟨rfl, rfl⟩
    · have g2 : decide ((256 : Int) < ly) = false := by simp; omega
      rw [if_neg (by omega)]
      by_cases h3 : lx = ly
      · subst h3
        rw [if_pos rfl]
        clear h1 h2
        go_enter Try.func65, Try.ntmps65
        go_wp2
        go_ret
        exact ⟨rfl, rfl⟩
      · have g3 : ((lx : Int) != (ly : Int)) = true := by simp; omega
        rw [if_neg h3]
        clear h1 h2 h3
        go_enter Try.func65, Try.ntmps65
        go_wp2
        go_ret
        exact ⟨rfl, rfl⟩
end Go.Proofs.Ytgjejolfkfpobaa
