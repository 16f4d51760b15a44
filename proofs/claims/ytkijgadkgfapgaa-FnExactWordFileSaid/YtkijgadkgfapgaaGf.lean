/-
  CONTRACTS: SpoilFrame of both sides.
-/
import Derived.Test.YtkijgadkgfapgaaGe
import Derived.Test.YtkijgadkgfapgaaGb
namespace Go.Proofs.Ytkijgadkgfapgaa
open Go.ChangeShapes Go.WideShapes Go.ChangeAt Go.RowKit
def spOk (n : Nat) (t b : Int) : Bool := decide (0 ≤ t) && decide (t < n) && decide (0 ≤ b) && decide (b < 128)
def spC (n : Nat) (t b : Int) : Int := if 700 < n then 3 else if spOk n t b then 0 else 2
def spN (n : Nat) (t b : Int) : Nat := if spC n t b = 0 then n else 0
def spF (f : Nat → Int) (t b : Int) : Nat → Int := updI f (t.toNat * 16 + b.toNat / 8) (bits .xor .u8 (f (t.toNat * 16 + b.toNat / 8)) (2 ^ (b.toNat % 8)))
def SpPost (f : Nat → Int) (n : Nat) (t b : Int) (w : World) (e : Ending) (w' : World) : Prop :=
  ∃ v, e = .returned (.tuple #[v, .int .i64 (spC n t b)]) ∧ PR 16 w.heap.size w'.heap.size w' v (spN n t b) (FF (spF f t b)) ∧ Below w.heap.size w w'
theorem spOk_nat {n : Nat} {t b : Int} (h : spOk n t b = true) : ∃ T B : Nat, t = T ∧ b = B ∧ T < n ∧ B < 128 := by
  simp [spOk] at h
  exact ⟨t.toNat, b.toNat, by omega, by omega, by omega, by omega⟩
theorem PR.empty (s lo hi : Nat) (w : World) (a : Option Addr) (c : Nat) (f : Nat → Value) : PR s lo hi w (.slice a 0 c) 0 f := ⟨a, c, rfl, .inl rfl⟩
theorem OwnFr.form {base : Nat} {v : Value} {n : Nat} {f : Nat → Int} {w : World} (h : OwnFr base v n f w) (hn : 0 < n) : ∃ g cap, v = .slice (some ⟨g, 0, none⟩) n cap ∧ n ≤ cap ∧ base ≤ g ∧ g < w.heap.size ∧ (∀ j, j < n * 16 → w.cell? ⟨g, j, none⟩ = some (.int .u8 (f j))) ∧ ∀ j, j < n * 16 → w.frozen? ⟨g, j, none⟩ = false := by
  have hp := h.pr
  rcases h.2 with ⟨_, h0⟩ | ⟨g, cap, cur, rfl, hb, hg, h3, _⟩
  · omega
  · obtain ⟨a, c, e, h0 | ⟨g', h1, h2, h4, h5, h6, h7⟩⟩ := hp
    · omega
    · subst h1
      simp only [Value.slice.injEq, Option.some.injEq, Addr.mk.injEq] at e
      obtain ⟨⟨rfl, -⟩, -, rfl⟩ := e
      exact ⟨g, cap, rfl, h3, hb, h4, fun j hj => h6 j hj, h7⟩
theorem PR.upd {lo hi g n cap i : Nat} {w : World} {f : Nat → Int} (x : Int) (h1 : lo ≤ g) (h2 : g < hi) (h3 : hi ≤ w.heap.size) (h4 : ∀ j, j < n * 16 → w.cell? ⟨g, j, none⟩ = some (.int .u8 (f j))) (h5 : ∀ j, j < n * 16 → w.frozen? ⟨g, j, none⟩ = false) :
    PR 16 lo hi (w.setCell ⟨g, i, none⟩ (.int .u8 x)) (.slice (some ⟨g, 0, none⟩) n cap) n (FF (updI f i x)) :=
  ⟨_, cap, rfl, .inr ⟨g, rfl, h1, h2, by simpa using h3, fun j hj => by
    rw [fcell_set (h4 j hj)]
    unfold FF updI
    by_cases e : i = j
    · rw [if_pos e, if_pos e.symm]
    · rw [if_neg e, if_neg (fun h => e h.symm)], fun j hj => by rw [World.frozen?_setCell]; exact h5 j hj⟩⟩
theorem shl8 (r : Nat) (h : r < 8) : (2 : Int) ^ r % 256 = 2 ^ r := by
  have : r = 0 ∨ r = 1 ∨ r = 2 ∨ r = 3 ∨ r = 4 ∨ r = 5 ∨ r = 6 ∨ r = 7 := by omega
  rcases this with rfl | rfl | rfl | rfl | rfl | rfl | rfl | rfl <;> rfl
end Go.Proofs.Ytkijgadkgfapgaa
