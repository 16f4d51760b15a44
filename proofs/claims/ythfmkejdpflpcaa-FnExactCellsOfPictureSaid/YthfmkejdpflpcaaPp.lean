/-
  SLICES OF PAIRS, as the laws look at them, nil or not.
-/
import Derived.Test.YthfmkejdpflpcaaPts
import Derived.Test.YthfmkejdpflpcaaPr
namespace Go.Proofs.Ythfmkejdpflpcaa
open Go.ChangeShapes Go.WideShapes Go.ChangeAt Go.RowKit
theorem eqPNone_any (x y : Option Addr) (c1 c2 : Nat) (w : World) :
    Calls Try.prog 19 #[.slice x 0 c1, .slice y 0 c2] w fun e w' => e = .returned (.bool true) ∧ w = w' := by
  go_enter Try.func19, Try.ntmps19
  go_wp2
  refine wp_loop_rounds 1 ?_
  rw [rounds_succ]
  go_wp2
  go_ret
  exact ⟨rfl, rfl⟩
theorem markPNone_any (x : Option Addr) (c : Nat) (w : World) :
    Calls Try.prog 20 #[.slice x 0 c, .int .i64 1] w fun e w' => e = .returned (.int .i64 1) ∧ w = w' := by
  go_enter Try.func20, Try.ntmps20
  go_wp2
  refine wp_loop_rounds 1 ?_
  rw [rounds_succ]
  go_wp2
  go_ret
  exact ⟨rfl, rfl⟩
theorem heldPNone_any (x : Option Addr) (c : Nat) (w : World) :
    Calls Try.prog 27 #[.slice x 0 c, .int .i64 1] w fun e w' => e = .returned (.int .i64 1) ∧ w = w' := by
  go_enter Try.func27, Try.ntmps27
  go_wp2
  refine wp_loop_rounds 1 ?_
  rw [rounds_succ]
  go_wp2
  go_ret
  exact ⟨rfl, rfl⟩
/-- all cells are narrow numbers -/
def PairF (n : Nat) (f : Nat → Value) : Prop := ∀ j, j < n * 2 → ∃ x, f j = .int .i32 x
def markP : Nat → Value := fun j => .int .i32 ((1 + j : Nat) : Int)
theorem eqP_any {lo hi lo' hi' n : Nat} {v v' : Value} {f f' : Nat → Value} {w : World} (hp : PairF n f) (hf : ∀ j, j < n * 2 → f j = f' j) (hn : n ≤ 1000000) (h : PR 2 lo hi w v n f) (h' : PR 2 lo' hi' w v' n f') :
    Calls Try.prog 19 #[v, v'] w fun e w' => e = .returned (.bool true) ∧ Below w.heap.size w w' := by
  obtain ⟨a, c, rfl, h0⟩ := h
  obtain ⟨a', c', rfl, h0'⟩ := h'
  rcases h0 with rfl | ⟨g, rfl, h1, h2, h3, h4, h5⟩
  · exact (eqPNone_any a a' c c' w).mono fun e w' h => ⟨h.1, by rw [← h.2]; exact Below.refl _ _⟩
  · rcases h0' with rfl | ⟨g', rfl, h1', h2', h3', h4', h5'⟩
    · exact (eqPNone_any _ a' c c' w).mono fun e w' h => ⟨h.1, by rw [← h.2]; exact Below.refl _ _⟩
    · have K : ∀ j, j < n * 2 → f j = .int .i32 (match f j with | .int _ x => x | _ => 0) := fun j hj => by
        obtain ⟨x, hx⟩ := hp j hj
        rw [hx]
      exact eqPtS_any g g' n c c' (fun j => match f j with | .int _ x => x | _ => 0) w hn (fun j hj => by rw [h4 j (by omega)]; exact congrArg some (K j (by omega))) (fun j hj => by rw [h4' j (by omega), ← hf j (by omega)]; exact congrArg some (K j (by omega)))
theorem markP_any {lo hi n : Nat} {v : Value} {f : Nat → Value} {w : World} (hp : PairF n f) (hn : n ≤ 1000000) (h : PR 2 lo hi w v n f) (hlo : lo ≤ w.heap.size) :
    Calls Try.prog 20 #[v, .int .i64 1] w fun e w' => e = .returned (.int .i64 ((1 + 2 * n : Nat) : Int)) ∧ PR 2 lo hi w' v n markP ∧ Below lo w w' := by
  obtain ⟨a, c, rfl, h0⟩ := h
  rcases h0 with rfl | ⟨g, rfl, h1, h2, h3, h4, h5⟩
  · exact (markPNone_any a c w).mono fun e w' h => ⟨h.1, ⟨a, c, rfl, .inl rfl⟩, by rw [← h.2]; exact Below.refl _ _⟩
  · refine (markPtS_any g c n hn w ⟨fun j hj => absurd hj (by omega), fun j hj => ⟨?_, h5 j (by omega)⟩⟩).mono ?_
    · obtain ⟨x, hx⟩ := hp j (by omega)
      exact ⟨x, by rw [h4 j (by omega), hx]⟩
    · rintro e w' ⟨he, hm, ho⟩
      refine ⟨he, ⟨_, c, rfl, .inr ⟨g, rfl, h1, h2, by rw [ho.2.2.2.1]; exact h3, fun j hj => hm.1 j (by omega), fun j hj => (hm.2 j (by omega)).2⟩⟩, ho.below h1⟩
theorem heldP_any {lo hi n : Nat} {v : Value} {w : World} (hn : n ≤ 1000000) (h : PR 2 lo hi w v n markP) :
    Calls Try.prog 27 #[v, .int .i64 1] w fun e w' => e = .returned (.int .i64 ((1 + 2 * n : Nat) : Int)) ∧ Below w.heap.size w w' := by
  obtain ⟨a, c, rfl, h0⟩ := h
  rcases h0 with rfl | ⟨g, rfl, h1, h2, h3, h4, h5⟩
  · exact (heldPNone_any a c w).mono fun e w' h => ⟨h.1, by rw [← h.2]; exact Below.refl _ _⟩
  · refine (heldPtS_any g c n hn w fun j hj => h4 j (by omega)).mono ?_
    rintro e w' ⟨he, m, rfl⟩
    exact ⟨he, belowN (Below.refl _ _)⟩
end Go.Proofs.Ythfmkejdpflpcaa
