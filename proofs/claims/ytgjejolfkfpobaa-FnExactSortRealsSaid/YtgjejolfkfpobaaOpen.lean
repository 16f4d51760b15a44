/-
  A SLICE OF NARROW NUMBERS THAT CAME IN, OPENED.
-/
import Derived.Test.YtgjejolfkfpobaaSl
import Derived.Deep.Slices
import Derived.ChangeOld
import Derived.Carry
namespace Go.Proofs.Ytgjejolfkfpobaa
open Go.ChangeShapes Go.WideShapes Go.ChangeAt Go.RowKit Go.Deep
open Fl
def bitsOf : Value → Nat
  | .float _ b => b
  | _ => 0
theorem trod_f32 {H : Type} {enc : TypeId × Value → H} {W : World} {base n : Nat} {spare : Nat → Bool} {held : Bool} {v : Value} {y : DataW H × List MemPlace}
    (ht : DataW.trod enc Try.prog W base spare held n 31 [v] = some y) : v = .float .f32 (bitsOf v) ∧ W32 (bitsOf v) := by
  cases n with
  | zero => simp [DataW.trod] at ht
  | succ n =>
    cases v <;> simp [DataW.trod, Try.underlying31] at ht
    obtain ⟨⟨rfl, hw⟩, _⟩ := ht
    exact ⟨rfl, W32.of_wf hw⟩
theorem frow_of {H : Type} {enc : TypeId × Value → H} {W : World} {a : Option Addr} {len cap : Nat} {d : DataW H} {ps : List MemPlace} {spare : Nat → Bool} {base : Nat} {held : Bool}
    (h : DataW.Trod enc Try.prog W base spare held 24 (.slice a len cap) d ps) : ∃ bs, FRow W a len bs := by
  obtain ⟨fuel, hf⟩ := h
  rcases open_slice1 Try.underlying24 (by kernel_rfl) hf with ⟨hcs, _⟩ | ⟨x, l, c, m, n, V, D, Pl, hcs, _, hl, _, hm, _, hcell⟩
  · simp [Value.cells] at hcs
    obtain ⟨rfl, rfl, rfl⟩ := hcs
    exact ⟨[], rfl, fun i hi => absurd hi (by omega), .inl rfl⟩
  · simp [Value.cells] at hcs
    obtain ⟨rfl, rfl, rfl⟩ := hcs
    have hlm : len ≤ m := by rw [hm]; split <;> omega
    have each : ∀ i, i < len → V i = .float .f32 (bitsOf (V i)) ∧ W32 (bitsOf (V i)) := by
      intro i hi
      exact trod_f32 (hcell i (by omega)).2
    have hget : ∀ i, i < len → ((List.range len).map fun i => bitsOf (V i))[i]?.getD 0 = bitsOf (V i) := by
      intro i hi; simp [hi]
    refine ⟨(List.range len).map fun i => bitsOf (V i), by simp, fun i hi => by rw [hget i hi]; exact (each i hi).2, ?_⟩
    by_cases h0 : len = 0
    · exact .inl h0
    · right
      have hc0 := (hcell 0 (by omega)).1
      obtain ⟨b, off, spot⟩ := x
      have hspot : spot = none := by simpa [Addr.add] using World.cell?_spot hc0
      subst hspot
      refine ⟨b, off, rfl, ?_, fun i hi => ?_⟩
      · unfold World.cell? at hc0
        split at hc0
        · rename_i hb; exact (Array.getElem?_eq_some_iff.1 hb).1
        · cases hc0
      · rw [hget i hi, ← (each i hi).1, ← Go.WideShapes.add_plain]
        exact (hcell i (by omega)).1
end Go.Proofs.Ytgjejolfkfpobaa
