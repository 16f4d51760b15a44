/-
  A SLICE OF BYTES THAT CAME IN, OPENED: its bytes as a list.
-/
import Derived.Test.YtfnaddpohkbbnaaUk
import Derived.Deep.Slices
import Derived.ChangeOld
import Derived.Carry
namespace Go.Proofs.Ytfnaddpohkbbnaa
open Go.ChangeShapes Go.WideShapes Go.ChangeAt Go.RowKit Go.Deep
theorem trod_u8 {H : Type} {enc : TypeId × Value → H} {W : World} {base n : Nat} {spare : Nat → Bool} {held : Bool} {v : Value} {y : DataW H × List MemPlace}
    (ht : DataW.trod enc Try.prog W base spare held n 5 [v] = some y) : ∃ c : Int, 0 ≤ c ∧ c ≤ 255 ∧ v = .int .u8 c := by
  cases n with
  | zero => simp [DataW.trod] at ht
  | succ n =>
    obtain ⟨c, e1, _, hw⟩ := DataW.trod_int Try.underlying5 ht
    obtain rfl := (List.cons.inj e1).1
    refine ⟨c, ?_, ?_, rfl⟩
    all_goals (simp [Lit.wf, IntKind.min, IntKind.max, IntKind.bits, IntKind.signed] at hw; omega)
theorem drow_of {H : Type} {enc : TypeId × Value → H} {W : World} {a : Option Addr} {len cap : Nat} {d : DataW H} {ps : List MemPlace} {spare : Nat → Bool} {base : Nat} {held : Bool}
    (h : DataW.Trod enc Try.prog W base spare held 29 (.slice a len cap) d ps) : ∃ D : List UInt8, D.length = len ∧ DR W.heap.size W a D := by
  obtain ⟨fuel, hf⟩ := h
  rcases open_slice1 Try.underlying29 (by kernel_rfl) hf with ⟨hcs, _⟩ | ⟨x, l, c, m, n, V, D, Pl, hcs, _, hl, _, hm, _, hcell⟩
  · simp [Value.cells] at hcs
    obtain ⟨rfl, rfl, rfl⟩ := hcs
    exact ⟨[], rfl, .inl rfl⟩
  · simp [Value.cells] at hcs
    obtain ⟨rfl, rfl, rfl⟩ := hcs
    have hlm : len ≤ m := by rw [hm]; split <;> omega
    by_cases h0 : len = 0
    · exact ⟨[], h0.symm, .inl rfl⟩
    · have hc0 := (hcell 0 (by omega)).1
      obtain ⟨b, off, spot⟩ := x
      have hspot : spot = none := by simpa [Addr.add] using World.cell?_spot hc0
      subst hspot
      have hcs : ∀ i, i < len → ∃ c : Int, 0 ≤ c ∧ c ≤ 255 ∧ W.cell? ⟨b, off + i, none⟩ = some (.int .u8 c) := fun i hi => by
        obtain ⟨c, c0, c1, e⟩ := trod_u8 (hcell i (by omega)).2
        refine ⟨c, c0, c1, ?_⟩
        rw [← e, ← Go.WideShapes.add_plain]
        exact (hcell i (by omega)).1
      refine ⟨(List.range len).map fun i => (match W.cell? ⟨b, off + i, none⟩ with | some (.int _ c) => c.toNat.toUInt8 | _ => 0), by simp, .inr ⟨b, off, rfl, ?_, fun j hj => ?_⟩⟩
      · unfold World.cell? at hc0
        split at hc0
        · rename_i hb; exact (Array.getElem?_eq_some_iff.1 hb).1
        · cases hc0
      · have hj' : j < len := by simpa using hj
        obtain ⟨c, c0, c1, hcc⟩ := hcs j hj'
        rw [hcc]
        simp [hcc]
        omega
end Go.Proofs.Ytfnaddpohkbbnaa
