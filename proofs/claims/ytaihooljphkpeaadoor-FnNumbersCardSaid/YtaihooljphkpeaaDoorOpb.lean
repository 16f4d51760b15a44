/-
  A SLICE OF BYTES THAT CAME IN, OPENED.
-/
import Derived.Test.YtaihooljphkpeaaDoorSrc
import Derived.Deep.Slices
import Derived.ChangeOld
import Derived.Carry
namespace Go.Proofs.YtaihooljphkpeaaDoor
open Go.ChangeShapes Go.WideShapes Go.ChangeAt Go.RowKit Go.Deep
theorem trod_u8 {H : Type} {enc : TypeId × Value → H} {W : World} {base n : Nat} {spare : Nat → Bool} {held : Bool} {v : Value} {y : DataW H × List MemPlace}
    (ht : DataW.trod enc Tryd.prog W base spare held n 5 [v] = some y) : ∃ c : Int, 0 ≤ c ∧ c ≤ 255 ∧ v = .int .u8 c := by
  cases n with
  | zero => simp [DataW.trod] at ht
  | succ n =>
    obtain ⟨c, e1, _, hw⟩ := DataW.trod_int Tryd.underlying5 ht
    obtain rfl := (List.cons.inj e1).1
    refine ⟨c, ?_, ?_, rfl⟩
    all_goals (simp [Lit.wf, IntKind.min, IntKind.max, IntKind.bits, IntKind.signed] at hw; omega)
theorem brow_of {H : Type} {enc : TypeId × Value → H} {W : World} {a : Option Addr} {len cap : Nat} {d : DataW H} {ps : List MemPlace} {spare : Nat → Bool} {base : Nat} {held : Bool}
    (h : DataW.Trod enc Tryd.prog W base spare held 22 (.slice a len cap) d ps) : BRow W.heap.size W a len := by
  obtain ⟨fuel, hf⟩ := h
  rcases open_slice1 Tryd.underlying22 (by kernel_rfl) hf with ⟨hcs, _⟩ | ⟨x, l, c, m, n, V, D, Pl, hcs, _, hl, _, hm, _, hcell⟩
  · simp [Value.cells] at hcs
    obtain ⟨rfl, rfl, rfl⟩ := hcs
    exact .inl rfl
  · simp [Value.cells] at hcs
    obtain ⟨rfl, rfl, rfl⟩ := hcs
    have hlm : len ≤ m := by rw [hm]; split <;> omega
    by_cases h0 : len = 0
    · exact .inl h0
    · right
      have hc0 := (hcell 0 (by omega)).1
      obtain ⟨b, off, spot⟩ := x
      have hspot : spot = none := by simpa [Addr.add] using World.cell?_spot hc0
      subst hspot
      refine ⟨b, off, rfl, ?_, fun i hi => ?_⟩
      · unfold World.cell? at hc0
        split at hc0
        · rename_i hb; exact (Array.getElem?_eq_some_iff.1 hb).1
        · cases hc0
      · obtain ⟨c, c0, c1, e⟩ := trod_u8 (hcell i (by omega)).2
        refine ⟨c, c0, c1, ?_⟩
        rw [← e, ← Go.WideShapes.add_plain]
        exact (hcell i (by omega)).1
end Go.Proofs.YtaihooljphkpeaaDoor
