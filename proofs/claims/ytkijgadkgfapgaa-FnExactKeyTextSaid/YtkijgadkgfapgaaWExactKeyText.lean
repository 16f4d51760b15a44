/-
  THE WALK of the law, whole.
-/
import Derived.Test.YtkijgadkgfapgaaYe
namespace Go.Proofs.Ytkijgadkgfapgaa
open Go.ChangeShapes Go.WideShapes Go.ChangeAt Go.RowKit
theorem byY_of_wf {n : Nat} {p : Nat → Int} (h : ∀ i, i < n → (Lit.int .u8 (p i)).wf = true) : ByF n p := fun i hi => by
  have := h i hi
  simp [Lit.wf, IntKind.min, IntKind.max, IntKind.bits, IntKind.signed] at this
  omega
set_option maxRecDepth 20000 in
set_option maxHeartbeats 4000000 in
theorem fnExactKeyText_walk (f : Nat → Int) (hf : ∀ i, i < 16 → (Lit.int .u8 (f i)).wf = true) (w : World) :
    Calls Try.prog 4 #[.agg (Q16 f)] w fun e w' => e = .returned (.bool true) ∧ Below w.heap.size w w' := by
  have hb := byY_of_wf hf
  have e : Q16 f = Q16 (fun j => (((f j).toNat : Nat) : Int)) := arr_congr fun j hj => by have := hb j hj; omega
  have hq : ∀ j, j < 16 → (f j).toNat ≤ 255 := fun j hj => by have := hb j hj; omega
  have TO := Lib.hid (toKey_any f)
  have SC := Lib.hid (sText_any (fun j => (f j).toNat) hq)
  have IC := Lib.hid (iText_any (fun j => (f j).toNat) hq)
  have GS : Hid ((Q16 f).size = 16) := Lib.hid (arr_size .u8 16 f)
  rw [← e] at SC IC
  obtain ⟨R, hR⟩ : ∃ R : ByteArray, ⟨(hexL (fun j => (f j).toNat) 16).toArray⟩ = R := ⟨_, rfl⟩
  rw [hR] at SC IC
  clear hR hq e hb hf
  generalize Q16 f = A at TO SC IC GS ⊢
  obtain ⟨w1, hw1⟩ : ∃ w1, w.alloc (.cells A 24) = w1 := ⟨_, rfl⟩
  have B1 : Hid (Below w.heap.size w w1) := Lib.hid (by rw [← hw1]; exact (Below.refl _ _).alloc (Nat.le_refl _) _)
  have A1 : Hid (w1.heap[w.heap.size]? = some (.cells A 24 (0, 0))) := Lib.hid (by rw [← hw1]; exact World.alloc_heap_new w _)
  have L1 : Hid (w.heap.size < w1.heap.size) := Lib.hid (by rw [← hw1]; simp)
  go_enter Try.func4, Try.ntmps4
  go_wp2_with (refine wpList_load_row rfl 24 _ rfl w.heap.size rfl 24 _ _ _ A1.out Try.underlying24 rfl (f16_info _ GS.out) ?_)
  clear hw1
  refine Calls.mono (TO.out _) ?_
  rintro e w2 ⟨rfl, b⟩
  have A2 := Lib.hid ((b.block w.heap.size L1.out).trans A1.out)
  have L2 : Hid (w.heap.size < w2.heap.size) := Lib.hid (Nat.lt_of_lt_of_le L1.out b.size)
  have B2 := Lib.hid (B1.out.trans (b.mono (Nat.le_of_lt L1.out)))
  clear b
  go_wp2_with fail
  refine Calls.mono (SC.out _) ?_
  rintro e w3 ⟨rfl, b⟩
  have A3 := Lib.hid ((b.block w.heap.size L2.out).trans A2.out)
  have L3 : Hid (w.heap.size < w3.heap.size) := Lib.hid (Nat.lt_of_lt_of_le L2.out b.size)
  have B3 := Lib.hid (B2.out.trans (b.mono (Nat.le_of_lt L2.out)))
  clear b
  go_wp2_with (refine wpList_load_row rfl 24 _ rfl w.heap.size rfl 24 _ _ _ A3.out Try.underlying24 rfl (f16_info _ GS.out) ?_)
  refine Calls.mono (TO.out _) ?_
  rintro e w4 ⟨rfl, b⟩
  have L4 : Hid (w.heap.size < w4.heap.size) := Lib.hid (Nat.lt_of_lt_of_le L3.out b.size)
  have B4 := Lib.hid (B3.out.trans (b.mono (Nat.le_of_lt L3.out)))
  clear b
  go_wp2_with fail
  refine Calls.mono (IC.out _) ?_
  rintro e w5 ⟨rfl, b⟩
  have B5 := Lib.hid (B4.out.trans (b.mono (Nat.le_of_lt L4.out)))
  clear b
  go_wp2
  go_ret
  exact ⟨rfl, B5.out⟩
end Go.Proofs.Ytkijgadkgfapgaa
