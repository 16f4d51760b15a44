/-
  THE WALK of the law, whole.
-/
import Derived.Test.YtandgjjfiniboaaTm
import Derived.Test.YtandgjjfiniboaaMl
namespace Go.Proofs.Ytandgjjfiniboaa
open Go.ChangeShapes Go.WideShapes Go.ChangeAt Go.RowKit
set_option maxRecDepth 20000 in
theorem fnExactMaskText_walk (f : Nat → Int) (hw : ∀ i, i < 16 → (Lit.int .u16 (f i)).wf = true) (w : World) :
    Calls Try.prog 14 #[.agg (arr .u16 16 f)] w fun e w' => e = .returned (.bool true) ∧ Below w.heap.size w w' := by
  have hf := MB.of_wf hw
  clear hw
  have h1 := Lib.hid (fun w => smaskText_any f hf w)
  have h2 := Lib.hid (fun w => imaskText_any f hf w)
  have ht := Lib.hid (fun w => toMask_any f w)
  unfold TmPost at h1 h2
  clear hf
  generalize txB f = c at h1 h2
  have C0 : Hid ((w.alloc (.cells (M16 f) 25)).heap[w.heap.size]? = some (.cells (M16 f) 25 (0, 0))) := Lib.hid (World.alloc_heap_new w _)
  have B0 : Hid (Below w.heap.size w (w.alloc (.cells (M16 f) 25))) := Lib.hid ((Below.refl _ w).alloc (Nat.le_refl _) _)
  have Z0 : Hid (w.heap.size < (w.alloc (.cells (M16 f) 25)).heap.size) := Lib.hid (by simp)
  go_enter Try.func14, Try.ntmps14
  go_wp2_with (refine wpList_load_row rfl 25 _ rfl w.heap.size rfl 25 _ _ _ C0.out Try.underlying25 rfl (a16_info _ (arr_size _ _ _)) ?_)
  generalize w.alloc (.cells (M16 f) 25) = w0 at C0 B0 Z0 ⊢
  refine (ht.out _).mono ?_
  rintro e w1 ⟨rfl, b1⟩
  have Z1 := Lib.hid (Nat.lt_of_lt_of_le Z0.out b1.size)
  have C1 := Lib.hid ((b1.block w.heap.size Z0.out).trans C0.out)
  have B1 := Lib.hid (B0.out.trans (b1.mono (Nat.le_of_lt Z0.out)))
  clear b1 C0 B0
  go_wp2_with fail
  refine (h1.out _).mono ?_
  rintro e w2 ⟨rfl, b2⟩
  have Z2 := Lib.hid (Nat.lt_of_lt_of_le Z1.out b2.size)
  have C2 := Lib.hid ((b2.block w.heap.size Z1.out).trans C1.out)
  have B2 := Lib.hid (B1.out.trans (b2.mono (Nat.le_of_lt Z1.out)))
  clear b2 C1 B1
  go_wp2_with (refine wpList_load_row rfl 25 _ rfl w.heap.size rfl 25 _ _ _ C2.out Try.underlying25 rfl (a16_info _ (arr_size _ _ _)) ?_)
  refine (ht.out _).mono ?_
  rintro e w3 ⟨rfl, b3⟩
  have Z3 := Lib.hid (Nat.lt_of_lt_of_le Z2.out b3.size)
  have B3 := Lib.hid (B2.out.trans (b3.mono (Nat.le_of_lt Z2.out)))
  clear b3 C2 B2
  go_wp2_with fail
  refine (h2.out _).mono ?_
  rintro e w4 ⟨rfl, b4⟩
  have B4 := Lib.hid (B3.out.trans (b4.mono (Nat.le_of_lt Z3.out)))
  clear b4 B3
  go_wp2
  go_ret
  exact ⟨rfl, B4.out⟩
end Go.Proofs.Ytandgjjfiniboaa
