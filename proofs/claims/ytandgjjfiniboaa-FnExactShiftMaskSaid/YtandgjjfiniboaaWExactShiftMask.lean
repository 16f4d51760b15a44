/-
  THE WALK of the law, whole.
-/
import Derived.Test.YtandgjjfiniboaaMq
namespace Go.Proofs.Ytandgjjfiniboaa
open Go.ChangeShapes Go.WideShapes Go.ChangeAt Go.RowKit
set_option maxRecDepth 20000 in
set_option maxHeartbeats 2000000 in
theorem fnExactShiftMask_walk (f : Nat → Int) (hw : ∀ i, i < 16 → (Lit.int .u16 (f i)).wf = true) (x : Int) {px : Prop} (_ : px) (y : Int) {py : Prop} (_ : py) (w : World) :
    Calls Try.prog 11 #[.agg (arr .u16 16 f), .int .i64 x, .int .i64 y] w fun e w' => e = .returned (.bool true) ∧ Below w.heap.size w w' := by
  have hf := MB.of_wf hw
  clear hw
  have h1 := Lib.hid (fun w => sShiftMask_any f hf x y w)
  have h2 := Lib.hid (fun w => iShiftMask_any f hf x y w)
  have ht := Lib.hid (fun w => toMask_any f w)
  unfold ShiftMaskPost at h1 h2
  clear hf
  generalize ShiftMaskG f x y = g at h1 h2
  generalize ShiftMaskC f x y = c at h1 h2
  have C0 : Hid ((w.alloc (.cells (M16 f) 25)).heap[w.heap.size]? = some (.cells (M16 f) 25 (0, 0))) := Lib.hid (World.alloc_heap_new w _)
  have B0 : Hid (Below w.heap.size w (w.alloc (.cells (M16 f) 25))) := Lib.hid ((Below.refl _ w).alloc (Nat.le_refl _) _)
  have Z0 : Hid (w.heap.size < (w.alloc (.cells (M16 f) 25)).heap.size) := Lib.hid (by simp)
  go_enter Try.func11, Try.ntmps11
  go_wp2_with (refine wpList_load_row rfl 25 _ rfl w.heap.size rfl 25 _ _ _ C0.out Try.underlying25 rfl (a16_info _ (arr_size _ _ _)) ?_)
  generalize w.alloc (.cells (M16 f) 25) = w0 at C0 B0 Z0 ⊢
  refine (ht.out _).mono ?_
  rintro e w1 ⟨rfl, b1⟩
  have Z1 := Lib.hid (Nat.lt_of_lt_of_le Z0.out b1.size)
  have C1 := Lib.hid ((b1.block w.heap.size Z0.out).trans C0.out)
  have B1 := Lib.hid (B0.out.trans (b1.mono (Nat.le_of_lt Z0.out)))
  clear b1 C0 B0
  go_wp2_with fail
  refine (h1.out _).mono ?_
  rintro e w2 ⟨rfl, b2⟩
  have Z2 := Lib.hid (Nat.lt_of_lt_of_le Z1.out b2.size)
  have C2 := Lib.hid ((b2.block w.heap.size Z1.out).trans C1.out)
  have B2 := Lib.hid (B1.out.trans (b2.mono (Nat.le_of_lt Z1.out)))
  clear b2 C1 B1
  have N2 : Hid ((w2.alloc (.cells #[Value.int .u16 0, Value.int .u16 0, Value.int .u16 0, Value.int .u16 0, Value.int .u16 0, Value.int .u16 0, Value.int .u16 0, Value.int .u16 0, Value.int .u16 0, Value.int .u16 0, Value.int .u16 0, Value.int .u16 0, Value.int .u16 0, Value.int .u16 0, Value.int .u16 0, Value.int .u16 0] 26)).heap[w2.heap.size]? = some (.cells #[Value.int .u16 0, Value.int .u16 0, Value.int .u16 0, Value.int .u16 0, Value.int .u16 0, Value.int .u16 0, Value.int .u16 0, Value.int .u16 0, Value.int .u16 0, Value.int .u16 0, Value.int .u16 0, Value.int .u16 0, Value.int .u16 0, Value.int .u16 0, Value.int .u16 0, Value.int .u16 0] 26 (0, 0))) := Lib.hid (World.alloc_heap_new w2 _)
  have D2 : Hid (((w2.alloc (.cells #[Value.int .u16 0, Value.int .u16 0, Value.int .u16 0, Value.int .u16 0, Value.int .u16 0, Value.int .u16 0, Value.int .u16 0, Value.int .u16 0, Value.int .u16 0, Value.int .u16 0, Value.int .u16 0, Value.int .u16 0, Value.int .u16 0, Value.int .u16 0, Value.int .u16 0, Value.int .u16 0] 26)).setRow w2.heap.size (M16 g)).heap[w.heap.size]? = some (.cells (M16 f) 25 (0, 0))) := Lib.hid ((setRow_other _ _ _ _ (Nat.ne_of_lt Z2.out)).trans ((Below.heap_alloc _ _ _ Z2.out).trans C2.out))
  have E2 : Hid (((w2.alloc (.cells #[Value.int .u16 0, Value.int .u16 0, Value.int .u16 0, Value.int .u16 0, Value.int .u16 0, Value.int .u16 0, Value.int .u16 0, Value.int .u16 0, Value.int .u16 0, Value.int .u16 0, Value.int .u16 0, Value.int .u16 0, Value.int .u16 0, Value.int .u16 0, Value.int .u16 0, Value.int .u16 0] 26)).setRow w2.heap.size (M16 g)).heap[w2.heap.size]? = some (.cells (M16 g) 26 (0, 0))) := Lib.hid (setRow_heap _ _ _ _ _ _ N2.out)
  have F2 : Hid (Below w.heap.size w ((w2.alloc (.cells #[Value.int .u16 0, Value.int .u16 0, Value.int .u16 0, Value.int .u16 0, Value.int .u16 0, Value.int .u16 0, Value.int .u16 0, Value.int .u16 0, Value.int .u16 0, Value.int .u16 0, Value.int .u16 0, Value.int .u16 0, Value.int .u16 0, Value.int .u16 0, Value.int .u16 0, Value.int .u16 0] 26)).setRow w2.heap.size (M16 g))) := Lib.hid (below_setRow (B2.out.alloc (Nat.le_of_lt Z2.out) _) (Nat.le_of_lt Z2.out) _)
  have Y2 : Hid (w2.heap.size < ((w2.alloc (.cells #[Value.int .u16 0, Value.int .u16 0, Value.int .u16 0, Value.int .u16 0, Value.int .u16 0, Value.int .u16 0, Value.int .u16 0, Value.int .u16 0, Value.int .u16 0, Value.int .u16 0, Value.int .u16 0, Value.int .u16 0, Value.int .u16 0, Value.int .u16 0, Value.int .u16 0, Value.int .u16 0] 26)).setRow w2.heap.size (M16 g)).heap.size) := Lib.hid (by simp)
  go_wp2_with (first | (refine wpList_store_row rfl 26 _ _ rfl w2.heap.size (M16 g) rfl rfl 26 _ N2.out (mask_info _ rfl) rfl (arr_cells _ _ _) ?_) | (refine wpList_load_row rfl 25 _ rfl w.heap.size rfl 25 _ _ _ D2.out Try.underlying25 rfl (a16_info _ (arr_size _ _ _)) ?_))
  generalize (w2.alloc (.cells #[Value.int .u16 0, Value.int .u16 0, Value.int .u16 0, Value.int .u16 0, Value.int .u16 0, Value.int .u16 0, Value.int .u16 0, Value.int .u16 0, Value.int .u16 0, Value.int .u16 0, Value.int .u16 0, Value.int .u16 0, Value.int .u16 0, Value.int .u16 0, Value.int .u16 0, Value.int .u16 0] 26)).setRow w2.heap.size (M16 g) = w3 at D2 E2 F2 Y2 ⊢
  refine (ht.out _).mono ?_
  rintro e w4 ⟨rfl, b4⟩
  have Y4 := Lib.hid (Nat.lt_of_lt_of_le Y2.out b4.size)
  have E4 := Lib.hid ((b4.block w2.heap.size Y2.out).trans E2.out)
  have F4 := Lib.hid (F2.out.trans (b4.mono (by have := Y2.out; have := Z2.out; omega)))
  clear b4 D2 E2 F2
  go_wp2_with fail
  refine (h2.out _).mono ?_
  rintro e w5 ⟨rfl, b5⟩
  have Y5 := Lib.hid (Nat.lt_of_lt_of_le Y4.out b5.size)
  have E5 := Lib.hid ((b5.block w2.heap.size Y4.out).trans E4.out)
  have F5 := Lib.hid (F4.out.trans (b5.mono (by have := Y4.out; have := Z2.out; omega)))
  clear b5 E4 F4
  have N5 : Hid ((w5.alloc (.cells #[Value.int .u16 0, Value.int .u16 0, Value.int .u16 0, Value.int .u16 0, Value.int .u16 0, Value.int .u16 0, Value.int .u16 0, Value.int .u16 0, Value.int .u16 0, Value.int .u16 0, Value.int .u16 0, Value.int .u16 0, Value.int .u16 0, Value.int .u16 0, Value.int .u16 0, Value.int .u16 0] 26)).heap[w5.heap.size]? = some (.cells #[Value.int .u16 0, Value.int .u16 0, Value.int .u16 0, Value.int .u16 0, Value.int .u16 0, Value.int .u16 0, Value.int .u16 0, Value.int .u16 0, Value.int .u16 0, Value.int .u16 0, Value.int .u16 0, Value.int .u16 0, Value.int .u16 0, Value.int .u16 0, Value.int .u16 0, Value.int .u16 0] 26 (0, 0))) := Lib.hid (World.alloc_heap_new w5 _)
  have D5 : Hid (((w5.alloc (.cells #[Value.int .u16 0, Value.int .u16 0, Value.int .u16 0, Value.int .u16 0, Value.int .u16 0, Value.int .u16 0, Value.int .u16 0, Value.int .u16 0, Value.int .u16 0, Value.int .u16 0, Value.int .u16 0, Value.int .u16 0, Value.int .u16 0, Value.int .u16 0, Value.int .u16 0, Value.int .u16 0] 26)).setRow w5.heap.size (M16 g)).heap[w2.heap.size]? = some (.cells (M16 g) 26 (0, 0))) := Lib.hid ((setRow_other _ _ _ _ (Nat.ne_of_lt Y5.out)).trans ((Below.heap_alloc _ _ _ Y5.out).trans E5.out))
  have G5 : Hid (((w5.alloc (.cells #[Value.int .u16 0, Value.int .u16 0, Value.int .u16 0, Value.int .u16 0, Value.int .u16 0, Value.int .u16 0, Value.int .u16 0, Value.int .u16 0, Value.int .u16 0, Value.int .u16 0, Value.int .u16 0, Value.int .u16 0, Value.int .u16 0, Value.int .u16 0, Value.int .u16 0, Value.int .u16 0] 26)).setRow w5.heap.size (M16 g)).heap[w5.heap.size]? = some (.cells (M16 g) 26 (0, 0))) := Lib.hid (setRow_heap _ _ _ _ _ _ N5.out)
  have F6 : Hid (Below w.heap.size w ((w5.alloc (.cells #[Value.int .u16 0, Value.int .u16 0, Value.int .u16 0, Value.int .u16 0, Value.int .u16 0, Value.int .u16 0, Value.int .u16 0, Value.int .u16 0, Value.int .u16 0, Value.int .u16 0, Value.int .u16 0, Value.int .u16 0, Value.int .u16 0, Value.int .u16 0, Value.int .u16 0, Value.int .u16 0] 26)).setRow w5.heap.size (M16 g))) := Lib.hid (below_setRow (F5.out.alloc (by have := Y5.out; have := Z2.out; omega) _) (by have := Y5.out; have := Z2.out; omega) _)
  have Y6 : Hid (w.heap.size < ((w5.alloc (.cells #[Value.int .u16 0, Value.int .u16 0, Value.int .u16 0, Value.int .u16 0, Value.int .u16 0, Value.int .u16 0, Value.int .u16 0, Value.int .u16 0, Value.int .u16 0, Value.int .u16 0, Value.int .u16 0, Value.int .u16 0, Value.int .u16 0, Value.int .u16 0, Value.int .u16 0, Value.int .u16 0] 26)).setRow w5.heap.size (M16 g)).heap.size) := Lib.hid (by have := Y5.out; have := Z2.out; simp; omega)
  go_wp2_with (first | (refine wpList_store_row rfl 26 _ _ rfl w5.heap.size (M16 g) rfl rfl 26 _ N5.out (mask_info _ rfl) rfl (arr_cells _ _ _) ?_) | (refine wpList_load_row rfl 26 _ rfl w5.heap.size rfl 26 _ _ _ G5.out Try.underlying26 rfl (mask_info _ (arr_size _ _ _)) ?_) | (refine wpList_load_row rfl 26 _ rfl w2.heap.size rfl 26 _ _ _ D5.out Try.underlying26 rfl (mask_info _ (arr_size _ _ _)) ?_))
  generalize (w5.alloc (.cells #[Value.int .u16 0, Value.int .u16 0, Value.int .u16 0, Value.int .u16 0, Value.int .u16 0, Value.int .u16 0, Value.int .u16 0, Value.int .u16 0, Value.int .u16 0, Value.int .u16 0, Value.int .u16 0, Value.int .u16 0, Value.int .u16 0, Value.int .u16 0, Value.int .u16 0, Value.int .u16 0] 26)).setRow w5.heap.size (M16 g) = w6 at D5 G5 F6 Y6 ⊢
  refine (eqMask_any g g rfl _).mono ?_
  rintro e w7 ⟨rfl, b7⟩
  have B7 := Lib.hid (F6.out.trans (b7.mono (Nat.le_of_lt Y6.out)))
  clear b7
  have tc : (c != c) = false := by simp
  go_wp2
  go_ret
  exact ⟨rfl, B7.out⟩
end Go.Proofs.Ytandgjjfiniboaa
