/-
  THE WALK of the law, whole.
-/
import Derived.Test.YtfnaddpohkbbnaaIrm
import Derived.Test.YtfnaddpohkbbnaaRm
namespace Go.Proofs.Ytfnaddpohkbbnaa
open Go.ChangeShapes Go.WideShapes Go.ChangeAt Go.RowKit
set_option maxRecDepth 20000 in
set_option maxHeartbeats 2000000 in
theorem fnExactReadMask_walk (T : ByteArray) {pT : Prop} (_ : pT) (w : World) :
    Calls Try.prog 3 #[.string T] w fun e w' => e = .returned (.bool true) ∧ Below w.heap.size w w' := by
  have h1 := Lib.hid (fun w => sreadMask_any T w)
  have h2 := Lib.hid (fun w => ireadMask_any T w)
  unfold RmPost at h1 h2
  generalize rmF T = g at h1 h2
  generalize rmC T = c at h1 h2
  by_cases hn : (1048576 : Int) < (T.size : Int)
  · go_enter Try.func3, Try.ntmps3
    go_wp2
    go_ret
    exact ⟨rfl, Below.refl _ _⟩
  · have hn' : (T.size : Int) ≤ 1048576 := by omega
    clear hn
    go_enter Try.func3, Try.ntmps3
    go_wp2_with fail
    refine (h1.out _).mono ?_
    rintro e w2 ⟨rfl, b2⟩
    have B2 := Lib.hid b2
    clear b2
    have Z2 : Hid (w.heap.size ≤ w2.heap.size) := Lib.hid B2.out.size
    have N2 : Hid ((w2.alloc (.cells #[Value.int .u16 0, Value.int .u16 0, Value.int .u16 0, Value.int .u16 0, Value.int .u16 0, Value.int .u16 0, Value.int .u16 0, Value.int .u16 0, Value.int .u16 0, Value.int .u16 0, Value.int .u16 0, Value.int .u16 0, Value.int .u16 0, Value.int .u16 0, Value.int .u16 0, Value.int .u16 0] 24)).heap[w2.heap.size]? = some (.cells #[Value.int .u16 0, Value.int .u16 0, Value.int .u16 0, Value.int .u16 0, Value.int .u16 0, Value.int .u16 0, Value.int .u16 0, Value.int .u16 0, Value.int .u16 0, Value.int .u16 0, Value.int .u16 0, Value.int .u16 0, Value.int .u16 0, Value.int .u16 0, Value.int .u16 0, Value.int .u16 0] 24 (0, 0))) := Lib.hid (World.alloc_heap_new w2 _)
    obtain ⟨W3, hW3⟩ : ∃ W3, (w2.alloc (.cells #[Value.int .u16 0, Value.int .u16 0, Value.int .u16 0, Value.int .u16 0, Value.int .u16 0, Value.int .u16 0, Value.int .u16 0, Value.int .u16 0, Value.int .u16 0, Value.int .u16 0, Value.int .u16 0, Value.int .u16 0, Value.int .u16 0, Value.int .u16 0, Value.int .u16 0, Value.int .u16 0] 24)).setRow w2.heap.size (M16 g) = W3 := ⟨_, rfl⟩
    have E2 : Hid (W3.heap[w2.heap.size]? = some (.cells (M16 g) 24 (0, 0))) := Lib.hid (by rw [← hW3]; exact setRow_heap _ _ _ _ _ _ N2.out)
    have F2 : Hid (Below w.heap.size w W3) := Lib.hid (by rw [← hW3]; exact below_setRow (B2.out.alloc Z2.out _) Z2.out _)
    have Y2 : Hid (w2.heap.size < W3.heap.size) := Lib.hid (by rw [← hW3]; simp)
    go_wp2_with (refine wpList_store_row rfl 24 _ _ rfl w2.heap.size (M16 g) rfl rfl 24 _ N2.out (mask_info _ rfl) rfl (arr_cells _ _ _) ?_; rw [hW3])
    clear hW3 N2
    refine (h2.out _).mono ?_
    rintro e w5 ⟨rfl, b5⟩
    have Y5 := Lib.hid (Nat.lt_of_lt_of_le Y2.out b5.size)
    have E5 := Lib.hid ((b5.block w2.heap.size Y2.out).trans E2.out)
    have F5 := Lib.hid (F2.out.trans (b5.mono (by have := Y2.out; have := Z2.out; omega)))
    clear b5 E2 F2
    have N5 : Hid ((w5.alloc (.cells #[Value.int .u16 0, Value.int .u16 0, Value.int .u16 0, Value.int .u16 0, Value.int .u16 0, Value.int .u16 0, Value.int .u16 0, Value.int .u16 0, Value.int .u16 0, Value.int .u16 0, Value.int .u16 0, Value.int .u16 0, Value.int .u16 0, Value.int .u16 0, Value.int .u16 0, Value.int .u16 0] 24)).heap[w5.heap.size]? = some (.cells #[Value.int .u16 0, Value.int .u16 0, Value.int .u16 0, Value.int .u16 0, Value.int .u16 0, Value.int .u16 0, Value.int .u16 0, Value.int .u16 0, Value.int .u16 0, Value.int .u16 0, Value.int .u16 0, Value.int .u16 0, Value.int .u16 0, Value.int .u16 0, Value.int .u16 0, Value.int .u16 0] 24 (0, 0))) := Lib.hid (World.alloc_heap_new w5 _)
    obtain ⟨W6, hW6⟩ : ∃ W6, (w5.alloc (.cells #[Value.int .u16 0, Value.int .u16 0, Value.int .u16 0, Value.int .u16 0, Value.int .u16 0, Value.int .u16 0, Value.int .u16 0, Value.int .u16 0, Value.int .u16 0, Value.int .u16 0, Value.int .u16 0, Value.int .u16 0, Value.int .u16 0, Value.int .u16 0, Value.int .u16 0, Value.int .u16 0] 24)).setRow w5.heap.size (M16 g) = W6 := ⟨_, rfl⟩
    have D6 : Hid (W6.heap[w2.heap.size]? = some (.cells (M16 g) 24 (0, 0))) := Lib.hid (by rw [← hW6]; exact (setRow_other _ _ _ _ (Nat.ne_of_lt Y5.out)).trans ((Below.heap_alloc _ _ _ Y5.out).trans E5.out))
    have G6 : Hid (W6.heap[w5.heap.size]? = some (.cells (M16 g) 24 (0, 0))) := Lib.hid (by rw [← hW6]; exact setRow_heap _ _ _ _ _ _ N5.out)
    have F6 : Hid (Below w.heap.size w W6) := Lib.hid (by rw [← hW6]; exact below_setRow (F5.out.alloc (by have := Y5.out; have := Z2.out; omega) _) (by have := Y5.out; have := Z2.out; omega) _)
    have Y6 : Hid (w.heap.size ≤ W6.heap.size) := Lib.hid F6.out.size
    go_wp2_with (first | (refine wpList_store_row rfl 24 _ _ rfl w5.heap.size (M16 g) rfl rfl 24 _ N5.out (mask_info _ rfl) rfl (arr_cells _ _ _) ?_; rw [hW6]) | (refine wpList_load_row rfl 24 _ rfl w5.heap.size rfl 24 _ _ _ G6.out Try.underlying24 rfl (mask_info _ (arr_size _ _ _)) ?_) | (refine wpList_load_row rfl 24 _ rfl w2.heap.size rfl 24 _ _ _ D6.out Try.underlying24 rfl (mask_info _ (arr_size _ _ _)) ?_))
    clear hW6 N5
    refine (eqMask_any g g rfl _).mono ?_
    rintro e w7 ⟨rfl, b7⟩
    have B7 := Lib.hid (F6.out.trans (b7.mono Y6.out))
    clear b7
    have tc : (c != c) = false := by simp
    go_wp2
    go_ret
    exact ⟨rfl, B7.out⟩
end Go.Proofs.Ytfnaddpohkbbnaa
