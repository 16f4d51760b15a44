/-
  THE WALK of the law, whole.
-/
import Derived.Test.YtfnaddpohkbbnaaBa
namespace Go.Proofs.Ytfnaddpohkbbnaa
open Go.ChangeShapes Go.WideShapes Go.ChangeAt Go.RowKit
set_option maxRecDepth 20000 in
set_option maxHeartbeats 2000000 in
theorem fnExactBlockAt_walk (x : Int) {p : Prop} (_ : p) (y : Int) {q : Prop} (_ : q) (w : World) :
    Calls Try.prog 6 #[.int .i64 x, .int .i64 y] w fun e w' => e = .returned (.bool true) ∧ Below w.heap.size w w' := by
  have h1 := fun w => sBlockAt_any x y w
  have h2 := fun w => iBlockAt_any x y w
  unfold BaPost at h1 h2
  obtain ⟨a, b, hA⟩ : ∃ a b, (if colB x && colB y then atA x y else #[Value.int .i32 0, .int .i32 0]) = #[Value.int .i32 a, .int .i32 b] := by
    split
    · exact ⟨_, _, rfl⟩
    · exact ⟨_, _, rfl⟩
  rw [hA] at h1 h2
  have H1 := Lib.hid h1
  have H2 := Lib.hid h2
  clear h1 h2 hA
  generalize (if colB x && colB y then x % 16 else 0) = c at H1 H2
  generalize (if colB x && colB y then y % 16 else 0) = d at H1 H2
  generalize (if colB x && colB y then (0 : Int) else 2) = k at H1 H2
  have tc : (c != c) = false := by simp
  have td : (d != d) = false := by simp
  have tk : (k != k) = false := by simp
  go_enter Try.func6, Try.ntmps6
  go_wp2_with fail
  refine (H1.out _).mono ?_
  rintro e w1 ⟨rfl, b1⟩
  have B1 := Lib.hid b1
  have Z1 := Lib.hid b1.size
  have C0 : Hid (∀ W, Below (w1.heap.size + 1) (w1.alloc (.cells #[.int .i32 a, .int .i32 b] CO)) W → W.cell? ⟨w1.heap.size, 0, none⟩ = some (.int .i32 a) ∧ W.cell? ⟨w1.heap.size, 1, none⟩ = some (.int .i32 b)) := Lib.hid fun W hW => by
    have h := (hW.block w1.heap.size (by omega)).trans (World.alloc_heap_new w1 _)
    exact ⟨Lib.cell_of_heap h 0, Lib.cell_of_heap h 1⟩
  clear b1
  go_wp2_with fail
  have S0 : Hid (w1.heap.size + 1 = (w1.alloc (.cells #[.int .i32 a, .int .i32 b] CO)).heap.size) := Lib.hid (by simp)
  have B1' : Hid (Below w.heap.size w (w1.alloc (.cells #[.int .i32 a, .int .i32 b] CO))) := Lib.hid (B1.out.alloc Z1.out _)
  generalize w1.alloc (.cells #[.int .i32 a, .int .i32 b] CO) = w2 at C0 S0 B1' ⊢
  refine (H2.out _).mono ?_
  rintro e w3 ⟨rfl, b3⟩
  obtain ⟨c0, c1⟩ := C0.out w3 (by rw [S0.out]; exact b3)
  have B3 := Lib.hid (B1'.out.trans (b3.mono (by have := S0.out; have := Z1.out; omega)))
  have Z3 : w1.heap.size < w3.heap.size := by have := b3.size; have := S0.out; omega
  have Z4 : Hid (w.heap.size ≤ w3.heap.size) := Lib.hid (by have := Z1.out; omega)
  clear b3 C0 S0 B1'
  go_wp2_with fail
  refine (eqCo_same a b _).mono ?_
  rintro e w4 ⟨rfl, b4⟩
  have B4 := Lib.hid ((B3.out.alloc Z4.out _).trans (b4.mono (by have := Z4.out; simp; omega)))
  clear b4
  go_wp2
  go_ret
  exact ⟨rfl, B4.out⟩
end Go.Proofs.Ytfnaddpohkbbnaa
