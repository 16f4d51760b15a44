import Derived.Test.YtanepboepeijoaaEqMap
namespace Go.Proofs.Ytanepboepeijoaa
open Go.ChangeShapes Go.WideShapes Go.ChangeAt Go.RowKit
open Fl
theorem specFlipMap_any (w : World) : Calls Try.prog 11 #[] w fun e w' => e = .returned (.agg #[.complex .f32 0 0, .complex .f32 1065353216 0, .complex .f32 1065353216 0, .complex .f32 0 0]) ∧ Below w.heap.size w w' := by
  go_enter Try.func11, Try.ntmps11
  go_wp2
  exact bodyPost_ret (v := .agg #[.complex .f32 0 0, .complex .f32 1065353216 0, .complex .f32 1065353216 0, .complex .f32 0 0]) (by simp [results, Try.results11, go_sem]) rfl ⟨rfl, by repeat (first | exact Below.refl _ _ | refine Below.alloc ?_ (by simp) _ | refine Below.setCell ?_ (by simp) _)⟩
theorem implFlipMap_any (w : World) : Calls Try.prog 12 #[] w fun e w' => e = .returned (.agg #[.complex .f32 0 0, .complex .f32 1065353216 0, .complex .f32 1065353216 0, .complex .f32 0 0]) ∧ Below w.heap.size w w' := by
  go_enter Try.func12, Try.ntmps12
  go_wp2
  exact bodyPost_ret (v := .agg #[.complex .f32 0 0, .complex .f32 1065353216 0, .complex .f32 1065353216 0, .complex .f32 0 0]) (by simp [results, Try.results12, go_sem]) rfl ⟨rfl, by repeat (first | exact Below.refl _ _ | refine Below.alloc ?_ (by simp) _ | refine Below.setCell ?_ (by simp) _)⟩
set_option maxRecDepth 8000 in
theorem fnExactFlipMap_walk (w : World) :
    Calls Try.prog 4 #[] w fun e w' => e = .returned (.bool true) ∧ Below w.heap.size w w' := by
  go_enter Try.func4, Try.ntmps4
  go_wp2_with fail
  refine (specFlipMap_any _).mono ?_
  rintro e w1 ⟨rfl, b1⟩
  have B1 := Lib.hid b1
  clear b1
  go_wp2_with fail
  refine (implFlipMap_any _).mono ?_
  rintro e w2 ⟨rfl, b2⟩
  have B2 := Lib.hid ((B1.out.alloc B1.out.size _).trans (b2.mono (by have := B1.out.size; simp; omega)))
  have c0 : w2.cell? ⟨w1.heap.size, 0, none⟩ = some (.complex .f32 0 0) := by rw [b2.cell (p := ⟨w1.heap.size, 0, none⟩) (by simp)]; simp
  have c1 : w2.cell? ⟨w1.heap.size, 1, none⟩ = some (.complex .f32 1065353216 0) := by rw [b2.cell (p := ⟨w1.heap.size, 1, none⟩) (by simp)]; simp
  have c2 : w2.cell? ⟨w1.heap.size, 2, none⟩ = some (.complex .f32 1065353216 0) := by rw [b2.cell (p := ⟨w1.heap.size, 2, none⟩) (by simp)]; simp
  have c3 : w2.cell? ⟨w1.heap.size, 3, none⟩ = some (.complex .f32 0 0) := by rw [b2.cell (p := ⟨w1.heap.size, 3, none⟩) (by simp)]; simp
  have hz : w1.heap.size < w2.heap.size := by have := b2.size; simp at this; omega
  clear b2 B1
  go_wp2_with fail
  refine (eqMap_refl _ _ _ _ _ _ _ _ _).mono ?_
  rintro e w3 ⟨rfl, b3⟩
  have B3 := Lib.hid ((B2.out.alloc B2.out.size _).trans (b3.mono (by have := B2.out.size; simp; omega)))
  clear b3 B2 c0 c1 c2 c3 hz
  go_wp2
  go_ret
  exact ⟨rfl, B3.out⟩
end Go.Proofs.Ytanepboepeijoaa
