import Derived.Test.YtaodckhfmdiifaaKey2
import Derived.WalkSpells
namespace Go.Proofs.Ytaodckhfmdiifaa
open Go.ChangeShapes Go.WideShapes Go.ChangeAt Go.RowKit
open Fl
theorem can_W {a : Nat} (h : W32 a) : W32 (can a) := by unfold can W32 at *; split <;> omega
theorem getI_arr (k : IntKind) (r m : Nat) : ∀ j, j < 8 → ([] ++ wordL r ++ wordL m)[j]? = some (.int .u8 (keyF r m j)) := by
  intro j hj
  match j, hj with
  | 0, _ => rfl
  | 1, _ => rfl
  | 2, _ => rfl
  | 3, _ => rfl
  | 4, _ => rfl
  | 5, _ => rfl
  | 6, _ => rfl
  | 7, _ => rfl
set_option maxRecDepth 8000 in
theorem implKey_any (a b : Nat) (ha : W32 a) (hb : W32 b) (w : World) :
    Calls Try.prog 28 #[.complex .f32 a b] w fun e w' => e = .returned (.agg (arr .u8 8 (keyF (can a) (can b)))) ∧ Below w.heap.size w w' := by
  have hca := can_W ha
  have hcb := can_W hb
  go_enter Try.func28, Try.ntmps28
  go_wp2_with fail
  refine (keyBits_any _ ha _).mono ?_; rintro e w' ⟨rfl, rfl⟩
  go_wp2_with fail
  refine (appendWord_any _ 0 [] (w.heap.size + 1) (can a) hca _ (by omega) (by simp) (World.ownsRow_nil _ _ _ _)).mono ?_
  rintro e w1 ⟨v1, rfl, h1, b1⟩
  have H1 := Lib.hid h1
  have B1 := Lib.hid b1
  clear h1 b1
  go_wp2_with fail
  refine (keyBits_any _ hb _).mono ?_; rintro e w' ⟨rfl, rfl⟩
  go_wp2_with fail
  refine (appendWord_any _ 4 ([] ++ wordL (can a)) (w.heap.size + 1) (can b) hcb _ (by omega) (by have := B1.out.size; simp at this; omega) H1.out).mono ?_
  rintro e w2 ⟨v2, rfl, h2, b2⟩
  obtain ⟨g, cap, rfl, hg, hcell⟩ := own_bytes h2 (by omega)
  have hcl : ∀ j, j < 8 → w2.cell? ⟨g, j, none⟩ = some (.int .u8 (keyF (can a) (can b) j)) := fun j hj => by rw [hcell j hj]; exact getI_arr .u8 _ _ j hj
  have c0 := hcl 0 (by omega)
  have c1 := hcl 1 (by omega)
  have c2 := hcl 2 (by omega)
  have c3 := hcl 3 (by omega)
  have c4 := hcl 4 (by omega)
  have c5 := hcl 5 (by omega)
  have c6 := hcl 6 (by omega)
  have c7 := hcl 7 (by omega)
  have hat := fun w => run_arrayAt (P := Try.prog) 26 _ 8 (some ⟨g, 0, none⟩) 8 cap Try.underlying26 (by omega) w
  have HB := Lib.hid (B1.out.trans b2)
  have HG := Lib.hid ((HB.out.block w.heap.size (by omega)).trans (heap_alloc_new w _))
  clear h2 b2 hcell hcl H1
  go_wp2_with (refine wpList_store_row rfl 26 _ _ rfl w.heap.size (arr .u8 8 (keyF (can a) (can b))) rfl rfl 26 _ HG.out (info_key _) (by rw [arr_size]; rfl) (arr_cells _ _ _) ?_)
  refine bodyPost_ret (v := .agg (arr .u8 8 (keyF (can a) (can b)))) (results_cell_row Try.results28 _ _ w.heap.size _ _ _ _ rfl (setRow_heap _ _ _ _ _ _ HG.out) Try.underlying26 rfl (info_key _)) rfl ⟨rfl, ?_⟩
  refine below_setRow ?_ (Nat.le_refl _) _
  exact ((Below.refl _ _).alloc (Nat.le_refl _) _).trans (HB.out.mono (by omega))
end Go.Proofs.Ytaodckhfmdiifaa
