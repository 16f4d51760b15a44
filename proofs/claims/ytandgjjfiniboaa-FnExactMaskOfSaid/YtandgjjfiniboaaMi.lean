/-
  CONTRACTS: HasCell, SetCell, JoinMasks, MeetMasks, MinusMasks on both sides.
-/
import Derived.Test.YtandgjjfiniboaaMl
namespace Go.Proofs.Ytandgjjfiniboaa
open Go.ChangeShapes Go.WideShapes Go.ChangeAt Go.RowKit
theorem l00In_any (n l h : Int) (w : World) :
    Calls Try.prog 59 #[.int .i64 n, .int .i64 l, .int .i64 h] w fun e w' => e = .returned (.bool (decide (l ≤ n) && decide (n ≤ h))) ∧ w = w' := by
  cases t1 : decide (l ≤ n) <;> cases t2 : decide (n ≤ h)
  all_goals
    go_enter Try.func59, Try.ntmps59
    go_wp2
    go_ret
    exact ⟨rfl, rfl⟩
theorem l07In_any (x y : Int) (w : World) :
    Calls Try.prog 46 #[.int .i64 x, .int .i64 y] w fun e w' => e = .returned (.bool (inB x y)) ∧ w = w' := by
  have T : inB x y = ((decide (0 ≤ x) && decide (x ≤ 15)) && (decide (0 ≤ y) && decide (y ≤ 15))) := by
    unfold inB; rw [Bool.eq_iff_iff]; simp; omega
  have A := Lib.hid (l00In_any x 0 15)
  have B := Lib.hid (l00In_any y 0 15)
  generalize (decide (0 ≤ x) && decide (x ≤ 15)) = a at T A
  generalize (decide (0 ≤ y) && decide (y ≤ 15)) = b at T B
  have HT := Lib.hid T
  clear T
  cases a
  all_goals
    go_enter Try.func46, Try.ntmps46
    go_wp2_with (first | ((with_reducible refine (A.out _).mono ?_); rintro e w' ⟨rfl, rfl⟩) | ((with_reducible refine (B.out _).mono ?_); rintro e w' ⟨rfl, rfl⟩))
    go_ret
    exact ⟨mret_bool (by rw [HT.out]; simp), rfl⟩
/-- l07Has at a mask that lies in a block -/
theorem l07Has_any (g : Nat) (f : Nat → Int) (hf : MB f) (x y : Nat) (hx : x < 16) (hy : y < 16) (w : World) (hc : w.cell? ⟨g, y, none⟩ = some (.int .u16 (f y))) :
    Calls Try.prog 51 #[.pointer (some ⟨g, 0, none⟩), .int .i64 (x : Int), .int .i64 (y : Int)] w fun e w' => e = .returned (.bool (hasF f x y)) ∧ w = w' := by
  have hv := hf y hy
  have HS : Hid (bits .and .u16 (f y / 2 ^ x) 1 = if (f y).toNat.testBit x then 1 else 0) := Lib.hid (shr_bit hv x)
  obtain ⟨v0, v1⟩ := hv
  have hx' : (x : Int) ≤ 16 := by omega
  have hy' : (y : Int) < 16 := by omega
  clear hf
  unfold hasF
  generalize f y = v at hc v0 v1 HS ⊢
  go_enter Try.func51, Try.ntmps51
  go_wp2
  go_ret
  exact ⟨mret_bool (by rw [HS.out]; cases v.toNat.testBit x <;> rfl), rfl⟩
/-- what HasCell answers -/
def HcPost (f : Nat → Int) (x y : Int) (w : World) (e : Ending) (w' : World) : Prop := e = .returned (.tuple #[.bool (if inB x y then hasF f x.toNat y.toNat else false), .int .i64 (if inB x y then 0 else 2)]) ∧ Below w.heap.size w w'
theorem shasCell_any (f : Nat → Int) (hf : MB f) (x y : Int) (w : World) : Calls Try.prog 26 #[.agg (M16 f), .int .i64 x, .int .i64 y] w (HcPost f x y w) := by
  unfold HcPost
  have L := Lib.hid (l07In_any x y)
  have A0 : Hid (Below w.heap.size w (w.alloc (.cells (M16 f) 26))) := Lib.hid ((Below.refl _ w).alloc (Nat.le_refl _) _)
  have C0 : Hid (∀ y, y < 16 → (w.alloc (.cells (M16 f) 26)).cell? ⟨w.heap.size, y, none⟩ = some (.int .u16 (f y))) := Lib.hid fun y hy => (Lib.cell_of_heap (World.alloc_heap_new w _) y).trans (arr_get _ _ _ _ hy)
  cases hb : inB x y
  · rw [hb] at L
    go_enter Try.func26, Try.ntmps26
    go_wp2_with ((with_reducible refine (L.out _).mono ?_); rintro e w' ⟨rfl, rfl⟩)
    go_ret2
    exact ⟨rfl, A0.out⟩
  · obtain ⟨a, b, rfl, rfl, ha, hb'⟩ := inB_nat hb
    rw [hb] at L
    have H := Lib.hid (l07Has_any w.heap.size f hf a b ha hb' _ (C0.out b hb'))
    simp only [if_true, Int.toNat_natCast]
    clear hf ha hb'
    go_enter Try.func26, Try.ntmps26
    go_wp2_with (first | ((with_reducible refine (L.out _).mono ?_); rintro e w' ⟨rfl, rfl⟩) | ((with_reducible refine H.out.mono ?_); rintro e w' ⟨rfl, rfl⟩))
    go_ret2
    exact ⟨rfl, A0.out⟩
theorem ihasCell_any (f : Nat → Int) (hf : MB f) (x y : Int) (w : World) : Calls Try.prog 27 #[.agg (M16 f), .int .i64 x, .int .i64 y] w (HcPost f x y w) := by
  unfold HcPost
  have L := Lib.hid (isIn_any x y)
  have A0 : Hid (Below w.heap.size w (w.alloc (.cells (M16 f) 26))) := Lib.hid ((Below.refl _ w).alloc (Nat.le_refl _) _)
  have C0 : Hid ((w.alloc (.cells (M16 f) 26)).heap[w.heap.size]? = some (.cells (M16 f) 26 (0, 0))) := Lib.hid (World.alloc_heap_new w _)
  cases hb : inB x y
  · rw [hb] at L
    go_enter Try.func27, Try.ntmps27
    go_wp2_with ((with_reducible refine (L.out _).mono ?_); rintro e w' ⟨rfl, rfl⟩)
    go_ret2
    exact ⟨rfl, A0.out⟩
  · obtain ⟨a, b, rfl, rfl, ha, hb'⟩ := inB_nat hb
    rw [hb] at L
    have H := Lib.hid (fun w => mhas_any f hf a b ha hb' w)
    simp only [if_true, Int.toNat_natCast]
    clear hf ha hb'
    go_enter Try.func27, Try.ntmps27
    go_wp2_with (first | ((with_reducible refine (L.out _).mono ?_); rintro e w' ⟨rfl, rfl⟩) | ((with_reducible refine (H.out _).mono ?_); rintro e w' ⟨rfl, rfl⟩) | (refine wpList_load_row rfl 26 _ rfl w.heap.size rfl 26 _ _ _ C0.out Try.underlying26 rfl (mask_info _ (arr_size _ _ _)) ?_))
    go_ret2
    exact ⟨rfl, A0.out.alloc (by simp) _⟩
end Go.Proofs.Ytandgjjfiniboaa
