/-
  CONTRACTS: SeekPoint by the program.
-/
import Derived.Test.YtkijgadkgfapgaaYza
import Derived.Lib.SliceRun
namespace Go.Proofs.Ytkijgadkgfapgaa
open Go.ChangeShapes Go.WideShapes Go.ChangeAt Go.RowKit
/-- the frames in which the k-th point is, its bytes -/
def skF (k : Nat) : Nat := 1 + 8 * k / 12
def skL (k : Nat) : Nat := 1 + (8 * k + 7) / 12
def skB (f : Nat → Int) (k : Nat) : Nat → Int := fun j => f (16 * (1 + (8 * k + j) / 12) + (8 * k + j) % 12)
def skS (f : Nat → Int) (k : Nat) : Bool := okAt f 0 (skF k) && okAt f 0 (skL k)
def skQ (k : Nat) : Nat → Int := fun j => if j = 0 then (skF k : Int) else (skL k : Int)
def skN (k : Nat) : Nat := if skF k = skL k then 1 else 2
def skI (f : Nat → Int) (n k : Nat) : Int := if n ≤ skL k then 5 else if skS f k then (if okB (skB f k) then 0 else 5) else 8
def skC (f : Nat → Int) (n : Nat) (k : Int) : Int := if ckC f n = 0 then (if 0 ≤ k ∧ k < (upN f : Int) then skI f n k.toNat else 2) else ckC f n
def skX (f : Nat → Int) (n : Nat) (k : Int) : Value := if skC f n k = 0 then .complex .f32 (reB (skB f k.toNat)) (imB (skB f k.toNat)) else .complex .f32 0 0
def skM (f : Nat → Int) (n : Nat) (k : Int) : Nat := if skC f n k = 0 then skN k.toNat else 0
def SkPost (f : Nat → Int) (n : Nat) (k : Int) (w : World) : Ending → World → Prop := fun e w' => ∃ v, e = .returned (.tuple #[skX f n k, v, .int .i64 (skC f n k)]) ∧ PR 1 w.heap.size w'.heap.size w' v (skM f n k) (FL (skQ k.toNat)) ∧ Below w.heap.size w w'
theorem SkPost.bad {f : Nat → Int} {n : Nat} {k : Int} {w w' : World} {a : Option Addr} {c : Nat} {C : Int} (h : skC f n k = C) (h0 : C ≠ 0) (hb : Below w.heap.size w w') : SkPost f n k w (.returned (.tuple #[.complex .f32 0 0, .slice a 0 c, .int .i64 C])) w' := by
  refine ⟨.slice a 0 c, ?_, ?_, hb⟩
  · unfold skX; rw [h, if_neg h0]
  · unfold skM; rw [h, if_neg h0]; exact ⟨a, c, rfl, .inl rfl⟩
theorem SkPost.good {f : Nat → Int} {n : Nat} {k : Int} {w w' : World} {v : Value} (h : skC f n k = 0) (hp : PR 1 w.heap.size w'.heap.size w' v (skN k.toNat) (FL (skQ k.toNat))) (hb : Below w.heap.size w w') : SkPost f n k w (.returned (.tuple #[.complex .f32 (reB (skB f k.toNat)) (imB (skB f k.toNat)), v, .int .i64 0])) w' := by
  refine ⟨v, ?_, ?_, hb⟩
  · unfold skX; rw [h, if_pos rfl]
  · unfold skM; rw [h, if_pos rfl]; exact hp
set_option maxRecDepth 20000 in
set_option maxHeartbeats 4000000 in
/-- slices.Compact of two numbers -/
theorem compact_any (x y : Nat) (g : Nat) (w w0 : World) (hg : w.heap[g]? = some (.cells #[.int .i64 (x : Int), .int .i64 (y : Int)] 2 (0, 0))) (h0 : w0.heap.size ≤ g) (hb : Below w0.heap.size w0 w) :
    Calls Try.prog 74 #[.slice (some ⟨g, 0, none⟩) 2 2] w fun e w' => ∃ v, e = .returned v ∧ PR 1 w0.heap.size w'.heap.size w' v (if x = y then 1 else 2) (FL fun j => if j = 0 then (x : Int) else (y : Int)) ∧ Below w0.heap.size w0 w' := by
  have G := Lib.hid hg
  have GL : Hid (g < w.heap.size) := Lib.hid (Array.getElem?_eq_some_iff.1 hg).1
  have HB := Lib.hid hb
  have H0 := Lib.hid h0
  have c0 : ∀ n, (w.drewN n).cell? ⟨g, 0, none⟩ = some (.int .i64 (x : Int)) := fun n => Lib.cell_of_heap (w := w.drewN n) hg 0
  have c1 : ∀ n, (w.drewN n).cell? ⟨g, 1, none⟩ = some (.int .i64 (y : Int)) := fun n => Lib.cell_of_heap (w := w.drewN n) hg 1
  have d0 : w.cell? ⟨g, 0, none⟩ = some (.int .i64 (x : Int)) := Lib.cell_of_heap hg 0
  have d1 : w.cell? ⟨g, 1, none⟩ = some (.int .i64 (y : Int)) := Lib.cell_of_heap hg 1
  have f1 : w.frozen? ⟨g, 1, none⟩ = false := Lib.frozen_of_heap hg 1
  clear hg hb h0
  by_cases e : x = y
  · subst e
    rw [if_pos rfl]
    have hcl : ∀ (ty : TypeId) (m : Nat), (Builtin.clear_ #[56] ty #[.slice (some ⟨g, 1, none⟩) 1 1]).run Try.prog (w.drewN m) = .ok (.tuple #[]) ((w.drewN m).setCells g 1 [.int .i64 0]) := fun ty m =>
      Lib.run_clear_slice (P := Try.prog) (w.drewN m) 56 2 ty (.int .i64 0) Try.underlying56 (fun w => by kernel_rfl) rfl rfl g 1 1 1 (by decide) (fun j hj => by obtain rfl : j = 0 := (by omega); rw [show ((w.drewN m).cell? ⟨g, 1 + 0, none⟩) = some (.int .i64 (x : Int)) from c1 m]; rfl) (fun j hj => by obtain rfl : j = 0 := (by omega); exact f1)
    have gl := GL.out
    go_enter Try.func74, Try.ntmps74
    go_wp2
    refine wp_loop_rounds 1 ?_
    rw [rounds_succ]
    go_wp2
    go_quiet (fail)
    go_wp2
    refine wp_loop_rounds 1 ?_
    rw [rounds_succ]
    go_wp2
    go_ret
    have RG : ∀ m, ((w.drewN m).setCell ⟨g, 1, none⟩ (.int .i64 0)).heap[g]? = some (.cells #[.int .i64 (x : Int), .int .i64 0] 2 (0, 0)) := fun m => fset_at (w := w.drewN m) (show (w.drewN m).heap[g]? = _ from G.out) 1 _
    have BG : ∀ m B, B ≤ g → Below B w ((w.drewN m).setCell ⟨g, 1, none⟩ (.int .i64 0)) := fun m B hB => Below.setCell (p := ⟨g, 1, none⟩) (⟨rfl, rfl, rfl, Nat.le_refl _, fun _ _ => rfl⟩ : Below B w (w.drewN m)) hB _
    refine ⟨_, rfl, ⟨_, _, rfl, .inr ⟨g, rfl, H0.out, Nat.lt_of_lt_of_le GL.out (BG nq g (Nat.le_refl _)).size, Nat.le_refl _, ?_, ?_⟩⟩, HB.out.trans (BG nq _ H0.out)⟩
    · intro j hj
      obtain rfl : j = 0 := by omega
      exact Lib.cell_of_heap (RG nq) 0
    · intro j _
      exact Lib.frozen_of_heap (RG nq) j
  · rw [if_neg e]
    have xy : ((y : Int) == (x : Int)) = false := by simp; omega
    go_enter Try.func74, Try.ntmps74
    go_wp2
    refine wp_loop_rounds 2 ?_
    rw [rounds_succ]
    go_wp2
    go_quiet (fail)
    go_wp2
    rw [rounds_succ]
    go_wp2
    go_ret
    refine ⟨_, rfl, ⟨_, _, rfl, .inr ⟨g, rfl, H0.out, GL.out, Nat.le_refl _, ?_, ?_⟩⟩, HB.out.trans ⟨rfl, rfl, rfl, Nat.le_refl _, fun _ _ => rfl⟩⟩
    · intro j hj
      have : j < 2 := by omega
      match j, this with
      | 0, _ => exact d0
      | 1, _ => exact d1
    · intro j _
      exact Lib.frozen_of_heap G.out j
end Go.Proofs.Ytkijgadkgfapgaa
