/-
  CONTRACTS: how a law marks a slice of numbers, looks again, and holds two slices against each other.
-/
import Derived.Test.YtgjejolfkfpobaaSoi
import Derived.Test.YtgjejolfkfpobaaEq
import Derived.Test.YtgjejolfkfpobaaSrcO
import Derived.Test.YtgjejolfkfpobaaWorlds
import Derived.Laws.Cover2
namespace Go.Proofs.Ytgjejolfkfpobaa
open Go.ChangeShapes Go.WideShapes Go.ChangeAt Go.RowKit Go.Deep
open Fl
theorem FreeRow.below {w w' : World} {x len B : Nat} {L : List Nat} (h : FreeRow w x len L) (hb : Below B w w') (hx : x < B) : FreeRow w' x len L :=
  ⟨Nat.lt_of_lt_of_le h.1 hb.size, fun i hi => ⟨by rw [hb.cell (p := ⟨x, i, none⟩) hx]; exact (h.2 i hi).1, by rw [hb.frozen (p := ⟨x, i, none⟩) hx]; exact (h.2 i hi).2⟩⟩
theorem FreeRow.only {w w' : World} {x len p : Nat} {L : List Nat} (h : FreeRow w x len L) (hb : Only p w w') (hx : x ≠ p) : FreeRow w' x len L :=
  ⟨Nat.lt_of_lt_of_le h.1 hb.size, fun i hi => ⟨by rw [World.cell?_of_block (hb.block x h.1 (by intro e; exact hx (Option.some.inj e)))]; exact (h.2 i hi).1, by rw [World.frozen?_of_block (hb.block x h.1 (by intro e; exact hx (Option.some.inj e)))]; exact (h.2 i hi).2⟩⟩
theorem free_made {w w' : World} {bs : List Nat} {len : Nat} (h : Made w w' bs len) : FreeRow w' w.heap.size len bs := by
  refine ⟨by rw [h.size]; omega, fun i hi => ⟨h.cell i hi, ?_⟩⟩
  unfold Made at h
  subst h
  unfold World.frozen?
  rw [heap_alloc_new]
  simp
theorem FreeRow.num {w : World} {x len : Nat} {bs : List Nat} (h : FreeRow w x len bs) (hw : ∀ i, i < len → W32 (bs[i]?.getD 0)) : NumRow w x len bs := ⟨h.1, hw, fun i hi => (h.2 i hi).1⟩
/-- the marks that a law writes, from k on -/
def markL (k : Nat) (len : Nat) : List Nat := (List.range len).map fun i => floatOfInt .f32 (((k + i : Nat)) : Int)
theorem markL_at (k len i : Nat) (h : i < len) : (markL k len)[i]?.getD 0 = floatOfInt .f32 (((k + i : Nat)) : Int) := by simp [markL, h]
theorem mark_all : ((List.range 300).all fun n => decide (kd (floatOfInt .f32 ((n : Nat) : Int)) ≠ 4)) = true := by decide +kernel
theorem mark_num (n : Nat) (h : n < 300) : kd (floatOfInt .f32 ((n : Nat) : Int)) ≠ 4 := by
  have := List.all_eq_true.1 mark_all n (by simpa using h)
  simpa using this
/-- the first j cells have been marked -/
def MarkTo (w wr : World) (x len : Nat) (A : List Nat) (j : Nat) : Prop := Only x w wr ∧ x < wr.heap.size ∧ ∀ i, i < len → wr.cell? ⟨x, i, none⟩ = some (.float .f32 (if i < j then floatOfInt .f32 (((1 + i : Nat)) : Int) else A[i]?.getD 0)) ∧ wr.frozen? ⟨x, i, none⟩ = false
theorem MarkTo.step {w wr : World} {x len j : Nat} {A : List Nat} (h : MarkTo w wr x len A j) (hj : j < len) : MarkTo w (wr.setCell ⟨x, j, none⟩ (.float .f32 (floatOfInt .f32 (((1 + j : Nat)) : Int)))) x len A (j + 1) := by
  obtain ⟨h1, h2, h3⟩ := h
  refine ⟨h1.setCell _, by simpa using h2, fun i hi => ⟨?_, by simpa using (h3 i hi).2⟩⟩
  have hc := (h3 j hj).1
  by_cases hij : i = j
  · subst hij
    rw [if_pos (by omega)]
    exact World.cell?_setCell_same _ _ _ hc
  · have e := World.cell?_setCell_other wr ⟨x, j, none⟩ ⟨x, i, none⟩ (.float .f32 (floatOfInt .f32 (((1 + j : Nat)) : Int))) (by intro e; cases e; exact hij rfl)
    rw [e, (h3 i hi).1]
    congr 2
    by_cases hlt : i < j
    · rw [if_pos hlt, if_pos (by omega)]
    · rw [if_neg hlt, if_neg (by omega)]
theorem mark_any (x len cap : Nat) (A : List Nat) (w : World) (hl : len ≤ 256) (h : FreeRow w x len A) :
    Calls Try.prog 32 #[.slice (some ⟨x, 0, none⟩) len cap, .int .i64 1] w fun e w' => e = .returned (.int .i64 ((len : Int) + 1)) ∧ FreeRow w' x len (markL 1 len) ∧ Only x w w' := by
  have H0 : Hid (MarkTo w w x len A 0) := Lib.hid ⟨Only.refl _ _, h.1, fun i hi => by rw [if_neg (by omega)]; exact h.2 i hi⟩
  have hl' : (len : Int) ≤ 256 := by omega
  clear h
  go_enter Try.func32, Try.ntmps32
  go_wp2
  go_loopw [1, 5] (fun k i wr => ∃ j : Nat, j ≤ len ∧ i = .int .i64 j ∧ k = .int .i64 ((j : Int) + 1) ∧ MarkTo w wr x len A j) (fun _ i _ => len - (intOf i).toNat)
  case atStart => exact ⟨0, Nat.zero_le _, rfl, rfl, H0.out⟩
  case round =>
    obtain ⟨j, hj, rfl, rfl, hm⟩ := hrel
    have M := Lib.hid hm
    clear hm H0
    by_cases hlt : j < len
    · have t1 : decide ((j : Int) < (len : Int)) = true := by simp; omega
      have g1 := (M.out.2.2 j hlt).1
      have g2 := (M.out.2.2 j hlt).2
      have M2 := Lib.hid (M.out.step hlt)
      rw [show (((1 + j : Nat)) : Int) = (j : Int) + 1 from by omega] at M2
      clear M
      go_wp2
      go_roundw
      case rel => exact ⟨j + 1, by omega, by go_num, by go_num, M2.out⟩
      case measure => simp [intOf]; omega
    · obtain rfl : j = len := by omega
      have t1 : decide (j < j) = false := by simp
      have R : Hid (FreeRow wr x j (markL 1 j) ∧ Only x w wr) := Lib.hid ⟨⟨M.out.2.1, fun i hi => by
        obtain ⟨h1, h2⟩ := M.out.2.2 i hi
        rw [if_pos hi] at h1
        rw [markL_at _ _ _ hi]
        exact ⟨h1, h2⟩⟩, M.out.1⟩
      go_wp2
      go_ret
      exact ⟨rfl, R.out⟩
theorem mark_long (x len cap : Nat) (A : List Nat) (w : World) (hl : len ≤ 1048576) (h : FreeRow w x len A) :
    Calls Try.prog 32 #[.slice (some ⟨x, 0, none⟩) len cap, .int .i64 1] w fun e w' => e = .returned (.int .i64 ((len : Int) + 1)) ∧ Only x w w' := by
  have H0 : Hid (MarkTo w w x len A 0) := Lib.hid ⟨Only.refl _ _, h.1, fun i hi => by rw [if_neg (by omega)]; exact h.2 i hi⟩
  have hl' : (len : Int) ≤ 1048576 := by omega
  clear h
  go_enter Try.func32, Try.ntmps32
  go_wp2
  go_loopw [1, 5] (fun k i wr => ∃ j : Nat, j ≤ len ∧ i = .int .i64 j ∧ k = .int .i64 ((j : Int) + 1) ∧ MarkTo w wr x len A j) (fun _ i _ => len - (intOf i).toNat)
  case atStart => exact ⟨0, Nat.zero_le _, rfl, rfl, H0.out⟩
  case round =>
    obtain ⟨j, hj, rfl, rfl, hm⟩ := hrel
    have M := Lib.hid hm
    clear hm H0
    by_cases hlt : j < len
    · have t1 : decide ((j : Int) < (len : Int)) = true := by simp; omega
      have g1 := (M.out.2.2 j hlt).1
      have g2 := (M.out.2.2 j hlt).2
      have M2 := Lib.hid (M.out.step hlt)
      rw [show (((1 + j : Nat)) : Int) = (j : Int) + 1 from by omega] at M2
      clear M
      go_wp2
      go_roundw
      case rel => exact ⟨j + 1, by omega, by go_num, by go_num, M2.out⟩
      case measure => simp [intOf]; omega
    · obtain rfl : j = len := by omega
      have t1 : decide (j < j) = false := by simp
      have R : Hid (Only x w wr) := Lib.hid M.out.1
      go_wp2
      go_ret
      exact ⟨rfl, R.out⟩
theorem held_any (x len cap : Nat) (w : World) (hl : len ≤ 256) (h : FreeRow w x len (markL 1 len)) :
    Calls Try.prog 33 #[.slice (some ⟨x, 0, none⟩) len cap, .int .i64 1] w fun e w' => e = .returned (.int .i64 ((len : Int) + 1)) ∧ DrewSame w w' := by
  have H := Lib.hid h
  have hl' : (len : Int) ≤ 256 := by omega
  clear h
  go_enter Try.func33, Try.ntmps33
  go_wp2
  go_loopw [1, 5] (fun k i wr => ∃ j : Nat, j ≤ len ∧ i = .int .i64 j ∧ k = .int .i64 ((j : Int) + 1) ∧ DrewSame w wr) (fun _ i _ => len - (intOf i).toNat)
  case atStart => exact ⟨0, Nat.zero_le _, rfl, rfl, DrewSame.refl _⟩
  case round =>
    obtain ⟨j, hj, rfl, rfl, hd⟩ := hrel
    have D := Lib.hid hd
    clear hd
    by_cases hlt : j < len
    · have t1 : decide ((j : Int) < (len : Int)) = true := by simp; omega
      have g1 : wr.cell? ⟨x, j, none⟩ = some (.float .f32 (floatOfInt .f32 ((j : Int) + 1))) := by
        have h1 := ((H.out.below (D.out.below (B := w.heap.size)) H.out.1).2 j hlt).1
        rw [markL_at _ _ _ hlt, show (((1 + j : Nat)) : Int) = (j : Int) + 1 from by omega] at h1
        exact h1
      have g2 : (FloatKind.f32.format.order (floatOfInt .f32 ((j : Int) + 1)) (floatOfInt .f32 ((j : Int) + 1)) != some .eq) = false := by
        rw [neq_self]
        have h1 := mark_num (1 + j) (by omega)
        rw [show (((1 + j : Nat)) : Int) = (j : Int) + 1 from by omega] at h1
        simpa using h1
      go_wp2
      go_roundw
      case rel => exact ⟨j + 1, by omega, by go_num, by go_num, D.out⟩
      case measure => simp [intOf]; omega
    · obtain rfl : j = len := by omega
      have t1 : decide (j < j) = false := by simp
      go_wp2
      go_ret
      exact ⟨rfl, D.out⟩
end Go.Proofs.Ytgjejolfkfpobaa
