/-
  HOW THE LAWS LOOK AT SLICES OF CELLS: held equal, marked, held against their marks.
-/
import Derived.Test.YtaodckhfmdiifaaCell
namespace Go.Proofs.Ytaodckhfmdiifaa
open Go.ChangeShapes Go.WideShapes Go.ChangeAt Go.RowKit
theorem toCell_any (a b : Int) (w : World) :
    Calls Try.prog 12 #[.agg #[.int .i32 a, .int .i32 b]] w fun e w' => e = .returned (.agg #[.int .i32 a, .int .i32 b]) ∧ Below w.heap.size w w' := by
  go_enter Try.func12, Try.ntmps12
  go_wp2
  refine wp_loop_rounds 3 ?_
  iterate 3
    rw [rounds_succ]
    go_wp2
  refine bodyPost_ret (v := .agg #[.int .i32 a, .int .i32 b]) (by simp [results, Try.results12, go_sem]) rfl ⟨rfl, ?_⟩
  exact (((Below.refl _ _).alloc (Nat.le_refl _) _).alloc (by simp) _).alloc (by simp; omega) _
theorem eqCell_same (a b : Int) (w : World) :
    Calls Try.prog 32 #[.agg #[.int .i32 a, .int .i32 b], .agg #[.int .i32 a, .int .i32 b]] w fun e w' => e = .returned (.bool true) ∧ Below w.heap.size w w' := by
  go_enter Try.func32, Try.ntmps32
  go_wp2
  refine wp_loop_rounds 3 ?_
  rw [rounds_succ]
  go_wp2
  go_quiet (fail)
  go_wp2
  rw [rounds_succ]
  go_wp2
  go_quiet (fail)
  go_wp2
  rw [rounds_succ]
  go_wp2
  go_ret
  exact ⟨rfl, by repeat (first | exact Below.refl _ _ | apply belowN | refine Below.alloc ?_ (by first | exact Nat.le_refl _ | (simp; done) | (simp; omega)) _)⟩
set_option maxHeartbeats 1000000 in
theorem eqCellS_any (x y n c1 c2 : Nat) (f : Nat → Int) (w : World) (hn : n ≤ 1000000)
    (hx : ∀ j, j < 2 * n → w.cell? ⟨x, j, none⟩ = some (.int .i32 (f j))) (hy : ∀ j, j < 2 * n → w.cell? ⟨y, j, none⟩ = some (.int .i32 (f j))) :
    Calls Try.prog 14 #[.slice (some ⟨x, 0, none⟩) n c1, .slice (some ⟨y, 0, none⟩) n c2] w fun e w' => e = .returned (.bool true) ∧ Below w.heap.size w w' := by
  have HX := Lib.hid hx
  have HY := Lib.hid hy
  clear hx hy
  have hn' : (n : Int) ≤ 1000000 := by omega
  go_enter Try.func14, Try.ntmps14
  go_wp2
  go_loopw [5] (fun i wr => ∃ k : Nat, k ≤ n ∧ i = .int .i64 k ∧ Below w.heap.size w wr) (fun i _ => n - (intOf i).toNat)
  case atStart => exact ⟨0, Nat.zero_le _, rfl, Below.refl _ _⟩
  case round =>
    obtain ⟨k, hk, rfl, hb⟩ := hrel
    by_cases hlt : k < n
    · have hxl := World.block_lt_of_cell? _ _ (HX.out (2 * k) (by omega))
      have hyl := World.block_lt_of_cell? _ _ (HY.out (2 * k) (by omega))
      have hS : ∀ W, Below w.heap.size w W → Below w.heap.size w W ∧ W.cell? ⟨x, k * 2, none⟩ = some (.int .i32 (f (2 * k))) ∧ W.cell? ⟨x, k * 2 + 1, none⟩ = some (.int .i32 (f (2 * k + 1))) ∧ W.cell? ⟨y, k * 2, none⟩ = some (.int .i32 (f (2 * k))) ∧ W.cell? ⟨y, k * 2 + 1, none⟩ = some (.int .i32 (f (2 * k + 1))) := fun W hW => by
        refine ⟨hW, ?_, ?_, ?_, ?_⟩
        · rw [hW.cell (p := ⟨x, k * 2, none⟩) hxl, Nat.mul_comm]; exact HX.out _ (by omega)
        · rw [hW.cell (p := ⟨x, k * 2 + 1, none⟩) hxl, Nat.mul_comm]; exact HX.out _ (by omega)
        · rw [hW.cell (p := ⟨y, k * 2, none⟩) hyl, Nat.mul_comm]; exact HY.out _ (by omega)
        · rw [hW.cell (p := ⟨y, k * 2 + 1, none⟩) hyl, Nat.mul_comm]; exact HY.out _ (by omega)
      have HS := Lib.hid hS
      have HB := Lib.hid hb
      clear hS hb hxl hyl
      go_wp2
      go_region_held3 (fun w' => Below w.heap.size w w' ∧ w'.cell? ⟨x, k * 2, none⟩ = some (.int .i32 (f (2 * k))) ∧ w'.cell? ⟨x, k * 2 + 1, none⟩ = some (.int .i32 (f (2 * k + 1))) ∧ w'.cell? ⟨y, k * 2, none⟩ = some (.int .i32 (f (2 * k))) ∧ w'.cell? ⟨y, k * 2 + 1, none⟩ = some (.int .i32 (f (2 * k + 1))))
        (first | exact HS.out _ HB.out.drew | exact HS.out _ (HB.out.drew.trans (Below.mono (by assumption) HB.out.size)))
        (first | (go_at_call 32; refine (eqCell_same _ _ _).mono ?_; rintro e w' ⟨rfl, hb⟩))
      rename_i hH
      have HB' := Lib.hid hH.1
      clear hH hb HB
      go_wp2
      go_roundw
      case rel => exact ⟨k + 1, by omega, by go_num, HB'.out⟩
      case measure => simp [intOf]; omega
    · obtain rfl : k = n := by omega
      have HB := Lib.hid hb
      clear hb
      go_wp2
      go_ret
      exact ⟨rfl, HB.out⟩
/-- nothing but one block has turned -/
def Onl (g : Nat) (w w' : World) : Prop := w'.os = w.os ∧ w'.tape = w.tape ∧ w'.output = w.output ∧ w'.heap.size = w.heap.size ∧ ∀ k, k ≠ g → w'.heap[k]? = w.heap[k]?
theorem Onl.refl (g : Nat) (w : World) : Onl g w w := ⟨rfl, rfl, rfl, rfl, fun _ _ => rfl⟩
theorem Onl.put {g i : Nat} {w w' : World} {v : Value} (h : Onl g w w') : Onl g w (w'.setCell ⟨g, i, none⟩ v) :=
  ⟨h.1, h.2.1, h.2.2.1, by simp [h.2.2.2.1], fun k hk => by rw [← h.2.2.2.2 k hk]; exact Below.heap_setCell _ _ _ k hk⟩
theorem Onl.below {g B : Nat} {w w' : World} (h : Onl g w w') (hB : B ≤ g) : Below B w w' := ⟨h.1, h.2.1, h.2.2.1, by rw [h.2.2.2.1]; exact Nat.le_refl _, fun k hk => h.2.2.2.2 k (by omega)⟩
/-- the first m of N numbers of a block are marks; all N can be written -/
def Mk (g N m : Nat) (w : World) : Prop := (∀ j, j < m → w.cell? ⟨g, j, none⟩ = some (.int .i32 ((1 + j : Nat) : Int))) ∧ ∀ j, j < N → (∃ x, w.cell? ⟨g, j, none⟩ = some (.int .i32 x)) ∧ w.frozen? ⟨g, j, none⟩ = false
theorem cell_set {w : World} {g i j : Nat} {v u : Value} (h : w.cell? ⟨g, j, none⟩ = some u) : (w.setCell ⟨g, i, none⟩ v).cell? ⟨g, j, none⟩ = some (if i = j then v else u) := by
  unfold World.cell? at h ⊢
  simp only [World.setCell, Array.getElem?_modify, ↓reduceIte]
  cases hh : w.heap[g]? with
  | none => simp [hh] at h
  | some o =>
    rw [hh] at h
    cases o with
    | cells c t fr =>
      simp only [Option.map_some] at h ⊢
      have hlt : j < c.size := by
        simp at h
        exact (Array.getElem?_eq_some_iff.1 h).1
      by_cases hij : i = j
      · subst hij; simp [Array.getElem?_setIfInBounds, hlt]
      · simp at h; simp [Array.getElem?_setIfInBounds, hij, h]
    | _ => simp at h
theorem Mk.put {g N m : Nat} {w : World} (h : Mk g N m w) (hm : m < N) : Mk g N (m + 1) (w.setCell ⟨g, m, none⟩ (.int .i32 ((1 + m : Nat) : Int))) := by
  refine ⟨fun j hj => ?_, fun j hj => ⟨?_, ?_⟩⟩
  · obtain ⟨x, hx⟩ := (h.2 j (by omega)).1
    rw [cell_set hx]
    by_cases e : m = j
    · subst e; simp
    · rw [if_neg e, ← hx]; exact h.1 j (by omega)
  · obtain ⟨x, hx⟩ := (h.2 j hj).1
    rw [cell_set hx]
    by_cases e : m = j
    · exact ⟨_, by rw [if_pos e]⟩
    · exact ⟨x, by rw [if_neg e]⟩
  · rw [World.frozen?_setCell]; exact (h.2 j hj).2
set_option maxHeartbeats 1000000 in
theorem markCellS_any (g cap n : Nat) (hn : n ≤ 1000000) (w : World) (ho : Mk g (2 * n) 0 w) :
    Calls Try.prog 15 #[.slice (some ⟨g, 0, none⟩) n cap, .int .i64 1] w fun e w' => e = .returned (.int .i64 ((1 + 2 * n : Nat) : Int)) ∧ Mk g (2 * n) (2 * n) w' ∧ Onl g w w' := by
  have HO := Lib.hid ho
  have hn' : (n : Int) ≤ 1000000 := by omega
  clear ho
  go_enter Try.func15, Try.ntmps15
  go_wp2
  go_loopw [1, 5] (fun q i wr => ∃ k : Nat, k ≤ n ∧ i = .int .i64 k ∧ q = .int .i64 ((1 + 2 * k : Nat) : Int) ∧ Mk g (2 * n) (2 * k) wr ∧ Onl g w wr) (fun _ i _ => n - (intOf i).toNat)
  case atStart => exact ⟨0, Nat.zero_le _, rfl, rfl, HO.out, Onl.refl _ _⟩
  case round =>
    obtain ⟨k, hk, rfl, rfl, hm, hb⟩ := hrel
    have HM := Lib.hid hm
    have HB := Lib.hid hb
    clear hm hb
    by_cases hlt : k < n
    · have hlt' : (k : Int) < n := by omega
      go_wp2

      go_loopw [1, 6] (fun q i wr' => ∃ j : Nat, j ≤ 2 ∧ i = .int .i64 j ∧ q = .int .i64 ((1 + (2 * k + j) : Nat) : Int) ∧ Mk g (2 * n) (2 * k + j) wr' ∧ Onl g w wr') (fun _ i _ => 2 - (intOf i).toNat)
      case atStart => exact ⟨0, Nat.zero_le _, rfl, rfl, HM.out, HB.out⟩
      case round =>
        obtain ⟨j, hj, rfl, rfl, hm, hb⟩ := hrel
        have HM2 := Lib.hid hm
        have HB2 := Lib.hid hb
        clear hm hb
        by_cases hj2 : j < 2
        · obtain ⟨x, hx⟩ := (HM2.out.2 (2 * k + j) (by omega)).1
          have hf := (HM2.out.2 (2 * k + j) (by omega)).2
          have e : 2 * k + j = k * 2 + j := by omega
          rw [e] at hx hf
          clear e
          have HP : Hid (Mk g (2 * n) (2 * k + (j + 1)) (wr.setCell ⟨g, k * 2 + j, none⟩ (.int .i32 (1 + (2 * (k : Int) + (j : Int)))))) := Lib.hid (by
            have h := HM2.out.put (by omega)
            rw [show k * 2 + j = 2 * k + j from by omega, show (1 + (2 * (k : Int) + (j : Int))) = ((1 + (2 * k + j) : Nat) : Int) from by omega]
            exact h)
          go_wp2
          go_roundw
          case rel => exact ⟨j + 1, by omega, by go_num, by go_num, HP.out, HB2.out.put⟩
          case measure => simp [intOf]; omega
        · obtain rfl : j = 2 := by omega
          go_wp2
          go_roundw
          case rel => exact ⟨k + 1, by omega, by go_num, by go_num, HM2.out, HB2.out⟩
          case measure => simp [intOf]; omega
    · obtain rfl : k = n := by omega
      go_wp2
      go_ret
      exact ⟨by rfl, HM.out, HB.out⟩
set_option maxHeartbeats 1000000 in
theorem heldCellS_any (g cap n : Nat) (hn : n ≤ 1000000) (w : World) (ho : ∀ j, j < 2 * n → w.cell? ⟨g, j, none⟩ = some (.int .i32 ((1 + j : Nat) : Int))) :
    Calls Try.prog 16 #[.slice (some ⟨g, 0, none⟩) n cap, .int .i64 1] w fun e w' => e = .returned (.int .i64 ((1 + 2 * n : Nat) : Int)) ∧ ∃ m, w' = w.drewN m := by
  have HO := Lib.hid ho
  have hn' : (n : Int) ≤ 1000000 := by omega
  clear ho
  go_enter Try.func16, Try.ntmps16
  go_wp2
  go_loopw [1, 5] (fun q i wr => ∃ k m : Nat, k ≤ n ∧ i = .int .i64 k ∧ q = .int .i64 ((1 + 2 * k : Nat) : Int) ∧ wr = w.drewN m) (fun _ i _ => n - (intOf i).toNat)
  case atStart => exact ⟨0, 0, Nat.zero_le _, rfl, rfl, rfl⟩
  case round =>
    obtain ⟨k, m, hk, rfl, rfl, e⟩ := hrel
    have HE := Lib.hid e
    clear e
    by_cases hlt : k < n
    · have hlt' : (k : Int) < n := by omega
      go_wp2
      go_loopw [1, 6] (fun q i wr' => ∃ j m : Nat, j ≤ 2 ∧ i = .int .i64 j ∧ q = .int .i64 ((1 + (2 * k + j) : Nat) : Int) ∧ wr' = w.drewN m) (fun _ i _ => 2 - (intOf i).toNat)
      case atStart => exact ⟨0, m, Nat.zero_le _, rfl, rfl, HE.out⟩
      case round =>
        clear HE
        obtain ⟨j, m, hj, rfl, rfl, e⟩ := hrel
        have HE := Lib.hid e
        clear e
        by_cases hj2 : j < 2
        · have hx : wr.cell? ⟨g, k * 2 + j, none⟩ = some (.int .i32 (1 + (2 * (k : Int) + (j : Int)))) := by
            rw [HE.out, show k * 2 + j = 2 * k + j from by omega, show (1 + (2 * (k : Int) + (j : Int))) = ((1 + (2 * k + j) : Nat) : Int) from by omega]
            exact HO.out _ (by omega)
          go_wp2
          go_roundw
          case rel => exact ⟨j + 1, m, by omega, by go_num, by go_num, HE.out⟩
          case measure => simp [intOf]; omega
        · obtain rfl : j = 2 := by omega
          go_wp2
          go_roundw
          case rel => exact ⟨k + 1, m, by omega, by go_num, by go_num, HE.out⟩
          case measure => simp [intOf]; omega
    · obtain rfl : k = n := by omega
      go_wp2
      go_ret
      exact ⟨by rfl, m, HE.out⟩
end Go.Proofs.Ytaodckhfmdiifaa
