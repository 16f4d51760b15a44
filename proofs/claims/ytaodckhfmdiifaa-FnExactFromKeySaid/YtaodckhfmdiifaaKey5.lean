import Derived.Test.YtaodckhfmdiifaaKey4
namespace Go.Proofs.Ytaodckhfmdiifaa
open Go.ChangeShapes Go.WideShapes Go.ChangeAt Go.RowKit
open Fl
theorem kept_first {w W : World} {o : Obj} {f : Nat → Int} {t : TypeId} (hW : Below (w.heap.size + 1) (w.alloc (.cells (arr .u8 8 f) t)) W) : ∀ j, j < 8 → W.cell? ⟨w.heap.size, j, none⟩ = some (.int .u8 (f j)) := by
  intro j hj
  rw [hW.cell (p := ⟨w.heap.size, j, none⟩) (by simp), World.cell?_alloc_new, arr_get _ _ _ _ hj]
theorem kept_at {w W : World} {f : Nat → Int} {t : TypeId} (hW : Below (w.heap.size + 1) (w.alloc (.cells (arr .u8 8 f) t)) W) :
    Below (w.heap.size + 1) (w.alloc (.cells (arr .u8 8 f) t)) W ∧ ∀ j, j < 8 → W.cell? ⟨w.heap.size, j, none⟩ = some (.int .u8 (f j)) := ⟨hW, kept_first (o := .cells #[] 0) hW⟩
theorem hdB_W {f : Nat → Int} {o : Nat} (h : ∀ i, i < 4 → 0 ≤ f (o + i) ∧ f (o + i) ≤ 255) : W32 (hdB f o 4) := by
  have := hdB_lt f o 4 h
  unfold W32; omega
set_option maxRecDepth 8000 in
theorem l02FromKey_any (f : Nat → Int) (hf : ∀ i, i < 8 → 0 ≤ f i ∧ f i ≤ 255) (w : World) :
    Calls Try.prog 25 #[.agg (arr .u8 8 f)] w fun e w' => e = .returned (.tuple #[.complex .f32 (reB f) (imB f), .bool (okB f)]) ∧ Below w.heap.size w w' := by
  have hre : W32 (reB f) := hdB_W fun i hi => by have := hf i (by omega); simpa using this
  have him : W32 (imB f) := hdB_W fun i hi => hf (4 + i) (by omega)
  go_enter Try.func25, Try.ntmps25
  go_wp2
  go_loop [4, 5, 6] (fun x y i => ∃ k : Nat, k ≤ 4 ∧ i = .int .i64 k ∧ x = .int .u32 (hdB f 0 k : Nat) ∧ y = .int .u32 (hdB f 4 k : Nat)) (fun _ _ i => 4 - (intOf i).toNat)
  case atStart => exact ⟨0, by omega, rfl, rfl, rfl⟩
  case round =>
    obtain ⟨k, hk, rfl, rfl, rfl⟩ := hrel
    by_cases hlt : k < 4
    · have g1 := arr_get .u8 8 f k (by omega)
      have g2 := arr_get .u8 8 f (4 + k) (by omega)
      have hs : hdB f 0 (k + 1) = hdB f 0 k * 256 + (f k).toNat := by simp [hdB]
      have hs2 : hdB f 4 (k + 1) = hdB f 4 k * 256 + (f (4 + k)).toNat := by simp [hdB]
      have hx1 := hdB_24 (f := f) (o := 0) hlt (fun i hi => by simpa using hf i (by omega))
      have hx2 := hdB_24 (f := f) (o := 4) hlt (fun i hi => hf (4 + i) (by omega))
      obtain ⟨b0, b1⟩ := hf k (by omega)
      obtain ⟨b2, b3⟩ := hf (4 + k) (by omega)
      have hor := or_byte _ _ hx1 b0 b1
      have hor2 := or_byte _ _ hx2 b2 b3
      rw [← hs] at hor
      rw [← hs2] at hor2
      have hx0 : (0 : Int) ≤ (hdB f 0 k : Nat) := by omega
      have hx3 : ((hdB f 0 k : Nat) : Int) ≤ 16777215 := by omega
      have hx4 : (0 : Int) ≤ (hdB f 4 k : Nat) := by omega
      have hx5 : ((hdB f 4 k : Nat) : Int) ≤ 16777215 := by omega
      clear hf hs hx1 hs2 hx2
      go_wp2
      go_round
      case rel => exact ⟨k + 1, by omega, by go_num, rfl, rfl⟩
      case measure => simp [intOf]; omega
    · obtain rfl : k = 4 := by omega
      clear hf
      have e1 : hdB f 0 4 = reB f := rfl
      have e2 : hdB f 4 4 = imB f := rfl
      rw [e1, e2]
      clear e1 e2
      go_wp2
      have hS : ∀ w, (Op.equalIn 10000 26 (.agg (arr .u8 8 (keyF (can (reB f)) (can (imB f))))) (.agg #[.int .u8 (f 0), .int .u8 (f 1), .int .u8 (f 2), .int .u8 (f 3), .int .u8 (f 4), .int .u8 (f 5), .int .u8 (f 6), .int .u8 (f 7)])).run Try.prog w = .ok (okB f) w :=
        fun w => eqArr (P := Try.prog) (t := 26) (q := .u8) (keyF (can (reB f)) (can (imB f))) f Try.underlying26 Try.underlying5 (by kernel_rfl) w
      go_region_held3 (fun w' => Below (w.heap.size + 1) (w.alloc (.cells (arr .u8 8 f) 26)) w' ∧ ∀ j, j < 8 → w'.cell? ⟨w.heap.size, j, none⟩ = some (.int .u8 (f j)))
        (first | exact kept_at (Below.refl _ _).drew | exact kept_at ((Below.refl _ _).drew.trans (Below.mono (by assumption) (by simp))))
        (first | (go_at_call 39; refine (l02Key_any _ _ hre him _).mono ?_; rintro e w' ⟨rfl, hb⟩))
      rename_i hH
      have HH := Lib.hid hH.1
      clear hH hb
      go_wp2
      go_ret2
      exact ⟨rfl, ((Below.refl _ _).alloc (Nat.le_refl _) _).trans (HH.out.mono (by omega))⟩
end Go.Proofs.Ytaodckhfmdiifaa
