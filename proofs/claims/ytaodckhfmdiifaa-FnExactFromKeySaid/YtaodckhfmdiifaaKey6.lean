import Derived.Test.YtaodckhfmdiifaaKey5
namespace Go.Proofs.Ytaodckhfmdiifaa
open Go.ChangeShapes Go.WideShapes Go.ChangeAt Go.RowKit
open Fl
theorem hdB_shift (f : Nat → Int) (o : Nat) : ∀ k, hdB (fun i => f (o + i)) 0 k = hdB f o k
  | 0 => rfl
  | k + 1 => by simp [hdB, hdB_shift f o k]
theorem wordOf_lo (f : Nat → Int) (hf : ∀ i, i < 8 → 0 ≤ f i ∧ f i ≤ 255) (w : World) :
    Calls Try.prog 26 #[.agg #[.int .u8 (f 0), .int .u8 (f 1), .int .u8 (f 2), .int .u8 (f 3)]] w fun e w' => e = .returned (.int .u32 (reB f : Nat)) ∧ w.alloc (.cells (arr .u8 4 f) 54) = w' :=
  wordOf_any f (fun i hi => hf i (by omega)) w
theorem wordOf_hi (f : Nat → Int) (hf : ∀ i, i < 8 → 0 ≤ f i ∧ f i ≤ 255) (w : World) :
    Calls Try.prog 26 #[.agg #[.int .u8 (f 4), .int .u8 (f 5), .int .u8 (f 6), .int .u8 (f 7)]] w fun e w' => e = .returned (.int .u32 (imB f : Nat)) ∧ w.alloc (.cells (arr .u8 4 (fun i => f (4 + i))) 54) = w' := by
  have h := wordOf_any (fun i => f (4 + i)) (fun i hi => hf (4 + i) (by omega)) w
  rw [hdB_shift] at h
  exact h
set_option maxRecDepth 8000 in
theorem implFromKey_any (f : Nat → Int) (hf : ∀ i, i < 8 → 0 ≤ f i ∧ f i ≤ 255) (w : World) :
    Calls Try.prog 9 #[.agg (arr .u8 8 f)] w fun e w' => e = .returned (if okB f then .tuple #[.complex .f32 (reB f) (imB f), .int .i64 0] else .tuple #[.complex .f32 0 0, .int .i64 2]) ∧ Below w.heap.size w w' := by
  have hre : W32 (reB f) := hdB_W fun i hi => by have := hf i (by omega); simpa using this
  have him : W32 (imB f) := hdB_W fun i hi => hf (4 + i) (by omega)
  have g0 := arr_get .u8 8 f 0 (by omega)
  have g1 := arr_get .u8 8 f 1 (by omega)
  have g2 := arr_get .u8 8 f 2 (by omega)
  have g3 := arr_get .u8 8 f 3 (by omega)
  have g4 := arr_get .u8 8 f 4 (by omega)
  have g5 := arr_get .u8 8 f 5 (by omega)
  have g6 := arr_get .u8 8 f 6 (by omega)
  have g7 := arr_get .u8 8 f 7 (by omega)
  have ha1 := fun a w => run_arrayAt (P := Try.prog) 54 _ 4 a 4 8 Try.underlying54 (by omega) w
  have ha2 := fun a w => run_arrayAt (P := Try.prog) 54 _ 4 a 4 4 Try.underlying54 (by omega) w
  have HF := Lib.hid hf
  clear hf
  cases hok : okB f
  all_goals
    have HK := Lib.hid hok
    clear hok
    go_enter Try.func9, Try.ntmps9
    go_wp2_with fail
    refine (wordOf_lo f HF.out _).mono ?_; rintro e w' ⟨rfl, rfl⟩
    go_wp2_with fail
    refine (wordOf_hi f HF.out _).mono ?_; rintro e w' ⟨rfl, rfl⟩
    go_wp2_with fail
    have hS : ∀ w, (Op.equalIn 10000 26 (.agg (arr .u8 8 (keyF (can (reB f)) (can (imB f))))) (.agg #[.int .u8 (f 0), .int .u8 (f 1), .int .u8 (f 2), .int .u8 (f 3), .int .u8 (f 4), .int .u8 (f 5), .int .u8 (f 6), .int .u8 (f 7)])).run Try.prog w = .ok (okB f) w :=
          fun w => eqArr (P := Try.prog) (t := 26) (q := .u8) (keyF (can (reB f)) (can (imB f))) f Try.underlying26 Try.underlying5 (by kernel_rfl) w
    rw [HK.out] at hS
    clear g0 g1 g2 g3 g4 g5 g6 g7 ha1 ha2
    go_region_held3 (fun w' => Below (w.heap.size + 1) (w.alloc (.cells (arr .u8 8 f) 26)) w' ∧ ∀ j, j < 8 → w'.cell? ⟨w.heap.size, j, none⟩ = some (.int .u8 (f j)))
      (first | exact kept_at (((Below.refl _ _).alloc (by simp) _).alloc (by simp) _).drew | exact kept_at ((((Below.refl _ _).alloc (by simp) _).alloc (by simp) _).drew.trans (Below.mono (by assumption) (by first | (simp; done) | (simp; omega)))))
      (first | (go_at_call 28; refine (implKey_any _ _ hre him _).mono ?_; rintro e w' ⟨rfl, hb⟩))
    rename_i hH
    have HH := Lib.hid hH.1
    clear hH hb hS
    go_wp2
    go_ret2
    exact ⟨rfl, ((Below.refl _ _).alloc (Nat.le_refl _) _).trans (HH.out.mono (by omega))⟩
end Go.Proofs.Ytaodckhfmdiifaa
