import Derived.Test.YtaodckhfmdiifaaKey6
namespace Go.Proofs.Ytaodckhfmdiifaa
open Go.ChangeShapes Go.WideShapes Go.ChangeAt Go.RowKit
open Fl
theorem arr8 (k : IntKind) (f : Nat → Int) : arr k 8 f = #[.int k (f 0), .int k (f 1), .int k (f 2), .int k (f 3), .int k (f 4), .int k (f 5), .int k (f 6), .int k (f 7)] := rfl
set_option maxRecDepth 8000 in
theorem toKey_any (f : Nat → Int) (w : World) :
    Calls Try.prog 8 #[.agg (arr .u8 8 f)] w fun e w' => e = .returned (.agg (arr .u8 8 f)) ∧ Below w.heap.size w w' := by
  rw [arr8]
  go_enter Try.func8, Try.ntmps8
  go_wp2
  refine wp_loop_rounds 9 ?_
  iterate 9
    rw [rounds_succ]
    go_wp2
  refine bodyPost_ret (v := .agg (arr .u8 8 f)) (by simp [results, Try.results8, go_sem]; rfl) rfl ⟨rfl, ?_⟩
  exact (((Below.refl _ _).alloc (Nat.le_refl _) _).alloc (by simp) _).alloc (by simp; omega) _
theorem specFromKey_any (f : Nat → Int) (hf : ∀ i, i < 8 → 0 ≤ f i ∧ f i ≤ 255) (w : World) :
    Calls Try.prog 7 #[.agg (arr .u8 8 f)] w fun e w' => e = .returned (if okB f then .tuple #[.complex .f32 (reB f) (imB f), .int .i64 0] else .tuple #[.complex .f32 0 0, .int .i64 2]) ∧ Below w.heap.size w w' := by
  have HF := Lib.hid hf
  have H := Lib.hid (l02FromKey_any f hf)
  clear hf
  cases hok : okB f
  all_goals
    have h := H.out
    rw [hok] at h
    have H' := Lib.hid h
    clear h H hok
    have C0 := Lib.hid (heap_alloc_new w (.cells (arr .u8 8 f) 26 (0, 0)))
    go_enter Try.func7, Try.ntmps7
    go_wp2_with (refine wpList_load_row rfl 26 _ rfl w.heap.size rfl 26 _ _ _ C0.out Try.underlying26 rfl (info_key _) ?_)
    refine (H'.out _).mono ?_
    rintro e w1 ⟨rfl, b1⟩
    have B1 := Lib.hid b1
    clear b1
    go_wp2
    go_ret2
    exact ⟨rfl, ((Below.refl _ _).alloc (Nat.le_refl _) _).trans (B1.out.mono (by simp))⟩
end Go.Proofs.Ytaodckhfmdiifaa
