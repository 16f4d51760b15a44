import Derived.Test.YtaodckhfmdiifaaKey7
import Derived.Test.YtaodckhfmdiifaaCx
namespace Go.Proofs.Ytaodckhfmdiifaa
open Go.ChangeShapes Go.WideShapes Go.ChangeAt Go.RowKit
open Fl
theorem fnExactFromKey_walk (f : Nat → Int) (hw : ∀ i, i < 8 → (Lit.int .u8 (f i)).wf = true) (w : World) :
    Calls Try.prog 3 #[.agg (arr .u8 8 f)] w fun e w' => e = .returned (.bool true) ∧ Below w.heap.size w w' := by
  have hf := fun i hi => bounds_u8 (hw i hi)
  clear hw
  have hi := implFromKey_any f hf
  have hsp := specFromKey_any f hf
  have HI := Lib.hid hi
  have HS := Lib.hid hsp
  clear hi hsp hf
  cases hok : okB f
  all_goals
    have hi := HI.out
    rw [hok] at hi
    have hsp := HS.out
    rw [hok] at hsp
    have HI' := Lib.hid hi
    have HS' := Lib.hid hsp
    clear hi hsp HI HS hok
    have C0 := Lib.hid (heap_alloc_new w (.cells (arr .u8 8 f) 22 (0, 0)))
    go_enter Try.func3, Try.ntmps3
    go_wp2_with (refine wpList_load_row rfl 22 _ rfl w.heap.size rfl 22 _ _ _ C0.out Try.underlying22 rfl (info_b8 _) ?_)
    refine (toKey_any f _).mono ?_
    rintro e w1 ⟨rfl, b1⟩
    have B1 := Lib.hid b1
    clear b1
    go_wp2_with fail
    refine (HS'.out _).mono ?_
    rintro e w2 ⟨rfl, b2⟩
    have B2 := Lib.hid (B1.out.trans (b2.mono B1.out.size))
    have C2 := Lib.hid ((B2.out.block w.heap.size (by simp)).trans C0.out)
    clear b2 B1
    go_wp2_with (refine wpList_load_row rfl 22 _ rfl w.heap.size rfl 22 _ _ _ C2.out Try.underlying22 rfl (info_b8 _) ?_)
    refine (toKey_any f _).mono ?_
    rintro e w3 ⟨rfl, b3⟩
    have B3 := Lib.hid (B2.out.trans (b3.mono B2.out.size))
    clear b3 B2 C2 C0
    go_wp2_with fail
    refine (HI'.out _).mono ?_
    rintro e w4 ⟨rfl, b4⟩
    have B4 := Lib.hid (B3.out.trans (b4.mono B3.out.size))
    clear b4 B3
    go_wp2_with (first | simp only [conv_cx] | (go_at_call 10; refine (sameCx_alk _ _ _ _ (wd_alk _ _ _) (wd_alk _ _ _) _).mono ?_; rintro e w' ⟨rfl, rfl⟩))
    go_ret
    exact ⟨rfl, wdW_below _ _ (wdW_below _ _ (wdW_below _ _ (wdW_below _ _ (((Below.refl _ _).alloc (Nat.le_refl _) _).trans (B4.out.mono (by simp))))))⟩
end Go.Proofs.Ytaodckhfmdiifaa
