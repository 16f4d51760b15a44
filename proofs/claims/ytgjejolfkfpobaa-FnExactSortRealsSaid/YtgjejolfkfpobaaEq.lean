/-
  CONTRACT: two slices with the same numbers are held equal by the law.
-/
import Derived.Test.YtgjejolfkfpobaaSf
import Derived.Test.YtgjejolfkfpobaaSl
import Derived.Deep.RegionWith
import Derived.BigRegion
namespace Go.Proofs.Ytgjejolfkfpobaa
open Go.ChangeShapes Go.WideShapes Go.ChangeAt Go.RowKit Go.Deep
open Fl
theorem sameFloat_quiet (r : Nat) (h : nan64 r = false) (w : World) :
    Calls Try.prog 70 #[.float .f64 r, .float .f64 r] w fun e w' => e = .returned (.bool true) ∧ w' = w :=
  (sameFloat_same r h w).mono fun _ _ ⟨he, hw⟩ => ⟨he, hw.symm⟩
set_option maxHeartbeats 4000000 in
theorem eqF_any (x y len : Nat) (bs : List Nat) (w : World) (hl : len ≤ 1048576)
    (hx : ∀ i, i < len → w.cell? ⟨x, i, none⟩ = some (.float .f32 (bs[i]?.getD 0))) (hy : ∀ i, i < len → w.cell? ⟨y, i, none⟩ = some (.float .f32 (bs[i]?.getD 0))) :
    Calls Try.prog 31 #[.slice (some ⟨x, 0, none⟩) len len, .slice (some ⟨y, 0, none⟩) len len] w fun e w' => e = .returned (.bool true) ∧ ∃ n, w' = w.drewN n := by
  have hl' : (len : Int) ≤ 1048576 := by omega
  go_enter Try.func31, Try.ntmps31
  go_wp2
  go_loopw [5] (fun i wr => ∃ k m : Nat, k ≤ len ∧ i = .int .i64 k ∧ wr = w.drewN m) (fun i _ => len - (intOf i).toNat)
  case atStart => exact ⟨0, 0, Nat.zero_le _, rfl, rfl⟩
  case round =>
    obtain ⟨k, m, hk, rfl, e⟩ := hrel
    by_cases hlt : k < len
    · have g1 : wr.cell? ⟨x, k, none⟩ = some (.float .f32 (bs[k]?.getD 0)) := by rw [e]; exact hx k hlt
      have g2 : wr.cell? ⟨y, k, none⟩ = some (.float .f32 (bs[k]?.getD 0)) := by rw [e]; exact hy k hlt
      have E := Lib.hid e
      clear hx hy e
      by_cases hn : kd (bs[k]?.getD 0) = 4
      · have hc := conv_nan _ hn
        have hm := fun w => nanC64_nan (bs[k]?.getD 0) w
        clear hn
        go_wp2
        go_region_with (go_at_call 70; refine (sameFloat_nan _ _ (hm _) (hm _) _).mono ?_; rintro e w' ⟨rfl, rfl⟩)
        all_goals
          go_wp2
          go_roundw
          case rel => exact ⟨k + 1, m + 3, by omega, by go_num, by rw [E.out]; rfl⟩
          case measure => simp [intOf]; omega
      · have hc := conv_num _ hn
        have hw := widen_num _ hn
        clear hn
        go_wp2
        go_quiet ((go_at_call 70; exact Calls.quiet_of_same (sameFloat_quiet _ hw _)))
        go_wp2
        go_roundw
        case rel => exact ⟨k + 1, m + nq, by omega, by go_num, by rw [E.out, World.drewN_drewN]⟩
        case measure => simp [intOf]; omega
    · obtain rfl : k = len := by omega
      have E := Lib.hid e
      clear e
      go_wp2
      go_ret
      exact ⟨rfl, m, E.out⟩
end Go.Proofs.Ytgjejolfkfpobaa
