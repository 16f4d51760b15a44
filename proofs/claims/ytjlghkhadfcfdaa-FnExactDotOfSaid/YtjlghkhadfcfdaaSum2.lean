/-
  THE PROGRAM's SUM FROM LEFT TO RIGHT.
-/
import Derived.Test.YtjlghkhadfcfdaaSum
namespace Go.Proofs.Ytjlghkhadfcfdaa
open Go.ChangeShapes Go.WideShapes Go.ChangeAt Go.RowKit Go.Deep
open Fl
theorem implSum_zero (x : Nat) (w : World) :
    Calls Try.prog 22 #[.slice (some ⟨x, 0, none⟩) 0 0] w fun e w' => e = .returned (.tuple #[.float .f32 0, .int .i64 0]) ∧ w = w' := by
  go_enter Try.func22, Try.ntmps22
  go_wp2
  go_ret2
  exact ⟨rfl, rfl⟩
theorem implSum_one (x b : Nat) (w : World) (h : w.cell? ⟨x, 0, none⟩ = some (.float .f32 b)) :
    Calls Try.prog 22 #[.slice (some ⟨x, 0, none⟩) 1 1] w fun e w' => e = .returned (.tuple #[.float .f32 b, .int .i64 0]) ∧ w = w' := by
  go_enter Try.func22, Try.ntmps22
  go_wp2
  refine wp_loop_rounds 1 ?_
  rw [rounds_succ]
  go_wp2
  go_ret2
  exact ⟨rfl, rfl⟩
theorem implSum_many (x n : Nat) (f : Nat → Nat) (w : World) (hl : n ≤ 255) (h1 : 1 ≤ n)
    (hx : ∀ i, i < n + 1 → w.cell? ⟨x, i, none⟩ = some (.float .f32 (f i))) :
    Calls Try.prog 22 #[.slice (some ⟨x, 0, none⟩) (n + 1) (n + 1)] w fun e w' => ∃ r, e = .returned (.tuple #[.float .f32 r, .int .i64 0]) ∧ rep (sumK f (n + 1)) r ∧ ∃ m, w' = w.drewN m := by
  have hl' : (n : Int) ≤ 255 := by omega
  have hb : decide ((256 : Int) < (n : Int) + 1) = false := by simp; omega
  have h0 : ((n : Int) + 1 == 0) = false := by simp; omega
  have hnz : n ≠ 0 := by omega
  have g0 := hx 0 (by omega)
  go_enter Try.func22, Try.ntmps22
  go_wp2
  go_loopw [4, 6, 19] (fun s _ i wr => ∃ k m r : Nat, k ≤ n ∧ i = .int .i64 k ∧ s = .float .f32 r ∧ rep (sumK f (k + 1)) r ∧ wr = w.drewN m) (fun _ _ i _ => n - (intOf i).toNat)
  case atStart => exact ⟨0, 0, f 0, Nat.zero_le _, rfl, rfl, rep_st _, rfl⟩
  case round =>
    obtain ⟨k, m, r, hk, rfl, rfl, hr, e⟩ := hrel
    clear g0
    by_cases hlt : k < n
    · have g1 : wr.cell? ⟨x, 1 + k, none⟩ = some (.float .f32 (f (k + 1))) := by rw [e, Nat.add_comm]; exact hx (k + 1) (by omega)
      have E := Lib.hid e
      clear hx e
      have hs := sumK_step f (k + 1) (by omega)
      have ha := rep_add (f (k + 1)) hr
      cases hc : addO (sumK f (k + 1)) (f (k + 1)) with
      | some s =>
        rw [hc] at ha
        have hop : ∀ t w, (binOp .add t (.float .f32 r) (.float .f32 (f (k + 1)))).run Try.prog w = .ok (.float .f32 s) w := fun t w => run_float_arith w .add t .f32 _ _ s ha
        have R : Hid (rep (sumK f (k + 1 + 1)) s) := Lib.hid (by rw [hs]; exact rep_some hc)
        clear hr hs ha hc h0
        go_wp2_with (simp only [hop])
        go_roundw
        case rel => exact ⟨k + 1, m, s, by omega, by go_num, rfl, R.out, E.out⟩
        case measure => simp [intOf]; omega
      | none =>
        rw [hc] at ha
        have hop : ∀ t w, (binOp .add t (.float .f32 r) (.float .f32 (f (k + 1)))).run Try.prog w = .ok (.float .f32 (nanS r (f (k + 1)) w)) w.drew := fun t w => run_arith_nan32 w .add t _ _ (by simp) ha
        have R : Hid (∀ w, rep (sumK f (k + 1 + 1)) (nanS r (f (k + 1)) w)) := Lib.hid (fun w => by rw [hs]; exact rep_none hc (nan_kd4 (nanS_nan _ _ _)))
        clear hr hs ha hc h0
        go_wp2_with (simp only [hop])
        go_roundw
        case rel => exact ⟨k + 1, m + 1, _, by omega, by go_num, rfl, R.out _, by rw [E.out]; rfl⟩
        case measure => simp [intOf]; omega
    · obtain rfl : k = n := by omega
      have E := Lib.hid e
      have R := Lib.hid hr
      clear e hr hx
      go_wp2
      go_ret2
      exact ⟨r, rfl, R.out, m, E.out⟩
end Go.Proofs.Ytjlghkhadfcfdaa
