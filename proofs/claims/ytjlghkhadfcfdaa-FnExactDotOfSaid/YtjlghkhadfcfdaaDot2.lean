/-
  THE SPECIFICATION's SUM OF PRODUCTS, WALKED.
-/
import Derived.Test.YtjlghkhadfcfdaaDot
namespace Go.Proofs.Ytjlghkhadfcfdaa
open Go.ChangeShapes Go.WideShapes Go.ChangeAt Go.RowKit Go.Deep
open Fl
theorem run_mul_some {a b s : Nat} (h : Ieee.single.mul a b = some s) (t : TypeId) (w : World) : (binOp .mul t (.float .f32 a) (.float .f32 b)).run Try.prog w = .ok (.float .f32 s) w := run_float_arith w .mul t .f32 _ _ s h
theorem run_mul_none {a b : Nat} (h : Ieee.single.mul a b = none) (t : TypeId) (w : World) : (binOp .mul t (.float .f32 a) (.float .f32 b)).run Try.prog w = .ok (.float .f32 (nanS a b w)) w.drew := run_arith_nan32 w .mul t _ _ (by simp) h
theorem run_add_some {a b s : Nat} (h : floatBits .add .f32 a b = some s) (t : TypeId) (w : World) : (binOp .add t (.float .f32 a) (.float .f32 b)).run Try.prog w = .ok (.float .f32 s) w := run_float_arith w .add t .f32 _ _ s h
theorem run_add_none {a b : Nat} (h : floatBits .add .f32 a b = none) (t : TypeId) (w : World) : (binOp .add t (.float .f32 a) (.float .f32 b)).run Try.prog w = .ok (.float .f32 (nanS a b w)) w.drew := run_arith_nan32 w .add t _ _ (by simp) h
set_option maxHeartbeats 4000000 in
theorem specDot_any (x y len : Nat) (bs cs : List Nat) (w : World) (hl : len ≤ 256)
    (hx : ∀ i, i < len → w.cell? ⟨x, i, none⟩ = some (.float .f32 (bs[i]?.getD 0))) (hy : ∀ i, i < len → w.cell? ⟨y, i, none⟩ = some (.float .f32 (cs[i]?.getD 0))) :
    Calls Try.prog 24 #[.slice (some ⟨x, 0, none⟩) len len, .slice (some ⟨y, 0, none⟩) len len] w fun e w' => ∃ r, e = .returned (.tuple #[.float .f32 r, .int .i64 0]) ∧ rep (sumO (prod bs cs) len) r ∧ ∃ n, w' = w.drewN n := by
  have hl' : (len : Int) ≤ 256 := by omega
  have hcode : (if 256 < len ∨ 256 < len then (3 : Int) else if len = len then 0 else 2) = 0 := by rw [if_neg (by omega), if_pos rfl]
  have hc := l01Two_any x y len len
  rw [hcode] at hc
  have HC := Lib.hid hc
  clear hc hcode
  go_enter Try.func24, Try.ntmps24
  go_wp2_with (go_at_call 52; refine (HC.out _ (by omega) (by omega)).mono ?_; rintro e w' ⟨rfl, rfl⟩)
  go_loopw [7, 8, 9] (fun s i _ wr => ∃ k m r : Nat, k ≤ len ∧ i = .int .i64 k ∧ s = .float .f32 r ∧ rep (sumO (prod bs cs) k) r ∧ wr = w.drewN m) (fun _ i _ _ => len - (intOf i).toNat)
  case atStart => exact ⟨0, 0, 0, Nat.zero_le _, rfl, rfl, .inl ⟨rfl, by decide⟩, rfl⟩
  case round =>
    obtain ⟨k, m, r, hk, rfl, rfl, hr, e⟩ := hrel
    clear HC
    by_cases hlt : k < len
    · have g1 : wr.cell? ⟨x, k, none⟩ = some (.float .f32 (bs[k]?.getD 0)) := by rw [e]; exact hx k hlt
      have g2 : wr.cell? ⟨y, k, none⟩ = some (.float .f32 (cs[k]?.getD 0)) := by rw [e]; exact hy k hlt
      have E := Lib.hid e
      have HR := Lib.hid hr
      clear hx hy e hr
      by_cases h0 : k = 0
      · subst h0
        cases hp : prod bs cs 0 with
        | some p =>
          have hm := run_mul_some hp
          have R : Hid (rep (sumO (prod bs cs) 1) p) := Lib.hid (rep_prod_some hp)
          clear hp
          go_wp2
          go_quiet (fail)
          go_wp2
          go_roundw
          case rel => exact ⟨1, m + nq, p, by omega, by go_num, rfl, R.out, by rw [E.out, World.drewN_drewN]⟩
          case measure => simp [intOf]; omega
        | none =>
          have hm := run_mul_none hp
          have R : Hid (∀ w, rep (sumO (prod bs cs) 1) (nanS (bs[0]?.getD 0) (cs[0]?.getD 0) w)) := Lib.hid fun w => .inr ⟨hp, nan_kd4 (nanS_nan _ _ _)⟩
          clear hp
          go_wp2
          go_region
          all_goals
            go_wp2
            go_roundw
            case rel => exact ⟨1, m + 2, _, by omega, by go_num, rfl, R.out _, by rw [E.out]; rfl⟩
            case measure => simp [intOf]; omega
      · have hk0 : ((k : Int) == 0) = false := by simp; omega
        have hs := sumO_step (prod bs cs) k (by omega)
        clear h0
        cases hp : prod bs cs k with
        | some p =>
          have hm := run_mul_some hp
          have hrep := rep_prod_some hp
          have ha := rep_add2 HR.out hrep
          rw [hp] at ha hs
          cases hc : addOO (sumO (prod bs cs) k) (some p) with
          | some s =>
            rw [hc] at ha
            have hop := run_add_some ha
            have R : Hid (rep (sumO (prod bs cs) (k + 1)) s) := Lib.hid (by rw [hs]; exact rep_some2 hc)
            clear hs ha hc hp hrep
            go_wp2
            go_quiet (fail)
            go_wp2
            go_roundw
            case rel => exact ⟨k + 1, m + nq, s, by omega, by go_num, rfl, R.out, by rw [E.out, World.drewN_drewN]⟩
            case measure => simp [intOf]; omega
          | none =>
            rw [hc] at ha
            have hop := run_add_none ha
            have R : Hid (∀ w, rep (sumO (prod bs cs) (k + 1)) (nanS r p w)) := Lib.hid (fun w => by rw [hs]; exact rep_none2 hc (nan_kd4 (nanS_nan _ _ _)))
            clear hs ha hc hp hrep
            go_wp2
            go_quiet (fail)
            go_wp2
            go_roundw
            case rel => exact ⟨k + 1, m + nq + 1, _, by omega, by go_num, rfl, R.out _, by rw [E.out, World.drewN_drewN]; rfl⟩
            case measure => simp [intOf]; omega
        | none =>
          have hm := run_mul_none hp
          have hrep : ∀ w, rep (prod bs cs k) (nanS (bs[k]?.getD 0) (cs[k]?.getD 0) w) := fun w => .inr ⟨hp, nan_kd4 (nanS_nan _ _ _)⟩
          have ha : ∀ w, floatBits .add .f32 r (nanS (bs[k]?.getD 0) (cs[k]?.getD 0) w) = none := fun w => by
            rw [rep_add2 HR.out (hrep w), hp]; cases sumO (prod bs cs) k <;> rfl
          have hop : ∀ w t w', (binOp .add t (.float .f32 r) (.float .f32 (nanS (bs[k]?.getD 0) (cs[k]?.getD 0) w))).run Try.prog w' = .ok (.float .f32 (nanS r (nanS (bs[k]?.getD 0) (cs[k]?.getD 0) w) w')) w'.drew := fun w t w' => run_add_none (ha w) t w'
          have R : Hid (∀ w w', rep (sumO (prod bs cs) (k + 1)) (nanS r (nanS (bs[k]?.getD 0) (cs[k]?.getD 0) w) w')) := Lib.hid (fun w w' => by rw [hs, hp]; exact .inr ⟨by cases sumO (prod bs cs) k <;> rfl, nan_kd4 (nanS_nan _ _ _)⟩)
          clear hs ha hp hrep
          go_wp2
          go_region
          all_goals
            go_wp2
            go_roundw
            case rel => exact ⟨k + 1, m + 3, _, by omega, by go_num, rfl, R.out _ _, by rw [E.out]; rfl⟩
            case measure => simp [intOf]; omega
    · obtain rfl : k = len := by omega
      have E := Lib.hid e
      have R := Lib.hid hr
      clear e hr hx hy
      go_wp2
      go_ret2
      exact ⟨r, rfl, R.out, m, E.out⟩
end Go.Proofs.Ytjlghkhadfcfdaa
