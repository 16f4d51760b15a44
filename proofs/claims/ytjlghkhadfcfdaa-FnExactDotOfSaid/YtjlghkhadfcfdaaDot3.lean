/-
  THE PROGRAM's SUM OF PRODUCTS, WALKED.
-/
import Derived.Test.YtjlghkhadfcfdaaDot2
import Derived.Test.YtjlghkhadfcfdaaSum3
namespace Go.Proofs.Ytjlghkhadfcfdaa
open Go.ChangeShapes Go.WideShapes Go.ChangeAt Go.RowKit Go.Deep
open Fl
theorem rowC_more (ps : List Nat) (p n : Nat) : rowC (ps ++ [p]) ps.length n = rowC ps ps.length n := by
  unfold rowC
  congr 1
  refine List.map_congr_left fun i _ => ?_
  by_cases h : i < ps.length
  · rw [if_pos h, if_pos h, List.getElem?_append_left h]
  · rw [if_neg h, if_neg h]
theorem put_row (w wr : World) (ps : List Nat) (p m n : Nat) (h : ps.length < n) (e : wr = (w.alloc (.cells (rowC ps ps.length n) 22)).drewN m) :
    wr.setCell ⟨w.heap.size, ps.length, none⟩ (.float .f32 p) = (w.alloc (.cells (rowC (ps ++ [p]) (ps ++ [p]).length n) 22)).drewN m := by
  subst e
  show ((w.alloc (.cells (rowC ps ps.length n) 22)).setCell ⟨w.heap.size, ps.length, none⟩ (.float .f32 p)).drewN m = _
  rw [World.setCell_alloc_at _ _ _ _ _ rfl, ← rowC_more ps p n]
  have hs := rowC_set (ps ++ [p]) ps.length n h
  have hg : (ps ++ [p])[ps.length]?.getD 0 = p := by simp
  rw [hg] at hs
  rw [hs, List.length_append]; rfl
theorem implDot_any (x y len : Nat) (bs cs : List Nat) (w : World) (hl : len ≤ 256) (bx : x < w.heap.size) (byy : y < w.heap.size)
    (hx : ∀ i, i < len → w.cell? ⟨x, i, none⟩ = some (.float .f32 (bs[i]?.getD 0))) (hy : ∀ i, i < len → w.cell? ⟨y, i, none⟩ = some (.float .f32 (cs[i]?.getD 0))) :
    Calls Try.prog 25 #[.slice (some ⟨x, 0, none⟩) len len, .slice (some ⟨y, 0, none⟩) len len] w fun e w' => ∃ r, e = .returned (.tuple #[.float .f32 r, .int .i64 0]) ∧ rep (sumO (prod bs cs) len) r ∧ Below w.heap.size w w' := by
  have hl' : (len : Int) ≤ 256 := by omega
  have hcode : (if 256 < len ∨ 256 < len then (3 : Int) else if len = len then 0 else 2) = 0 := by rw [if_neg (by omega), if_pos rfl]
  have hc := pairCode_any x y len len
  rw [hcode] at hc
  have HC := Lib.hid hc
  have hmk := fun w => make_f32 len (by omega) w
  clear hc hcode
  go_enter Try.func25, Try.ntmps25
  go_wp2_with (go_at_call 53; refine (HC.out _ (by omega) (by omega)).mono ?_; rintro e w' ⟨rfl, rfl⟩)
  clear HC hmk
  go_loopw [8, 9, 21] (fun _ _ i wr => ∃ (k m : Nat) (ps : List Nat), k ≤ len ∧ i = .int .i64 k ∧ ps.length = k ∧ (∀ j, j < k → rep (prod bs cs j) (ps[j]?.getD 0)) ∧ wr = (w.alloc (.cells (rowC ps k len) 22)).drewN m) (fun _ _ i _ => len - (intOf i).toNat)
  case atStart => exact ⟨0, 0, [], Nat.zero_le _, rfl, rfl, fun j hj => absurd hj (by omega), rfl⟩
  case round =>
    obtain ⟨k, m, ps, hk, rfl, hps, hrep, e⟩ := hrel
    by_cases hlt : k < len
    · have g1 : wr.cell? ⟨x, k, none⟩ = some (.float .f32 (bs[k]?.getD 0)) := by
        rw [e]; show (w.alloc _).cell? _ = _; rw [World.cell?_alloc_lt _ _ _ bx]; exact hx k hlt
      have g2 : wr.cell? ⟨y, k, none⟩ = some (.float .f32 (cs[k]?.getD 0)) := by
        rw [e]; show (w.alloc _).cell? _ = _; rw [World.cell?_alloc_lt _ _ _ byy]; exact hy k hlt
      have g3 : wr.cell? ⟨w.heap.size, k, none⟩ = some (.float .f32 0) := by
        rw [e]; show (w.alloc _).cell? _ = _; rw [World.cell?_alloc_new, rowC_get _ _ _ _ hlt, if_neg (by omega)]
      have g4 : wr.frozen? ⟨w.heap.size, k, none⟩ = false := by
        rw [e]; show (w.alloc _).frozen? _ = _; exact World.frozen?_alloc_new _ _ _ _
      have P : Hid (∀ p, wr.setCell ⟨w.heap.size, k, none⟩ (.float .f32 p) = (w.alloc (.cells (rowC (ps ++ [p]) (k + 1) len) 22)).drewN m) := Lib.hid (fun p => by
        have h := put_row w wr ps p m len (by omega) (by rw [hps]; exact e)
        rw [List.length_append, hps] at h; exact h)
      have E := Lib.hid e
      have HP := Lib.hid hps
      have step : Hid (∀ p, rep (prod bs cs k) p → ∀ j, j < k + 1 → rep (prod bs cs j) ((ps ++ [p])[j]?.getD 0)) := Lib.hid (fun p hp j hj => by
        by_cases hj' : j < k
        · rw [List.getElem?_append_left (by omega)]; exact hrep j hj'
        · obtain rfl : j = k := by omega
          have hg : (ps ++ [p])[j]?.getD 0 = p := by rw [← hps]; simp
          rw [hg]; exact hp)
      clear hx hy e hps hrep
      cases hp : prod bs cs k with
      | some p =>
        have hm := run_mul_some hp
        have hrp := rep_prod_some hp
        have R := Lib.hid (step.out p hrp)
        clear hp hrp
        go_wp2
        go_roundw
        case rel => exact ⟨k + 1, m, ps ++ [p], by omega, by go_num, by rw [List.length_append, HP.out]; rfl, R.out, P.out p⟩
        case measure => simp [intOf]; omega
      | none =>
        have hm := run_mul_none hp
        have R : Hid (∀ w, ∀ j, j < k + 1 → rep (prod bs cs j) ((ps ++ [nanS (bs[k]?.getD 0) (cs[k]?.getD 0) w])[j]?.getD 0)) := Lib.hid fun w => step.out _ (.inr ⟨hp, nan_kd4 (nanS_nan _ _ _)⟩)
        clear hp
        go_wp2
        go_roundw
        case rel => exact ⟨k + 1, m + 1, ps ++ [nanS (bs[k]?.getD 0) (cs[k]?.getD 0) wr], by omega, by go_num, by rw [List.length_append, HP.out]; rfl, R.out _, by rw [P.out]; rfl⟩
        case measure => simp [intOf]; omega
    · obtain rfl : k = len := by omega
      have cells : Hid (∀ i, i < k → wr.cell? ⟨w.heap.size, i, none⟩ = some (.float .f32 (ps[i]?.getD 0))) := Lib.hid (fun i hi => by
        rw [e]; show (w.alloc _).cell? _ = _; rw [World.cell?_alloc_new, rowC_get _ _ _ _ hi, if_pos hi])
      have bel : Hid (Below w.heap.size w wr) := Lib.hid (by
        rw [e]; exact ((Below.refl _ _).alloc (Nat.le_refl _) _ : Below w.heap.size w (w.alloc _)).trans (Drew.below ⟨m, rfl⟩))
      have REP := Lib.hid hrep
      clear hx hy e hps hrep
      go_wp2_with fail
      refine (implSum_post w.heap.size k ps _ (by omega) cells.out).mono ?_
      rintro e w2 ⟨r, rfl, q, d⟩
      have Q := Lib.hid q; clear q
      have D := Lib.hid d; clear d
      have HL := Lib.hid hl
      go_wp2_with fail
      go_ret2
      refine ⟨r, by rw [codeS, if_pos HL.out]; rfl, ?_, bel.out.trans D.out.below⟩
      have q := Q.out
      rw [AnsS, if_pos HL.out, sumK_sumO _ _ _ REP.out] at q
      exact q
end Go.Proofs.Ytjlghkhadfcfdaa
