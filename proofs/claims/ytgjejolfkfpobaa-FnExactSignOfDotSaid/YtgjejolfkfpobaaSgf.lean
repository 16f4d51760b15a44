/-
  CONTRACTS: SignOfDot: the specification's; the program's helpers.
-/
import Derived.Test.YtgjejolfkfpobaaSge
import Derived.Test.YtgjejolfkfpobaaEqLs
import Derived.Test.YtgjejolfkfpobaaLims
namespace Go.Proofs.Ytgjejolfkfpobaa
open Go.ChangeShapes Go.WideShapes Go.ChangeAt Go.RowKit Go.Deep
open Fl
theorem isFin_any (k : Int) (w : World) :
    Calls Try.prog 67 #[.int .i64 k] w fun e w' => e = .returned (.bool (decide (k < 3))) ∧ w = w' := by
  go_enter Try.func67, Try.ntmps67
  go_wp2
  go_ret
  exact ⟨rfl, rfl⟩
theorem areAll_any (x len : Nat) (bs : List Nat) (ok : Bool) (w : World) (hl : len ≤ 1048576) (hx : NumRow w x len bs) (ho : if ok then AllFin bs len else ¬ AllFin bs len) :
    Calls Try.prog 66 #[.slice (some ⟨x, 0, none⟩) len len, .func (.func 67) #[] #[]] w fun e w' => e = .returned (.bool ok) ∧ w = w' := by
  have HX := Lib.hid hx
  have HO := Lib.hid ho
  have hl' : (len : Int) ≤ 1048576 := by omega
  clear hx ho hl
  go_enter Try.func66, Try.ntmps66
  go_wp2
  go_loop [9] (fun i => ∃ k : Nat, k ≤ len ∧ i = .int .i64 k ∧ AllFin bs k) (fun i => len - (intOf i).toNat)
  case atStart => exact ⟨0, Nat.zero_le _, rfl, fun j hj => absurd hj (by omega)⟩
  case round =>
    obtain ⟨k, hk, rfl, hf⟩ := hrel
    have HF := Lib.hid hf
    clear hf
    by_cases hlt : k < len
    · have g1 : w.cell? ⟨x, k, none⟩ = some (.float .f32 (bs[k]?.getD 0)) := HX.out.2.2 k hlt
      have W1 : Hid (W32 (bs[k]?.getD 0)) := Lib.hid (HX.out.2.1 k hlt)
      by_cases hd : kd (bs[k]?.getD 0) < 3
      · have t1 : decide (kd (bs[k]?.getD 0) < 3) = true := by simpa using hd
        have HD := Lib.hid hd
        clear hd
        go_wp2_with (first | (go_at_call 87; refine (kindOf_any _ W1.out _).mono ?_; rintro e w' ⟨rfl, rfl⟩) | (go_at_call 67; refine (isFin_any _ _).mono ?_; rintro e w' ⟨rfl, rfl⟩))
        go_round
        case rel => exact ⟨k + 1, by omega, by go_num, fun j hj => by
          by_cases h : j = k
          · rw [h]; exact HD.out
          · exact HF.out j (by omega)⟩
        case measure => simp [intOf]; omega
      · have t1 : decide (kd (bs[k]?.getD 0) < 3) = false := by simp; omega
        have HD : Hid (ok = false) := Lib.hid (by
          cases ok with
          | false => rfl
          | true => exact absurd (HO.out k hlt) hd)
        clear hd
        go_wp2_with (first | (go_at_call 87; refine (kindOf_any _ W1.out _).mono ?_; rintro e w' ⟨rfl, rfl⟩) | (go_at_call 67; refine (isFin_any _ _).mono ?_; rintro e w' ⟨rfl, rfl⟩))
        go_ret
        exact ⟨ret_bool (by rw [HD.out]), rfl⟩
    · obtain rfl : k = len := by omega
      have HD : Hid (ok = true) := Lib.hid (by
        cases ok with
        | true => rfl
        | false => exact absurd HF.out HO.out)
      go_wp2
      go_ret
      exact ⟨ret_bool (by rw [HD.out]), rfl⟩
def BothFin (bs cs : List Nat) (k : Nat) : Prop := AllFin bs k ∧ AllFin cs k
def SgPost (r c : Int) (w : World) (e : Ending) (w' : World) : Prop := e = .returned (.tuple #[.int .i64 r, .int .i64 c]) ∧ Below w.heap.size w w'
def twoCode (lx ly : Nat) : Int := if 256 < lx ∨ 256 < ly then 3 else if lx = ly then 0 else 2
theorem specSg_bad (x y lx ly : Nat) (w : World) (hx : lx ≤ 1048576) (hy : ly ≤ 1048576) (h : twoCode lx ly ≠ 0) :
    Calls Try.prog 28 #[.slice (some ⟨x, 0, none⟩) lx lx, .slice (some ⟨y, 0, none⟩) ly ly] w (SgPost 0 (twoCode lx ly) w) := by
  have hc : Hid (∀ w, Calls Try.prog 62 #[.slice (some ⟨x, 0, none⟩) lx lx, .slice (some ⟨y, 0, none⟩) ly ly] w fun e w' => e = .returned (.int .i64 (twoCode lx ly)) ∧ w = w') := Lib.hid fun w => l01Two_any x y lx ly w hx hy
  have hb : (twoCode lx ly != 0) = true := by simpa using h
  clear h hx hy
  go_enter Try.func28, Try.ntmps28
  go_wp2_with (go_at_call 62; refine (hc.out _).mono ?_; rintro e w' ⟨rfl, rfl⟩)
  go_ret2
  exact ⟨rfl, Below.refl _ _⟩
theorem implSg_bad (x y lx ly : Nat) (w : World) (hx : lx ≤ 1048576) (hy : ly ≤ 1048576) (h : twoCode lx ly ≠ 0) :
    Calls Try.prog 30 #[.slice (some ⟨x, 0, none⟩) lx lx, .slice (some ⟨y, 0, none⟩) ly ly] w (SgPost 0 (twoCode lx ly) w) := by
  have hc : Hid (∀ w, Calls Try.prog 65 #[.slice (some ⟨x, 0, none⟩) lx lx, .slice (some ⟨y, 0, none⟩) ly ly] w fun e w' => e = .returned (.int .i64 (twoCode lx ly)) ∧ w = w') := Lib.hid fun w => pairCode_any x y lx ly w hx hy
  have hb : (twoCode lx ly != 0) = true := by simpa using h
  clear h hx hy
  go_enter Try.func30, Try.ntmps30
  go_wp2_with (go_at_call 65; refine (hc.out _).mono ?_; rintro e w' ⟨rfl, rfl⟩)
  go_ret2
  exact ⟨rfl, Below.refl _ _⟩
theorem twoCode_ok {len : Nat} (h : len ≤ 256) : twoCode len len = 0 := by unfold twoCode; rw [if_neg (by omega), if_pos rfl]
def finB (bs : List Nat) (len : Nat) : Bool := (List.range len).all fun i => decide (kd (bs[i]?.getD 0) < 3)
theorem finB_iff (bs : List Nat) (len : Nat) : finB bs len = true ↔ AllFin bs len := by
  unfold finB AllFin
  rw [List.all_eq_true]
  constructor
  · intro h i hi
    simpa using h i (by simpa using hi)
  · intro h i hi
    simpa using h i (by simpa using hi)
def sgn (len : Nat) (bs cs : List Nat) : Int := if (finB bs len && finB cs len) = true then sg (PS true bs cs len) (PS false bs cs len) else 0
def sgc (len : Nat) (bs cs : List Nat) : Int := if (finB bs len && finB cs len) = true then 0 else 2
theorem both_iff {len : Nat} {bs cs : List Nat} : (finB bs len && finB cs len) = true ↔ BothFin bs cs len := by
  rw [Bool.and_eq_true, finB_iff, finB_iff]; rfl
theorem sgn_ok {len : Nat} {bs cs : List Nat} (h : BothFin bs cs len) : sgn len bs cs = sg (PS true bs cs len) (PS false bs cs len) := if_pos (both_iff.2 h)
theorem sgc_ok {len : Nat} {bs cs : List Nat} (h : BothFin bs cs len) : sgc len bs cs = 0 := if_pos (both_iff.2 h)
theorem sgn_no {len : Nat} {bs cs : List Nat} (h : ¬ BothFin bs cs len) : sgn len bs cs = 0 := if_neg fun k => h (both_iff.1 k)
theorem sgc_no {len : Nat} {bs cs : List Nat} (h : ¬ BothFin bs cs len) : sgc len bs cs = 2 := if_neg fun k => h (both_iff.1 k)
set_option maxHeartbeats 4000000 in
theorem specSg_ok (x y len : Nat) (bs cs : List Nat) (w : World) (hl : len ≤ 256) (hx : NumRow w x len bs) (hy : NumRow w y len cs) :
    Calls Try.prog 28 #[.slice (some ⟨x, 0, none⟩) len len, .slice (some ⟨y, 0, none⟩) len len] w (SgPost (sgn len bs cs) (sgc len bs cs) w) := by
  have hc : Hid (∀ w, Calls Try.prog 62 #[.slice (some ⟨x, 0, none⟩) len len, .slice (some ⟨y, 0, none⟩) len len] w fun e w' => e = .returned (.int .i64 0) ∧ w = w') := Lib.hid fun w => by
    have h := l01Two_any x y len len w (by omega) (by omega)
    rw [show (if 256 < len ∨ 256 < len then (3 : Int) else if len = len then 0 else 2) = 0 from twoCode_ok hl] at h
    exact h
  have HX := Lib.hid hx
  have HY := Lib.hid hy
  have hl' : (len : Int) ≤ 256 := by omega
  clear hx hy
  go_enter Try.func28, Try.ntmps28
  go_wp2_with (go_at_call 62; refine (hc.out _).mono ?_; rintro e w' ⟨rfl, rfl⟩)
  go_loopw [7] (fun i wr => ∃ k : Nat, k ≤ len ∧ i = .int .i64 k ∧ BothFin bs cs k ∧ DrewSame w wr) (fun i _ => len - (intOf i).toNat)
  case atStart => exact ⟨0, Nat.zero_le _, rfl, ⟨fun j hj => absurd hj (by omega), fun j hj => absurd hj (by omega)⟩, DrewSame.refl _⟩
  case round =>
    obtain ⟨k, hk, rfl, hf, hd⟩ := hrel
    have HF := Lib.hid hf
    have HD := Lib.hid hd
    clear hf hd hc
    by_cases hlt : k < len
    · have g1 : wr.cell? ⟨x, k, none⟩ = some (.float .f32 (bs[k]?.getD 0)) := (HX.out.below HD.out.below HX.out.1).2.2 k hlt
      have g2 : wr.cell? ⟨y, k, none⟩ = some (.float .f32 (cs[k]?.getD 0)) := (HY.out.below HD.out.below HY.out.1).2.2 k hlt
      have t1 : decide ((k : Int) < (len : Int)) = true := by simp; omega
      by_cases h1 : kd (bs[k]?.getD 0) < 3
      · have H1 := Lib.hid h1
        clear h1
        by_cases h2 : kd (cs[k]?.getD 0) < 3
        · have H2 := Lib.hid h2
          have R : Hid (BothFin bs cs (k + 1)) := Lib.hid ⟨fun j hj => by
            by_cases h : j = k
            · rw [h]; exact H1.out
            · exact HF.out.1 j (by omega), fun j hj => by
            by_cases h : j = k
            · rw [h]; exact h2
            · exact HF.out.2 j (by omega)⟩
          clear h2
          go_wp2_with (go_at_call 63; first | ((with_reducible refine (l01Finite_fin _ H1.out _).mono ?_); rintro e w' ⟨rfl, rfl⟩) | ((with_reducible refine (l01Finite_fin _ H2.out _).mono ?_); rintro e w' ⟨rfl, rfl⟩))
          go_roundw
          case rel => exact ⟨k + 1, by omega, by go_num, R.out, HD.out⟩
          case measure => simp [intOf]; omega
        · have H2 : Hid (3 ≤ kd (cs[k]?.getD 0)) := Lib.hid (by omega)
          have R : Hid (¬ BothFin bs cs len) := Lib.hid fun h => h2 (h.2 k hlt)
          clear h2
          go_wp2_with (go_at_call 63; first | ((with_reducible refine (l01Finite_fin _ H1.out _).mono ?_); rintro e w' ⟨rfl, rfl⟩) | ((with_reducible refine (l01Finite_odd _ H2.out _).mono ?_); rintro e w' ⟨rfl, rfl⟩))
          go_ret2
          exact ⟨by rw [sgn_no R.out, sgc_no R.out]; rfl, (HD.out.n 1).below⟩
      · have H1 : Hid (3 ≤ kd (bs[k]?.getD 0)) := Lib.hid (by omega)
        have R : Hid (¬ BothFin bs cs len) := Lib.hid fun h => h1 (h.1 k hlt)
        clear h1
        go_wp2_with (go_at_call 63; ((with_reducible refine (l01Finite_odd _ H1.out _).mono ?_); rintro e w' ⟨rfl, rfl⟩))
        go_ret2
        exact ⟨by rw [sgn_no R.out, sgc_no R.out]; rfl, (HD.out.n 1).below⟩
    · obtain rfl : k = len := by omega
      have t1 : decide (k < k) = false := by simp
      go_wp2_with fail
      refine (l01Sign_any x y k bs cs _ hl HF.out.1 HF.out.2 (HX.out.below HD.out.below HX.out.1) (HY.out.below HD.out.below HY.out.1)).mono ?_
      rintro e w3 ⟨rfl, hb⟩
      have R : Hid (SgPost (sgn k bs cs) (sgc k bs cs) w (.returned (.tuple #[.int .i64 (sg (PS true bs cs k) (PS false bs cs k)), .int .i64 0])) w3) := Lib.hid ⟨by rw [sgn_ok HF.out, sgc_ok HF.out], (HD.out.below (B := w.heap.size)).trans (hb.mono (by have := (HD.out.below (B := w.heap.size)).size; omega))⟩
      clear hb
      go_wp2
      go_ret2
      exact R.out
end Go.Proofs.Ytgjejolfkfpobaa
