/-
  CONTRACT: the specification's CommonStart.
-/
import Derived.Test.YtepopepafdjjlaaWdq
namespace Go.Proofs.Ytepopepafdjjlaa
open Go.ChangeShapes Go.WideShapes Go.ChangeAt Go.RowKit
open Wd
/-- how many letters two words begin with in common -/
def comL : List UInt8 → List UInt8 → Nat
  | c :: r, d :: s => if c = d then comL r s + 1 else 0
  | _, _ => 0
theorem comL_nil (u : List UInt8) : comL u [] = 0 := by cases u <;> rfl
set_option maxHeartbeats 1000000 in
theorem common_any (u v : List UInt8) (hu : u.length ≤ 4000000) (hv : v.length ≤ 4000000) (w : World) :
    Calls Try.prog 27 #[.string (txt u), .string (txt v)] w fun e w' =>
      e = .returned (.tuple #[.int .i64 (if wordB u && wordB v then (comL u v : Int) else 0), .int .i64 (if wordB u && wordB v then 0 else 1)]) ∧ ∃ n, w' = w.drewN n := by
  have hsu := txt_size u
  have hsv := txt_size v
  have hu' : (u.length : Int) ≤ 4000000 := by omega
  have hv' : (v.length : Int) ≤ 4000000 := by omega
  have ho1 : Hid (∀ w, Calls Try.prog 39 #[.string (txt u)] w fun e w' => e = .returned (.bool (wordB u)) ∧ w = w') := Lib.hid (ok_any u hu)
  have ho2 : Hid (∀ w, Calls Try.prog 39 #[.string (txt v)] w fun e w' => e = .returned (.bool (wordB v)) ∧ w = w') := Lib.hid (ok_any v hv)
  cases h1 : wordB u
  · rw [h1] at ho1
    go_enter Try.func27, Try.ntmps27
    go_wp2_with (first | (go_at_call 39; with_reducible refine (ho1.out _).mono ?_; rintro e w' ⟨rfl, rfl⟩) | (go_at_call 39; with_reducible refine (ho2.out _).mono ?_; rintro e w' ⟨rfl, rfl⟩))
    go_ret2
    exact ⟨rfl, 0, rfl⟩
  · rw [h1] at ho1
    cases h2 : wordB v
    · rw [h2] at ho2
      go_enter Try.func27, Try.ntmps27
      go_wp2_with (first | (go_at_call 39; with_reducible refine (ho1.out _).mono ?_; rintro e w' ⟨rfl, rfl⟩) | (go_at_call 39; with_reducible refine (ho2.out _).mono ?_; rintro e w' ⟨rfl, rfl⟩))
      go_ret2
      exact ⟨rfl, 0, rfl⟩
    · rw [h2] at ho2
      show Calls _ _ _ _ fun e w' => e = .returned (.tuple #[.int .i64 (comL u v : Int), .int .i64 0]) ∧ ∃ n, w' = w.drewN n
      go_enter Try.func27, Try.ntmps27
      go_wp2_with (first | (go_at_call 39; with_reducible refine (ho1.out _).mono ?_; rintro e w' ⟨rfl, rfl⟩) | (go_at_call 39; with_reducible refine (ho2.out _).mono ?_; rintro e w' ⟨rfl, rfl⟩))
      clear ho1 ho2
      go_loopw [6] (fun i wr => ∃ k : Nat, k ≤ u.length ∧ k ≤ v.length ∧ i = .int .i64 (k : Int) ∧ comL u v = k + comL (u.drop k) (v.drop k) ∧ ∃ n, wr = w.drewN n) (fun i _ => u.length - (intOf i).toNat)
      case atStart => exact ⟨0, Nat.zero_le _, Nat.zero_le _, rfl, by simp, 0, rfl⟩
      case round =>
        obtain ⟨k, hku, hkv, rfl, hd, n, rfl⟩ := hrel
        by_cases hlu : k < u.length
        · have tu : decide (k < u.length) = true := by simpa using hlu
          by_cases hlv : k < v.length
          · have tv : decide (k < v.length) = true := by simpa using hlv
            have hi := idx_txt u k hlu
            have hj := idx_txt v k hlv
            have hk' : (k : Int) ≤ 3999999 := by omega
            rw [drop_at u k hlu, drop_at v k hlv] at hd
            generalize u[k] = c at hi hd
            generalize v[k] = d at hj hd
            have HU := Lib.hid hlu
            have HV := Lib.hid hlv
            by_cases hcd : c = d
            · have HD : Hid (comL u v = (k + 1) + comL (u.drop (k + 1)) (v.drop (k + 1))) := Lib.hid (by
                rw [hd]; show k + (if c = d then _ else _) = _; rw [if_pos hcd]; omega)
              subst hcd
              clear hd hlu hlv hku hkv
              go_wp2
              go_quiet (fail)
              go_wp2
              go_roundw
              case rel => exact ⟨k + 1, HU.out, HV.out, by go_num, HD.out, _, rfl⟩
              case measure => have := HU.out; simp [intOf]; omega
            · have HD : Hid (comL u v = k) := Lib.hid (by rw [hd]; show k + (if c = d then _ else _) = _; rw [if_neg hcd]; rfl)
              have hne := u8ne hcd
              have hne2 := u8ne (fun e => hcd e.symm : d ≠ c)
              clear hd hlu hlv hcd hku hkv
              go_wp2
              go_quiet (fail)
              go_wp2
              go_ret2
              exact ⟨by rw [HD.out]; rfl, _, World.drewN_drewN _ _ _⟩
          · obtain rfl : k = v.length := by omega
            have HD : Hid (comL u v = v.length) := Lib.hid (by rw [hd, List.drop_of_length_le (Nat.le_refl v.length), comL_nil]; rfl)
            have tv : decide (v.length < v.length) = false := by simp
            clear hd hlv hku hkv hlu
            go_wp2
            go_quiet (fail)
            go_wp2
            go_ret2
            exact ⟨by rw [HD.out]; rfl, _, World.drewN_drewN _ _ _⟩
        · obtain rfl : k = u.length := by omega
          have HD : Hid (comL u v = u.length) := Lib.hid (by rw [hd, List.drop_of_length_le (Nat.le_refl u.length)]; rfl)
          have tu : decide (u.length < u.length) = false := by simp
          clear hd hlu hku hkv
          go_wp2
          go_quiet (fail)
          go_wp2
          go_ret2
          exact ⟨by rw [HD.out]; rfl, _, World.drewN_drewN _ _ _⟩
end Go.Proofs.Ytepopepafdjjlaa
