/-
  DIGITS: the program's readDigits (six at most), the specification's l01Small.
-/
import Derived.Test.YtaihooljphkpeaaDoorQm
import Derived.Test.YtaihooljphkpeaaDoorSpw
namespace Go.Proofs.YtaihooljphkpeaaDoor
open Go.ChangeShapes Go.WideShapes Go.ChangeAt Go.RowKit
def digR : Option Nat → Value
  | some v => .tuple #[.int .i64 (v : Int), .int .i64 0]
  | none => .tuple #[.int .i64 0, .int .i64 5]
def smallI : Option Nat → Int
  | some v => (v : Int)
  | none => -1
theorem digV_at {l : List UInt8} {k a : Nat} {V : Option Nat} (h : digV a (l.drop k) = V) (hk : k < l.length) :
    ((48 ≤ (l[k]'hk).toNat ∧ (l[k]'hk).toNat ≤ 57) → digV (10 * a + ((l[k]'hk).toNat - 48)) (l.drop (k + 1)) = V) ∧ (¬ (48 ≤ (l[k]'hk).toNat ∧ (l[k]'hk).toNat ≤ 57) → V = none) := by
  rw [List.drop_eq_getElem_cons hk, digV] at h
  constructor
  · intro hd; rw [if_pos hd] at h; exact h
  · intro hd; rw [if_neg hd] at h; exact h.symm
theorem byte_lt (x : UInt8) : x.toNat < 256 := x.toNat_lt
set_option maxHeartbeats 2000000 in
set_option maxRecDepth 8000 in
theorem readDigits_any (t : ByteArray)  (w : World) :
    Calls Tryd.prog 15 #[.string t, .int .i64 6] w fun e w' => e = .returned (digR (smallV t.data.toList)) ∧ w = w' := by
  obtain ⟨l, hl, hs, HX⟩ : ∃ l : List UInt8, t.data.toList = l ∧ l.length = t.size ∧ Hid (∀ (k : Nat) (hk : k < l.length) w, (Instr.index 9 (.string t) (.int .i64 (k : Int))).run Tryd.prog w = .ok (.int .u8 (((l[k]'hk).toNat : Nat) : Int)) w) :=
    ⟨t.data.toList, rfl, by rw [Array.length_toList]; rfl, Lib.hid (idx_str t)⟩
  rw [hl]
  by_cases h0 : t.size = 0
  · have e0 : smallV l = none := by
      have : l = [] := List.eq_nil_of_length_eq_zero (by omega)
      simp [smallV, this]
    rw [e0]
    have h0' : (t.size : Int) = 0 := by omega
    clear hs HX hl
    go_enter Tryd.func15, Tryd.ntmps15
    go_wp2
    go_ret2
    exact ⟨rfl, rfl⟩
  by_cases h6 : 6 < t.size
  · have e0 : smallV l = none := by
      unfold smallV; rw [if_pos (Or.inr (by omega))]
    rw [e0]
    have h6' : (6 : Int) < (t.size : Int) := by omega
    have h0' : ¬ ((t.size : Int) = 0) := by omega
    clear hs HX hl
    go_enter Tryd.func15, Tryd.ntmps15
    go_wp2
    go_ret2
    exact ⟨rfl, rfl⟩
  obtain ⟨V, hV⟩ : ∃ V, digV 0 l = V := ⟨_, rfl⟩
  have eV : smallV l = V := by
    unfold smallV
    rw [if_neg (by
      rintro (h | h)
      · rw [h] at hs; simp at hs; omega
      · omega), hV]
  rw [eV]
  have D0 : Hid (digV 0 (l.drop 0) = V ∧ (0 : Nat) < 10 ^ 0) := Lib.hid ⟨by rw [List.drop_zero, hV], by decide⟩
  have n0 : (1 : Int) ≤ (t.size : Int) := by omega
  have n6 : (t.size : Int) ≤ 6 := by omega
  have nz : ((t.size : Int) == 0) = false := beq_eq_false_iff_ne.2 (by omega)
  clear eV hV hl
  go_enter Tryd.func15, Tryd.ntmps15
  go_wp2
  go_loopw [6, 19] (fun vn vk wr => ∃ (a k : Nat), k ≤ t.size ∧ vk = .int .i64 (k : Int) ∧ vn = .int .i64 (a : Int) ∧ wr = w ∧ Hid (digV a (l.drop k) = V ∧ a < 10 ^ k)) (fun _ vk _ => t.size - (intOf vk).toNat)
  case atStart => exact ⟨0, 0, by omega, rfl, rfl, rfl, D0⟩
  case round =>
    obtain ⟨a, k, hk, rfl, rfl, rfl, HD⟩ := hrel
    by_cases hlt : k < t.size
    · have tk : (k : Int) < (t.size : Int) := by omega
      have hx := HX.out k (by omega)
      have hat := digV_at HD.out.1 (by omega : k < l.length)
      have hb := byte_lt (l[k]'(by omega))
      have hp : 10 ^ k ≤ 10 ^ 5 := Nat.pow_le_pow_right (by decide) (by omega)
      have ha : (a : Int) < 100000 := by have := HD.out.2; have e5 : (10 : Nat) ^ 5 = 100000 := by decide
                                         omega
      have hnx : 10 * a + ((l[k]'(by omega)).toNat - 48) < 10 ^ (k + 1) ∨ ¬ ((l[k]'(by omega)).toNat ≤ 57) := by
        have := HD.out.2
        rw [Nat.pow_succ]
        omega
      generalize (l[k]'(by omega)).toNat = x at hx hat hb hnx
      by_cases hd : 48 ≤ x ∧ x ≤ 57
      · have HN : Hid (digV (10 * a + (x - 48)) (l.drop (k + 1)) = V ∧ 10 * a + (x - 48) < 10 ^ (k + 1)) := Lib.hid ⟨hat.1 hd, by rcases hnx with h | h; exact h; omega⟩
        have d1 : (48 : Int) ≤ (x : Int) := by omega
        have d2 : (x : Int) ≤ 57 := by omega
        have b1 : decide ((x : Int) < 48) = false := by simp; omega
        have b2 : decide ((57 : Int) < (x : Int)) = false := by simp; omega
        have ew : IntKind.u8.wrap ((x : Int) - 48) = (x : Int) - 48 := by rw [IntKind.wrap_u8]; omega
        have ei : IntKind.i64.wrap ((x : Int) - 48) = (x : Int) - 48 := by rw [IntKind.wrap_i64]; omega
        have m0 : (0 : Int) ≤ (a : Int) := by omega
        have m1 : (0 : Int) ≤ (x : Int) - 48 := by omega
        have m2 : (x : Int) - 48 ≤ 9 := by omega
        clear hat hnx HD hp
        go_wp2
        go_roundw
        case rel => exact ⟨10 * a + (x - 48), k + 1, by omega, by go_num, by go_num, (by first | rfl | trivial), HN⟩
        case measure => simp [intOf]; omega
      · have hV := hat.2 hd
        subst hV
        clear hat hnx HD hp D0
        by_cases d1 : x < 48
        · have d1' : (x : Int) < 48 := by omega
          go_wp2
          go_ret2
          exact ⟨rfl, rfl⟩
        · have d1' : ¬ ((x : Int) < 48) := by omega
          have d2' : (57 : Int) < (x : Int) := by omega
          go_wp2
          go_ret2
          exact ⟨rfl, rfl⟩
    · obtain rfl : k = t.size := by omega
      have hV : V = some a := by
        have := HD.out.1
        rw [List.drop_of_length_le (by omega)] at this
        exact this.symm
      subst hV
      clear HD D0
      go_wp2
      go_ret2
      exact ⟨rfl, rfl⟩
set_option maxHeartbeats 2000000 in
set_option maxRecDepth 8000 in
theorem l01Small_any (t : ByteArray) (h6 : t.size ≤ 6) (w : World) :
    Calls Tryd.prog 23 #[.string t] w fun e w' => e = .returned (.int .i64 <| smallI (smallV t.data.toList)) ∧ w = w' := by
  obtain ⟨l, hl, hs, HX⟩ : ∃ l : List UInt8, t.data.toList = l ∧ l.length = t.size ∧ Hid (∀ (k : Nat) (hk : k < l.length) w, (Instr.index 9 (.string t) (.int .i64 (k : Int))).run Tryd.prog w = .ok (.int .u8 (((l[k]'hk).toNat : Nat) : Int)) w) :=
    ⟨t.data.toList, rfl, by rw [Array.length_toList]; rfl, Lib.hid (idx_str t)⟩
  rw [hl]
  by_cases h0 : t.size = 0
  · have e0 : smallV l = none := by
      have : l = [] := List.eq_nil_of_length_eq_zero (by omega)
      simp [smallV, this]
    rw [e0]
    have h0' : (t.size : Int) = 0 := by omega
    clear hs HX hl
    go_enter Tryd.func23, Tryd.ntmps23
    go_wp2
    go_ret
    exact ⟨rfl, rfl⟩
  obtain ⟨V, hV⟩ : ∃ V, digV 0 l = V := ⟨_, rfl⟩
  have eV : smallV l = V := by
    unfold smallV
    rw [if_neg (by
      rintro (h | h)
      · rw [h] at hs; simp at hs; omega
      · omega), hV]
  rw [eV]
  have D0 : Hid (digV 0 (l.drop 0) = V ∧ (0 : Nat) < 10 ^ 0) := Lib.hid ⟨by rw [List.drop_zero, hV], by decide⟩
  have n0 : (1 : Int) ≤ (t.size : Int) := by omega
  have n6 : (t.size : Int) ≤ 6 := by omega
  have nz : ((t.size : Int) == 0) = false := beq_eq_false_iff_ne.2 (by omega)
  clear eV hV hl
  go_enter Tryd.func23, Tryd.ntmps23
  go_wp2
  go_loopw [3, 4] (fun vn vk wr => ∃ (a k : Nat), k ≤ t.size ∧ vk = .int .i64 (k : Int) ∧ vn = .int .i64 (a : Int) ∧ wr = w ∧ Hid (digV a (l.drop k) = V ∧ a < 10 ^ k)) (fun _ vk _ => t.size - (intOf vk).toNat)
  case atStart => exact ⟨0, 0, by omega, rfl, rfl, rfl, D0⟩
  case round =>
    obtain ⟨a, k, hk, rfl, rfl, rfl, HD⟩ := hrel
    by_cases hlt : k < t.size
    · have tk : (k : Int) < (t.size : Int) := by omega
      have hx := HX.out k (by omega)
      have hat := digV_at HD.out.1 (by omega : k < l.length)
      have hb := byte_lt (l[k]'(by omega))
      have hp : 10 ^ k ≤ 10 ^ 5 := Nat.pow_le_pow_right (by decide) (by omega)
      have ha : (a : Int) < 100000 := by have := HD.out.2; have e5 : (10 : Nat) ^ 5 = 100000 := by decide
                                         omega
      have hnx : 10 * a + ((l[k]'(by omega)).toNat - 48) < 10 ^ (k + 1) ∨ ¬ ((l[k]'(by omega)).toNat ≤ 57) := by
        have := HD.out.2
        rw [Nat.pow_succ]
        omega
      generalize (l[k]'(by omega)).toNat = x at hx hat hb hnx
      by_cases hd : 48 ≤ x ∧ x ≤ 57
      · have HN : Hid (digV (10 * a + (x - 48)) (l.drop (k + 1)) = V ∧ 10 * a + (x - 48) < 10 ^ (k + 1)) := Lib.hid ⟨hat.1 hd, by rcases hnx with h | h; exact h; omega⟩
        have d1 : (48 : Int) ≤ (x : Int) := by omega
        have d2 : (x : Int) ≤ 57 := by omega
        have b1 : decide ((x : Int) < 48) = false := by simp; omega
        have b2 : decide ((57 : Int) < (x : Int)) = false := by simp; omega
        have ew : IntKind.u8.wrap ((x : Int) - 48) = (x : Int) - 48 := by rw [IntKind.wrap_u8]; omega
        have ei : IntKind.i64.wrap ((x : Int) - 48) = (x : Int) - 48 := by rw [IntKind.wrap_i64]; omega
        have m0 : (0 : Int) ≤ (a : Int) := by omega
        have m1 : (0 : Int) ≤ (x : Int) - 48 := by omega
        have m2 : (x : Int) - 48 ≤ 9 := by omega
        clear hat hnx HD hp
        have em : IntKind.i64.wrap ((a : Int) * 10) = (a : Int) * 10 := by rw [IntKind.wrap_i64]; omega
        have en : IntKind.i64.wrap ((a : Int) * 10 + ((x : Int) - 48)) = (a : Int) * 10 + ((x : Int) - 48) := by rw [IntKind.wrap_i64]; omega
        go_wp2
        go_roundw
        case rel => exact ⟨10 * a + (x - 48), k + 1, by omega, by go_num, by go_num, (by first | rfl | trivial), HN⟩
        case measure => simp [intOf]; omega
      · have hV := hat.2 hd
        subst hV
        clear hat hnx HD hp D0
        by_cases d1 : x < 48
        · have d1' : (x : Int) < 48 := by omega
          go_wp2
          go_ret
          exact ⟨rfl, rfl⟩
        · have d1' : ¬ ((x : Int) < 48) := by omega
          have d2' : (57 : Int) < (x : Int) := by omega
          go_wp2
          go_ret
          exact ⟨rfl, rfl⟩
    · obtain rfl : k = t.size := by omega
      have hV : V = some a := by
        have := HD.out.1
        rw [List.drop_of_length_le (by omega)] at this
        exact this.symm
      subst hV
      clear HD D0
      go_wp2
      go_ret
      exact ⟨rfl, rfl⟩
end Go.Proofs.YtaihooljphkpeaaDoor
