/-
  CONTRACT: the program's CountReduced.
-/
import Derived.Test.YtdcphheeapmjcaaWdx
namespace Go.Proofs.Ytdcphheeapmjcaa
open Go.ChangeShapes Go.WideShapes Go.ChangeAt Go.RowKit
theorem isgen_yes (g : Int) (h1 : 1 ≤ g) (h2 : g ≤ 4) (w : World) :
    Calls Try.prog 84 #[.int .i64 g] w fun e w' => e = .returned (.bool true) ∧ w = w' := by
  go_enter Try.func84, Try.ntmps84
  go_wp2
  go_ret
  exact ⟨rfl, rfl⟩
theorem isgen_no (g : Int) (h : g < 1 ∨ 4 < g) (w : World) :
    Calls Try.prog 84 #[.int .i64 g] w fun e w' => e = .returned (.bool false) ∧ w = w' := by
  rcases h with h | h
  · go_enter Try.func84, Try.ntmps84
    go_wp2
    go_ret
    exact ⟨rfl, rfl⟩
  · have h1 : 1 ≤ g := by omega
    have h2 : decide (g ≤ 4) = false := by simp; omega
    go_enter Try.func84, Try.ntmps84
    go_wp2
    go_ret
    exact ⟨rfl, rfl⟩
theorem choices_any (g : Int) (h1 : 1 ≤ g) (h2 : g ≤ 4) (k : Nat) (hk : k ≤ 4000000) (w : World) :
    Calls Try.prog 55 #[.int .i64 g, .int .i64 (k : Int)] w fun e w' => e = .returned (.int .i64 (if k = 0 then 2 * g else 2 * g - 1)) ∧ w = w' := by
  cases k with
  | zero =>
    go_enter Try.func55, Try.ntmps55
    go_wp2
    go_ret
    exact ⟨rfl, rfl⟩
  | succ j =>
    have t5 : (((j : Int) + 1) == 0) = false := by rw [beq_eq_false_iff_ne]; omega
    rw [if_neg (Nat.succ_ne_zero j)]
    go_enter Try.func55, Try.ntmps55
    go_wp2
    go_ret
    exact ⟨rfl, rfl⟩
theorem ways_step (g : Int) (k : Nat) : ways g false (k + 1) = ways g false k * (if k = 0 then 2 * g else 2 * g - 1) := by
  show (if k = 0 ∧ false = false then _ else _) = _
  by_cases h : k = 0
  · rw [if_pos ⟨h, rfl⟩, if_pos h, Int.mul_assoc]
  · rw [if_neg (fun x => h x.1), if_neg h]
def crPost (g n : Int) (w : World) (e : Ending) (w' : World) : Prop :=
  e = .returned (.tuple #[.int .i64 (if (1 ≤ g ∧ g ≤ 4) ∧ 0 ≤ n ∧ n ≤ 12 then ways g false n.toNat else 0), .int .i64 (if (1 ≤ g ∧ g ≤ 4) ∧ 0 ≤ n ∧ n ≤ 12 then 0 else 2)]) ∧ w = w'
set_option maxHeartbeats 1000000 in
theorem icount_any (g n : Int) (w : World) : Calls Try.prog 46 #[.int .i64 g, .int .i64 n] w (crPost g n w) := by
  by_cases h1 : 1 ≤ g ∧ g ≤ 4
  · have hy : Hid (∀ w, Calls Try.prog 84 #[.int .i64 g] w fun e w' => e = .returned (.bool true) ∧ w = w') := Lib.hid (isgen_yes g h1.1 h1.2)
    by_cases h2 : 0 ≤ n ∧ n ≤ 12
    · obtain ⟨m, rfl⟩ : ∃ m : Nat, n = (m : Int) := ⟨n.toNat, by omega⟩
      have hm : m ≤ 12 := by omega
      have hm' : (m : Int) ≤ 12 := by omega
      have P : Hid (∀ e w', (e = .returned (.tuple #[.int .i64 (ways g false m), .int .i64 0]) ∧ w = w') → crPost g m w e w') := Lib.hid (by
        rintro e w' ⟨rfl, rfl⟩
        unfold crPost
        rw [if_pos ⟨h1, h2⟩, if_pos ⟨h1, h2⟩, Int.toNat_natCast]
        exact ⟨rfl, rfl⟩)
      have hch : Hid (∀ k : Nat, k ≤ 4000000 → ∀ w, Calls Try.prog 55 #[.int .i64 g, .int .i64 (k : Int)] w fun e w' => e = .returned (.int .i64 (if k = 0 then 2 * g else 2 * g - 1)) ∧ w = w') := Lib.hid (choices_any g h1.1 h1.2)
      have hwl : Hid (∀ {k : Nat}, k ≤ 12 → 1 ≤ ways g false k ∧ ways g false k ≤ 68719476736) := Lib.hid (ways_le h1.1 h1.2 false)
      have hst := Lib.hid (ways_step g)
      clear h1 h2
      go_enter Try.func46, Try.ntmps46
      go_wp2_with (go_at_call 84; with_reducible refine (hy.out _).mono ?_; rintro e w' ⟨rfl, rfl⟩)
      go_loopw [6, 20] (fun x i wr => ∃ k : Nat, k ≤ m ∧ i = .int .i64 (k : Int) ∧ x = .int .i64 (ways g false k) ∧ w = wr) (fun _ i _ => m - (intOf i).toNat)
      case atStart => exact ⟨0, Nat.zero_le _, rfl, rfl, rfl⟩
      case round =>
        obtain ⟨k, hk, rfl, rfl, rfl⟩ := hrel
        by_cases hlt : k < m
        · have t1 : decide (k < m) = true := by simpa using hlt
          have HK := Lib.hid hlt
          have WS := Lib.hid (hst.out k)
          obtain ⟨i1, i2⟩ := hwl.out (k := k) (by omega)
          obtain ⟨i3, i4⟩ := hwl.out (k := k + 1) (by omega)
          rw [WS.out] at i3 i4
          have hk' : (k : Int) ≤ 12 := by omega
          have hc := Lib.hid (hch.out k (by omega))
          clear hlt hk
          generalize ways g false k = x at WS i1 i2 i3 i4
          generalize (if k = 0 then 2 * g else 2 * g - 1) = y at WS hc i3 i4
          go_wp2_with (go_at_call 55; with_reducible refine (hc.out _).mono ?_; rintro e w' ⟨rfl, rfl⟩)
          go_roundw
          case rel => exact ⟨k + 1, HK.out, by go_num, by rw [WS.out], trivial⟩
          case measure => have := HK.out; simp [intOf]; omega
        · obtain rfl : k = m := by omega
          go_wp2
          go_ret2
          exact P.out _ _ ⟨rfl, rfl⟩
    · have P : Hid (∀ e w', (e = .returned (.tuple #[.int .i64 0, .int .i64 2]) ∧ w = w') → crPost g n w e w') := Lib.hid (by
        rintro e w' ⟨rfl, rfl⟩
        unfold crPost
        rw [if_neg (fun h => h2 h.2), if_neg (fun h => h2 h.2)]
        exact ⟨rfl, rfl⟩)
      have ho : n < 0 ∨ 12 < n := by omega
      clear h1 h2
      rcases ho with ho | ho
      · go_enter Try.func46, Try.ntmps46
        go_wp2_with (go_at_call 84; with_reducible refine (hy.out _).mono ?_; rintro e w' ⟨rfl, rfl⟩)
        go_ret2
        exact P.out _ _ ⟨rfl, rfl⟩
      · have ho2 : 0 ≤ n := by omega
        go_enter Try.func46, Try.ntmps46
        go_wp2_with (go_at_call 84; with_reducible refine (hy.out _).mono ?_; rintro e w' ⟨rfl, rfl⟩)
        go_ret2
        exact P.out _ _ ⟨rfl, rfl⟩
  · have hy : Hid (∀ w, Calls Try.prog 84 #[.int .i64 g] w fun e w' => e = .returned (.bool false) ∧ w = w') := Lib.hid (isgen_no g (by omega))
    have P : Hid (∀ e w', (e = .returned (.tuple #[.int .i64 0, .int .i64 2]) ∧ w = w') → crPost g n w e w') := Lib.hid (by
      rintro e w' ⟨rfl, rfl⟩
      unfold crPost
      rw [if_neg (fun h => h1 h.1), if_neg (fun h => h1 h.1)]
      exact ⟨rfl, rfl⟩)
    clear h1
    go_enter Try.func46, Try.ntmps46
    go_wp2_with (go_at_call 84; with_reducible refine (hy.out _).mono ?_; rintro e w' ⟨rfl, rfl⟩)
    go_ret2
    exact P.out _ _ ⟨rfl, rfl⟩
end Go.Proofs.Ytdcphheeapmjcaa
