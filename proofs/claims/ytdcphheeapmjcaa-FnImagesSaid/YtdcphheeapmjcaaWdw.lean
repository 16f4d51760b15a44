/-
  CONTRACTS: the specification's counts of reduced words.
-/
import Derived.Test.YtdcphheeapmjcaaGa
import Derived.LoopTactic
import Derived.Lib.Hide
namespace Go.Proofs.Ytdcphheeapmjcaa
open Go.ChangeShapes Go.WideShapes Go.ChangeAt Go.RowKit
/-- the number of reduced words of a length behind a letter, or, if there is none, of all -/
def ways (g : Int) (b : Bool) : Nat → Int
  | 0 => 1
  | k + 1 => if k = 0 ∧ b = false then ways g b k * 2 * g else ways g b k * (2 * g - 1)
theorem ways_pos {g : Int} (h1 : 1 ≤ g) (h2 : g ≤ 4) (b : Bool) (k : Nat) : 1 ≤ ways g b k ∧ ways g b k ≤ 8 ^ k := by
  induction k with
  | zero => simp [ways]
  | succ k ih =>
    have e : (8 : Int) ^ (k + 1) = 8 ^ k * 8 := by rw [Int.pow_succ]
    rw [e]
    unfold ways
    obtain ⟨i1, i2⟩ := ih
    generalize (8 : Int) ^ k = P at i2 ⊢
    generalize ways g b k = x at i1 i2 ⊢
    have hg : g = 1 ∨ g = 2 ∨ g = 3 ∨ g = 4 := by omega
    split <;> (rcases hg with rfl | rfl | rfl | rfl <;> omega)
theorem ways_le {g : Int} (h1 : 1 ≤ g) (h2 : g ≤ 4) (b : Bool) {k : Nat} (hk : k ≤ 12) : 1 ≤ ways g b k ∧ ways g b k ≤ 68719476736 := by
  obtain ⟨a, c⟩ := ways_pos h1 h2 b k
  refine ⟨a, Int.le_trans c ?_⟩
  have : (8 : Nat) ^ k ≤ 8 ^ 12 := Nat.pow_le_pow_right (by decide) hk
  have h3 : ((8 ^ k : Nat) : Int) ≤ ((8 ^ 12 : Nat) : Int) := by exact_mod_cast this
  have h4 : ((8 ^ k : Nat) : Int) = (8 : Int) ^ k := by simp
  rw [h4] at h3
  exact h3
theorem counted_any (g n : Int) (w : World) :
    Calls Try.prog 51 #[.int .i64 g, .int .i64 n] w fun e w' => e = .returned (.int .i64 (if (1 ≤ g ∧ g ≤ 4) ∧ 0 ≤ n ∧ n ≤ 12 then 0 else 2)) ∧ w = w' := by
  by_cases h1 : 1 ≤ g ∧ g ≤ 4
  · have hy : Hid (∀ w, Calls Try.prog 52 #[.int .i64 g, .int .i64 1, .int .i64 4] w fun e w' => e = .returned (.bool true) ∧ w = w') := Lib.hid (l00In_yes _ _ _ h1.1 h1.2)
    by_cases h2 : 0 ≤ n ∧ n ≤ 12
    · have hz : Hid (∀ w, Calls Try.prog 52 #[.int .i64 n, .int .i64 0, .int .i64 12] w fun e w' => e = .returned (.bool true) ∧ w = w') := Lib.hid (l00In_yes _ _ _ h2.1 h2.2)
      rw [if_pos ⟨h1, h2⟩]
      clear h1 h2
      go_enter Try.func51, Try.ntmps51
      go_wp2_with (first | (go_at_call 52; with_reducible refine (hy.out _).mono ?_; rintro e w' ⟨rfl, rfl⟩) | (go_at_call 52; with_reducible refine (hz.out _).mono ?_; rintro e w' ⟨rfl, rfl⟩))
      go_ret
      exact ⟨rfl, rfl⟩
    · have hz : Hid (∀ w, Calls Try.prog 52 #[.int .i64 n, .int .i64 0, .int .i64 12] w fun e w' => e = .returned (.bool false) ∧ w = w') := Lib.hid (l00In_no _ _ _ (by omega))
      rw [if_neg (fun h => h2 h.2)]
      clear h1 h2
      go_enter Try.func51, Try.ntmps51
      go_wp2_with (first | (go_at_call 52; with_reducible refine (hy.out _).mono ?_; rintro e w' ⟨rfl, rfl⟩) | (go_at_call 52; with_reducible refine (hz.out _).mono ?_; rintro e w' ⟨rfl, rfl⟩))
      go_ret
      exact ⟨rfl, rfl⟩
  · have hy : Hid (∀ w, Calls Try.prog 52 #[.int .i64 g, .int .i64 1, .int .i64 4] w fun e w' => e = .returned (.bool false) ∧ w = w') := Lib.hid (l00In_no _ _ _ (by omega))
    rw [if_neg (fun h => h1 h.1)]
    clear h1
    go_enter Try.func51, Try.ntmps51
    go_wp2_with (go_at_call 52; with_reducible refine (hy.out _).mono ?_; rintro e w' ⟨rfl, rfl⟩)
    go_ret
    exact ⟨rfl, rfl⟩
set_option maxHeartbeats 1000000 in
theorem ways_any (g : Int) (h1 : 1 ≤ g) (h2 : g ≤ 4) (n : Nat) (hn : n ≤ 12) (b : Bool) (w : World) :
    Calls Try.prog 53 #[.int .i64 g, .int .i64 (n : Int), .bool b] w fun e w' => e = .returned (.int .i64 (ways g b n)) ∧ w = w' := by
  have hn' : (n : Int) ≤ 12 := by omega
  go_enter Try.func53, Try.ntmps53
  go_wp2
  go_loopw [7, 8] (fun x i wr => ∃ k : Nat, k ≤ n ∧ i = .int .i64 (k : Int) ∧ x = .int .i64 (ways g b k) ∧ w = wr) (fun _ i _ => n - (intOf i).toNat)
  case atStart => exact ⟨0, Nat.zero_le _, rfl, rfl, rfl⟩
  case round =>
    obtain ⟨k, hk, rfl, rfl, rfl⟩ := hrel
    by_cases hlt : k < n
    · have t1 : decide (k < n) = true := by simpa using hlt
      have HK := Lib.hid hlt
      have WS : Hid (ways g b (k + 1) = if k = 0 ∧ b = false then ways g b k * 2 * g else ways g b k * (2 * g - 1)) := Lib.hid rfl
      obtain ⟨i1, i2⟩ := ways_le h1 h2 b (Nat.le_trans hk hn)
      generalize ways g b k = x at WS i1 i2
      have hk' : (k : Int) ≤ 12 := by omega
      have hx2 : x * 2 ≤ 137438953472 := by omega
      have hg : g = 1 ∨ g = 2 ∨ g = 3 ∨ g = 4 := by omega
      clear hlt hk
      by_cases h0 : k = 0 ∧ b = false
      · obtain ⟨rfl, rfl⟩ := h0
        have WT : Hid (ways g false (0 + 1) = x * 2 * g) := Lib.hid (by rw [WS.out]; simp)
        rcases hg with rfl | rfl | rfl | rfl
        all_goals
          go_wp2
          go_roundw
          case rel => exact ⟨0 + 1, HK.out, by go_num, by rw [WT.out] <;> (congr 1 <;> omega), trivial⟩
          case measure => have := HK.out; simp [intOf]; omega
      · have WT : Hid (ways g b (k + 1) = x * (2 * g - 1)) := Lib.hid (by rw [WS.out, if_neg h0])
        cases k with
        | zero =>
          obtain rfl : b = true := by cases b <;> simp_all
          clear h0 WS
          rcases hg with rfl | rfl | rfl | rfl
          all_goals
            go_wp2
            go_roundw
            case rel => exact ⟨0 + 1, HK.out, by go_num, by rw [WT.out] <;> (congr 1 <;> omega), trivial⟩
            case measure => have := HK.out; simp [intOf]; omega
        | succ j =>
          have t6 : decide ((j : Int) + 1 < (n : Int)) = true := by simp; have := HK.out; omega
          have t5 : (((j : Int) + 1) == 0) = false := by rw [beq_eq_false_iff_ne]; omega
          clear h0 WS
          rcases hg with rfl | rfl | rfl | rfl
          all_goals
            go_wp2
            go_roundw
            case rel => exact ⟨j + 1 + 1, HK.out, by go_num, by rw [WT.out] <;> (congr 1 <;> omega), trivial⟩
            case measure => have := HK.out; simp [intOf]; omega
    · obtain rfl : k = n := by omega
      go_wp2
      go_ret
      exact ⟨rfl, rfl⟩
end Go.Proofs.Ytdcphheeapmjcaa
