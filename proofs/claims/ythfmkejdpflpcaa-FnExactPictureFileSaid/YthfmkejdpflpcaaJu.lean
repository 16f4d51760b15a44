/-
  MARKS ON BLOCKS.
-/
import Derived.Test.YthfmkejdpflpcaaJk
namespace Go.Proofs.Ythfmkejdpflpcaa
open Go.ChangeShapes Go.WideShapes Go.ChangeAt Go.RowKit
/-- N cells of a block that can be written -/
def WrB (g N : Nat) (w : World) : Prop := ∀ j, j < N → (∃ v, w.cell? ⟨g, j, none⟩ = some v) ∧ w.frozen? ⟨g, j, none⟩ = false
theorem WrB.put {g N : Nat} {w : World} (h : WrB g N w) (i : Nat) (v : Value) : WrB g N (w.setCell ⟨g, i, none⟩ v) := fun j hj => by
  obtain ⟨⟨x, hx⟩, hf⟩ := h j hj
  exact ⟨⟨_, cell_set hx⟩, by rw [World.frozen?_setCell]; exact hf⟩
set_option maxRecDepth 20000 in
set_option maxHeartbeats 4000000 in
theorem markBS_any (g cap n : Nat) (hn : n ≤ 1048576) (w : World) (ho : WrB g (18 * n) w) :
    Calls Try.prog 21 #[.slice (some ⟨g, 0, none⟩) n cap, .int .i64 1] w fun e w' => e = .returned (.int .i64 ((1 + 18 * n : Nat) : Int)) ∧ Onl g w w' := by
  have HO := Lib.hid ho
  have HO2 : Hid (Onl g w w) := Lib.hid (Onl.refl _ _)
  have hn' : (n : Int) ≤ 1048576 := by omega
  clear ho
  go_enter Try.func21, Try.ntmps21
  go_wp2
  go_loopw [1, 5] (fun q i wr => ∃ k : Nat, k ≤ n ∧ i = .int .i64 k ∧ q = .int .i64 ((1 + 18 * k : Nat) : Int) ∧ Hid (WrB g (18 * n) wr) ∧ Hid (Onl g w wr)) (fun _ i _ => n - (intOf i).toNat)
  case atStart => exact ⟨0, Nat.zero_le _, rfl, rfl, HO, HO2⟩
  case round =>
    obtain ⟨k, hk, rfl, rfl, HM, HB⟩ := hrel
    clear HO HO2
    by_cases hlt : k < n
    · have hlt' : (k : Int) < n := by omega
      go_wp2
      go_loopw [1, 6] (fun q i wr' => ∃ j : Nat, j ≤ 2 ∧ i = .int .i64 j ∧ q = .int .i64 ((1 + (18 * k + j) : Nat) : Int) ∧ Hid (WrB g (18 * n) wr') ∧ Hid (Onl g w wr')) (fun _ i _ => 2 - (intOf i).toNat)
      case atStart => exact ⟨0, Nat.zero_le _, rfl, rfl, HM, HB⟩
      case round =>
        obtain ⟨j, hj, rfl, rfl, HM2, HB2⟩ := hrel
        clear HM HB
        by_cases hj2 : j < 2
        · have hj3 : (j : Int) < 2 := by omega
          obtain ⟨⟨x, hx⟩, hf⟩ := HM2.out (18 * k + j) (by omega)
          have e : 18 * k + j = k * 18 + j := by omega
          rw [e] at hx hf
          have HP : Hid (∀ v, WrB g (18 * n) (wr.setCell ⟨g, k * 18 + j, none⟩ v)) := Lib.hid fun v => HM2.out.put _ v
          have HQ : Hid (∀ v, Onl g w (wr.setCell ⟨g, k * 18 + j, none⟩ v)) := Lib.hid fun v => HB2.out.put
          clear e
          go_wp2
          go_roundw
          case rel => exact ⟨j + 1, by omega, by go_num, by go_num, Lib.hid (HP.out _), Lib.hid (HQ.out _)⟩
          case measure => simp [intOf]; omega
        · obtain rfl : j = 2 := by omega
          clear hj hj2
          go_wp2
          go_loopw [1, 7] (fun q i wr' => ∃ j : Nat, j ≤ 16 ∧ i = .int .i64 j ∧ q = .int .i64 ((1 + (18 * k + 2 + j) : Nat) : Int) ∧ Hid (WrB g (18 * n) wr') ∧ Hid (Onl g w wr')) (fun _ i _ => 16 - (intOf i).toNat)
          case atStart => exact ⟨0, Nat.zero_le _, rfl, by go_num, HM2, HB2⟩
          case round =>
            obtain ⟨j, hj, rfl, rfl, HM3, HB3⟩ := hrel
            clear HM2 HB2
            by_cases hj2 : j < 16
            · have hj3 : (j : Int) < 16 := by omega
              obtain ⟨⟨x, hx⟩, hf⟩ := HM3.out (18 * k + 2 + j) (by omega)
              have e : 18 * k + 2 + j = k * 18 + 2 + j := by omega
              rw [e] at hx hf
              have HP : Hid (∀ v, WrB g (18 * n) (wr.setCell ⟨g, k * 18 + 2 + j, none⟩ v)) := Lib.hid fun v => HM3.out.put _ v
              have HQ : Hid (∀ v, Onl g w (wr.setCell ⟨g, k * 18 + 2 + j, none⟩ v)) := Lib.hid fun v => HB3.out.put
              clear e
              go_wp2
              go_roundw
              case rel => exact ⟨j + 1, by omega, by go_num, by go_num, Lib.hid (HP.out _), Lib.hid (HQ.out _)⟩
              case measure => simp [intOf]; omega
            · obtain rfl : j = 16 := by omega
              clear hj hj2
              go_wp2
              go_roundw
              case rel => exact ⟨k + 1, by omega, by go_num, by go_num, HM3, HB3⟩
              case measure => simp [intOf]; omega
    · obtain rfl : k = n := by omega
      go_wp2
      go_ret
      exact ⟨by rfl, HB.out⟩
end Go.Proofs.Ythfmkejdpflpcaa
