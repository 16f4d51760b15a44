/-
  CONTRACTS: the specification's words: which texts are words, inverses, reduced words.
-/
import Derived.Test.YtdcphheeapmjcaaWdc
import Derived.Test.YtdcphheeapmjcaaOwn
import Derived.Deep.QuietTactic
import Derived.BigQuiet
import Derived.StillTailTactics
namespace Go.Proofs.Ytdcphheeapmjcaa
open Go.ChangeShapes Go.WideShapes Go.ChangeAt Go.RowKit
open Wd
/-- a text of a list of bytes -/
def txt (l : List UInt8) : ByteArray := ⟨l.toArray⟩
theorem txt_list (t : ByteArray) : txt t.data.toList = t := by simp [txt]
theorem txt_size (l : List UInt8) : (txt l).size = l.length := by simp [txt, ByteArray.size]
theorem idx_txt (l : List UInt8) (k : Nat) (hk : k < l.length) (w : World) :
    (Instr.index 9 (.string (txt l)) (.int .i64 (k : Int))).run Try.prog w = .ok (.int .u8 (((l[k]'hk).toNat : Nat) : Int)) w := by
  rw [run_index_string w 9 (txt l) .i64 _ Try.underlying9, dif_pos ⟨by omega, by rw [txt_size]; omega⟩]
  simp [txt]
  rfl
theorem ok_any (l : List UInt8) (hm : l.length ≤ 4000000) (w : World) :
    Calls Try.prog 58 #[.string (txt l)] w fun e w' => e = .returned (.bool (wordB l)) ∧ w = w' := by
  have hs := txt_size l
  have hm' : (l.length : Int) ≤ 4000000 := by omega
  go_enter Try.func58, Try.ntmps58
  go_wp2
  go_loop [3] (fun i => ∃ k : Nat, k ≤ l.length ∧ i = .int .i64 k ∧ lets (l.take k) = true) (fun i => l.length - (intOf i).toNat)
  case atStart => exact ⟨0, Nat.zero_le _, rfl, rfl⟩
  case round =>
    obtain ⟨k, hk, rfl, hl⟩ := hrel
    have HL := Lib.hid hl
    clear hl
    by_cases hlt : k < l.length
    · have hi := idx_txt l k hlt
      have t1 : decide (k < l.length) = true := by simpa using hlt
      cases hc : isL l[k]
      · have hn := lnum_no hc
        have R : Hid (wordB l = false) := Lib.hid (by
          unfold wordB lets
          rw [Bool.and_eq_false_iff]
          left
          rw [← Bool.not_eq_true, List.all_eq_true]
          intro h
          have := h l[k] (List.getElem_mem hlt)
          rw [hc] at this; cases this)
        clear hc
        go_wp2_with (go_at_call 63; refine (letter_any _ _).mono ?_; rintro e w' ⟨rfl, rfl⟩)
        go_ret
        exact ⟨ret_bool (by rw [R.out]), rfl⟩
      · obtain ⟨h0, h7⟩ := lnum_yes hc
        have t2 : decide (lnum l[k] < 0) = false := by simp; omega
        have R : Hid (lets (l.take (k + 1)) = true) := Lib.hid (by
          rw [take_snoc l k hlt]
          unfold lets at HL ⊢
          rw [List.all_append, HL.out]; simp [hc])
        clear hc
        go_wp2_with (go_at_call 63; refine (letter_any _ _).mono ?_; rintro e w' ⟨rfl, rfl⟩)
        go_round
        case rel => exact ⟨k + 1, by omega, by go_num, R.out⟩
        case measure => simp [intOf]; omega
    · obtain rfl : k = l.length := by omega
      have R : Hid (wordB l = decide (l.length ≤ 40)) := Lib.hid (by
        have h := HL.out
        rw [List.take_length] at h
        unfold wordB; rw [h]; rfl)
      go_wp2
      go_ret
      exact ⟨ret_bool (by rw [R.out]; simp <;> omega), rfl⟩
theorem other_0 (w : World) : Calls Try.prog 112 #[.int .u8 97] w fun e w' => e = .returned (.int .u8 65) ∧ w = w' := by
  have hlet : ∀ w, Calls Try.prog 63 #[.int .u8 97] w fun e w' => e = .returned (.int .i64 0) ∧ w = w' := letter_at 97 0 (by simp)
  have HL := Lib.hid hlet
  clear hlet
  have e0 : (({ data := #[97, 65, 98, 66, 99, 67, 100, 68] } : ByteArray)[1]'(by decide)).toNat = 65 := rfl
  go_enter Try.func112, Try.ntmps112
  go_wp2_with (go_at_call 63; refine (HL.out _).mono ?_; rintro e w' ⟨rfl, rfl⟩)
  go_ret
  exact ⟨rfl, rfl⟩
theorem other_1 (w : World) : Calls Try.prog 112 #[.int .u8 65] w fun e w' => e = .returned (.int .u8 97) ∧ w = w' := by
  have hlet : ∀ w, Calls Try.prog 63 #[.int .u8 65] w fun e w' => e = .returned (.int .i64 1) ∧ w = w' := letter_at 65 1 (by simp)
  have HL := Lib.hid hlet
  clear hlet
  have e0 : (({ data := #[97, 65, 98, 66, 99, 67, 100, 68] } : ByteArray)[0]'(by decide)).toNat = 97 := rfl
  go_enter Try.func112, Try.ntmps112
  go_wp2_with (go_at_call 63; refine (HL.out _).mono ?_; rintro e w' ⟨rfl, rfl⟩)
  go_ret
  exact ⟨rfl, rfl⟩
theorem other_2 (w : World) : Calls Try.prog 112 #[.int .u8 98] w fun e w' => e = .returned (.int .u8 66) ∧ w = w' := by
  have hlet : ∀ w, Calls Try.prog 63 #[.int .u8 98] w fun e w' => e = .returned (.int .i64 2) ∧ w = w' := letter_at 98 2 (by simp)
  have HL := Lib.hid hlet
  clear hlet
  have e0 : (({ data := #[97, 65, 98, 66, 99, 67, 100, 68] } : ByteArray)[3]'(by decide)).toNat = 66 := rfl
  go_enter Try.func112, Try.ntmps112
  go_wp2_with (go_at_call 63; refine (HL.out _).mono ?_; rintro e w' ⟨rfl, rfl⟩)
  go_ret
  exact ⟨rfl, rfl⟩
theorem other_3 (w : World) : Calls Try.prog 112 #[.int .u8 66] w fun e w' => e = .returned (.int .u8 98) ∧ w = w' := by
  have hlet : ∀ w, Calls Try.prog 63 #[.int .u8 66] w fun e w' => e = .returned (.int .i64 3) ∧ w = w' := letter_at 66 3 (by simp)
  have HL := Lib.hid hlet
  clear hlet
  have e0 : (({ data := #[97, 65, 98, 66, 99, 67, 100, 68] } : ByteArray)[2]'(by decide)).toNat = 98 := rfl
  go_enter Try.func112, Try.ntmps112
  go_wp2_with (go_at_call 63; refine (HL.out _).mono ?_; rintro e w' ⟨rfl, rfl⟩)
  go_ret
  exact ⟨rfl, rfl⟩
theorem other_4 (w : World) : Calls Try.prog 112 #[.int .u8 99] w fun e w' => e = .returned (.int .u8 67) ∧ w = w' := by
  have hlet : ∀ w, Calls Try.prog 63 #[.int .u8 99] w fun e w' => e = .returned (.int .i64 4) ∧ w = w' := letter_at 99 4 (by simp)
  have HL := Lib.hid hlet
  clear hlet
  have e0 : (({ data := #[97, 65, 98, 66, 99, 67, 100, 68] } : ByteArray)[5]'(by decide)).toNat = 67 := rfl
  go_enter Try.func112, Try.ntmps112
  go_wp2_with (go_at_call 63; refine (HL.out _).mono ?_; rintro e w' ⟨rfl, rfl⟩)
  go_ret
  exact ⟨rfl, rfl⟩
theorem other_5 (w : World) : Calls Try.prog 112 #[.int .u8 67] w fun e w' => e = .returned (.int .u8 99) ∧ w = w' := by
  have hlet : ∀ w, Calls Try.prog 63 #[.int .u8 67] w fun e w' => e = .returned (.int .i64 5) ∧ w = w' := letter_at 67 5 (by simp)
  have HL := Lib.hid hlet
  clear hlet
  have e0 : (({ data := #[97, 65, 98, 66, 99, 67, 100, 68] } : ByteArray)[4]'(by decide)).toNat = 99 := rfl
  go_enter Try.func112, Try.ntmps112
  go_wp2_with (go_at_call 63; refine (HL.out _).mono ?_; rintro e w' ⟨rfl, rfl⟩)
  go_ret
  exact ⟨rfl, rfl⟩
theorem other_6 (w : World) : Calls Try.prog 112 #[.int .u8 100] w fun e w' => e = .returned (.int .u8 68) ∧ w = w' := by
  have hlet : ∀ w, Calls Try.prog 63 #[.int .u8 100] w fun e w' => e = .returned (.int .i64 6) ∧ w = w' := letter_at 100 6 (by simp)
  have HL := Lib.hid hlet
  clear hlet
  have e0 : (({ data := #[97, 65, 98, 66, 99, 67, 100, 68] } : ByteArray)[7]'(by decide)).toNat = 68 := rfl
  go_enter Try.func112, Try.ntmps112
  go_wp2_with (go_at_call 63; refine (HL.out _).mono ?_; rintro e w' ⟨rfl, rfl⟩)
  go_ret
  exact ⟨rfl, rfl⟩
theorem other_7 (w : World) : Calls Try.prog 112 #[.int .u8 68] w fun e w' => e = .returned (.int .u8 100) ∧ w = w' := by
  have hlet : ∀ w, Calls Try.prog 63 #[.int .u8 68] w fun e w' => e = .returned (.int .i64 7) ∧ w = w' := letter_at 68 7 (by simp)
  have HL := Lib.hid hlet
  clear hlet
  have e0 : (({ data := #[97, 65, 98, 66, 99, 67, 100, 68] } : ByteArray)[6]'(by decide)).toNat = 100 := rfl
  go_enter Try.func112, Try.ntmps112
  go_wp2_with (go_at_call 63; refine (HL.out _).mono ?_; rintro e w' ⟨rfl, rfl⟩)
  go_ret
  exact ⟨rfl, rfl⟩
theorem other_any (c : UInt8) (h : isL c = true) (w : World) :
    Calls Try.prog 112 #[.int .u8 ((c.toNat : Nat) : Int)] w fun e w' => e = .returned (.int .u8 (((oth c).toNat : Nat) : Int)) ∧ w = w' := by
  rcases lcases h with rfl | rfl | rfl | rfl | rfl | rfl | rfl | rfl
  · exact other_0 w
  · exact other_1 w
  · exact other_2 w
  · exact other_3 w
  · exact other_4 w
  · exact other_5 w
  · exact other_6 w
  · exact other_7 w
end Go.Proofs.Ytdcphheeapmjcaa
