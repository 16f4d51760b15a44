/-
  CONTRACTS: the program's readWord, ValidWord, readWords.
-/
import Derived.Test.YtdcphheeapmjcaaIw
import Derived.Lib.Bytealg
import Derived.Laws.Externs
import Derived.Deep.OwnRows
import Derived.RangeFuncRecord
namespace Go.Proofs.Ytdcphheeapmjcaa
open Go.ChangeShapes Go.WideShapes Go.ChangeAt Go.RowKit
open Wd
theorem idx_let (c : UInt8) : Lib.indexByte [97, 65, 98, 66, 99, 67, 100, 68] c = lnum c := by
  by_cases h0 : c = 97; · subst h0; decide
  by_cases h1 : c = 65; · subst h1; decide
  by_cases h2 : c = 98; · subst h2; decide
  by_cases h3 : c = 66; · subst h3; decide
  by_cases h4 : c = 99; · subst h4; decide
  by_cases h5 : c = 67; · subst h5; decide
  by_cases h6 : c = 100; · subst h6; decide
  by_cases h7 : c = 68; · subst h7; decide
  simp [Lib.indexByte, lnum, h0, h1, h2, h3, h4, h5, h6, h7, Ne.symm h0, Ne.symm h1, Ne.symm h2, Ne.symm h3, Ne.symm h4, Ne.symm h5, Ne.symm h6, Ne.symm h7, beq_eq_false_iff_ne.2 (Ne.symm h0)]
set_option maxRecDepth 100000 in
set_option maxHeartbeats 1000000 in
theorem lite_any (s : ByteArray) (c : Int) (w : World) :
    Calls Try.prog 115 #[.string s, .int .u8 c] w fun e w' => e = .returned (.int .i64 (Lib.indexByte s.data.toList c.toNat.toUInt8)) ∧ w = w' := by
  go_enter Try.func115, Try.ntmps115
  go_wp2
  rw [run_callFunc_extern Try.func124 (by kernel_rfl) (by kernel_rfl) (by kernel_rfl) (e := Extern.BytealgIndexByte.indexByte) (by kernel_rfl), Lib.run_indexByteString]
  simp only [Result.andThen]
  rw [Oper.upon_value]
  go_wp2
  go_ret
  exact ⟨rfl, rfl⟩
theorem index_let (c : UInt8) (w : World) :
    Calls Try.prog 98 #[.string { data := #[97, 65, 98, 66, 99, 67, 100, 68] }, .int .u8 ((c.toNat : Nat) : Int)] w fun e w' => e = .returned (.int .i64 (lnum c)) ∧ w = w' := by
  have h : Hid (∀ w, Calls Try.prog 115 #[.string { data := #[97, 65, 98, 66, 99, 67, 100, 68] }, .int .u8 ((c.toNat : Nat) : Int)] w fun e w' => e = .returned (.int .i64 (lnum c)) ∧ w = w') := Lib.hid fun w => by
    have := lite_any { data := #[97, 65, 98, 66, 99, 67, 100, 68] } ((c.toNat : Nat) : Int) w
    rw [Int.toNat_natCast] at this
    have e : c.toNat.toUInt8 = c := by simp
    rw [e] at this
    rw [← idx_let c]; exact this
  go_enter Try.func98, Try.ntmps98
  go_wp2_with (go_at_call 115; refine (h.out _).mono ?_; rintro e w' ⟨rfl, rfl⟩)
  go_ret
  exact ⟨rfl, rfl⟩
/-- a row of n cells of which the first k hold the numbers of letters, the others zeros -/
def rowL (l : List UInt8) (k n : Nat) : Array Value := ((List.range n).map fun i => if i < k then Value.int .u8 (lnum (l[i]?.getD 97)) else Value.int .u8 0).toArray
theorem rowL_size (l : List UInt8) (k n : Nat) : (rowL l k n).size = n := by simp [rowL]
theorem rowL_get (l : List UInt8) (k n i : Nat) (h : i < n) : (rowL l k n)[i]? = some (if i < k then Value.int .u8 (lnum (l[i]?.getD 97)) else Value.int .u8 0) := by simp [rowL, h]
theorem rowL_set (l : List UInt8) (k n : Nat) (h : k < n) (c : UInt8) (hc : l[k]?.getD 97 = c) : (rowL l k n).setIfInBounds k (.int .u8 (lnum c)) = rowL l (k + 1) n := by
  apply Array.ext_getElem?
  intro i
  rw [Array.getElem?_setIfInBounds]
  by_cases hi : i < n
  · rw [rowL_get l (k + 1) n i hi]
    by_cases hk : k = i
    · subst hk
      rw [if_pos rfl, if_pos (by rw [rowL_size]; exact h), if_pos (by omega), hc]
    · rw [if_neg hk, rowL_get l k n i hi]
      congr 1
      by_cases h1 : i < k
      · rw [if_pos h1, if_pos (by omega)]
      · rw [if_neg h1, if_neg (by omega)]
  · have e1 : (rowL l (k + 1) n)[i]? = none := Array.getElem?_eq_none (by rw [rowL_size]; omega)
    have e2 : (rowL l k n)[i]? = none := Array.getElem?_eq_none (by rw [rowL_size]; omega)
    rw [e1]
    by_cases hk : k = i
    · omega
    · rw [if_neg hk, e2]
theorem rowL_made (l : List UInt8) (n : Nat) : madeCells #[.int .u8 0] n = rowL l 0 n := by
  apply Array.ext_getElem?
  intro i
  by_cases hi : i < n
  · rw [rowL_get _ _ _ _ hi]
    simp [madeCells, hi, Nat.mod_one]
  · rw [Array.getElem?_eq_none (by simp [madeCells]; omega), Array.getElem?_eq_none (by rw [rowL_size]; omega)]
theorem rowL_full (l : List UInt8) : (rowL l l.length l.length).toList = numC l := by
  apply List.ext_getElem?
  intro i
  by_cases hi : i < l.length
  · have := rowL_get l l.length l.length i hi
    rw [Array.getElem?_toList, this, if_pos hi, numC_at l i hi, List.getElem?_eq_getElem hi]; rfl
  · rw [List.getElem?_eq_none (by rw [Array.length_toList, rowL_size]; omega), List.getElem?_eq_none (by rw [numC_len]; omega)]
theorem make_let (l : List UInt8) (n : Nat) (h : n ≤ 1048576) (w : World) : (Instr.makeSlice 71 (.int .i64 (n : Int)) (.int .i64 (n : Int))).run Try.prog w = .ok (.slice (some ⟨w.heap.size, 0, none⟩) n n) (w.alloc (.cells (rowL l 0 n) 84)) := by
  rw [← rowL_made]
  exact run_make_row' 71 84 (.int .u8 0) 1 Try.underlying71 info_let rfl .i64 .i64 n (by omega) (by omega) w
theorem own_full (l : List UInt8) (h : l.length ≤ 1048576) (w : World) : OwnL w.heap.size (.slice (some ⟨w.heap.size, 0, none⟩) l.length l.length) l (w.alloc (.cells (rowL l l.length l.length) 84)) := by
  refine ⟨by rw [numC_len, Nat.mul_one], .inr ⟨w.heap.size, l.length, rowL l l.length l.length, rfl, Nat.le_refl _, World.alloc_heap_new w _, Nat.le_refl _, by unfold maxLen; omega, by rw [rowL_size, Nat.mul_one], ?_⟩⟩
  rw [rowL_full, Nat.mul_one, List.take_of_length_le (by rw [numC_len]; exact Nat.le_refl _)]
theorem read_yes (l : List UInt8) (h : wordB l = true) (w : World) :
    Calls Try.prog 64 #[.string (txt l)] w fun e w' => ∃ v, e = .returned (.tuple #[v, .int .i64 0]) ∧ OwnL w.heap.size v l w' ∧ Below w.heap.size w w' := by
  have hs := txt_size l
  have hl := wordB_len h
  have HL := Lib.hid (wordB_lets h)
  have hl' : (l.length : Int) ≤ 40 := by omega
  have hmk := make_let l l.length (by omega)
  have t1 : decide ((40 : Int) < (l.length : Int)) = false := by simp; omega
  go_enter Try.func64, Try.ntmps64
  go_wp2
  go_loopw [15] (fun i wr => ∃ k : Nat, k ≤ l.length ∧ i = .int .i64 (k : Int) ∧ wr = w.alloc (.cells (rowL l k l.length) 84)) (fun i _ => l.length - (intOf i).toNat)
  case atStart => exact ⟨0, Nat.zero_le _, rfl, rfl⟩
  case round =>
    obtain ⟨k, hk, rfl, rfl⟩ := hrel
    by_cases hlt : k < l.length
    · have hi := idx_txt l k hlt
      have t2 : decide (k < l.length) = true := by simpa using hlt
      obtain ⟨h0, h7⟩ := lnum_yes (HL.out l[k] (List.getElem_mem hlt))
      have g2 : (rowL l k l.length)[k]? = some (.int .u8 0) := by rw [rowL_get _ _ _ _ hlt, if_neg (by omega)]
      have hset := rowL_set l k l.length hlt l[k] (by rw [List.getElem?_eq_getElem hlt]; rfl)
      have hii := Lib.hid (index_let l[k])
      have HK := Lib.hid hlt
      generalize l[k] = c at hi h0 h7 hset hii
      go_wp2_with (go_at_call 98; with_reducible refine (hii.out _).mono ?_; rintro e w' ⟨rfl, rfl⟩)
      go_roundw
      case rel => exact ⟨k + 1, HK.out, by go_num, rfl⟩
      case measure => have := HK.out; simp [intOf]; omega
    · obtain rfl : k = l.length := by omega
      have O := Lib.hid (own_full l (by omega) w)
      go_wp2
      go_ret2
      exact ⟨_, rfl, O.out, (Below.refl _ _).alloc (Nat.le_refl _) _⟩
theorem read_no (l : List UInt8) (hm : l.length ≤ 4000000) (h : wordB l = false) (w : World) :
    Calls Try.prog 64 #[.string (txt l)] w fun e w' => e = .returned (.tuple #[.slice none 0 0, .int .i64 1]) ∧ Below w.heap.size w w' := by
  have hs := txt_size l
  by_cases hl : l.length ≤ 40
  · have HN : Hid (lets l = false) := Lib.hid (by unfold wordB at h; rw [Bool.and_eq_false_iff] at h; rcases h with h | h; exact h; simp at h; omega)
    have hl' : (l.length : Int) ≤ 40 := by omega
    have hmk := make_let l l.length (by omega)
    have t1 : decide ((40 : Int) < (l.length : Int)) = false := by simp; omega
    go_enter Try.func64, Try.ntmps64
    go_wp2
    go_loopw [15] (fun i wr => ∃ k : Nat, k ≤ l.length ∧ i = .int .i64 (k : Int) ∧ lets (l.take k) = true ∧ wr = w.alloc (.cells (rowL l k l.length) 84)) (fun i _ => l.length - (intOf i).toNat)
    case atStart => exact ⟨0, Nat.zero_le _, rfl, rfl, rfl⟩
    case round =>
      obtain ⟨k, hk, rfl, hlt0, rfl⟩ := hrel
      have HL := Lib.hid hlt0
      clear hlt0
      by_cases hlt : k < l.length
      · have hi := idx_txt l k hlt
        have t2 : decide (k < l.length) = true := by simpa using hlt
        have g2 : (rowL l k l.length)[k]? = some (.int .u8 0) := by rw [rowL_get _ _ _ _ hlt, if_neg (by omega)]
        have hset := rowL_set l k l.length hlt l[k] (by rw [List.getElem?_eq_getElem hlt]; rfl)
        have hii := Lib.hid (index_let l[k])
        have HT : Hid (isL l[k] = true → lets (l.take (k + 1)) = true) := Lib.hid (by
          intro hc
          rw [take_snoc l k hlt]
          have := HL.out
          unfold lets at this ⊢
          rw [List.all_append, this]; simp [hc])
        have HK := Lib.hid hlt
        generalize l[k] = c at hi hset hii HT
        cases hc : isL c
        · have hn := lnum_no hc
          clear hc
          go_wp2_with (go_at_call 98; with_reducible refine (hii.out _).mono ?_; rintro e w' ⟨rfl, rfl⟩; rw [hn])
          go_ret2
          exact ⟨rfl, (Below.refl _ _).alloc (Nat.le_refl _) _⟩
        · obtain ⟨h0, h7⟩ := lnum_yes hc
          have HT2 := Lib.hid (HT.out hc)
          clear hc
          go_wp2_with (go_at_call 98; with_reducible refine (hii.out _).mono ?_; rintro e w' ⟨rfl, rfl⟩)
          go_roundw
          case rel => exact ⟨k + 1, HK.out, by go_num, HT2.out, rfl⟩
          case measure => have := HK.out; simp [intOf]; omega
      · exfalso
        obtain rfl : k = l.length := by omega
        have := HL.out
        rw [List.take_length, HN.out] at this
        cases this
  · have t1 : decide ((40 : Int) < (l.length : Int)) = true := by simp; omega
    go_enter Try.func64, Try.ntmps64
    go_wp2
    go_ret2
    exact ⟨rfl, Below.refl _ _⟩
/-- the first number of two that isn't 0 -/
theorem or64_any (g : Nat) (a b : Int) (w : World) (h0 : w.cell? ⟨g, 0, none⟩ = some (.int .i64 a)) (h1 : w.cell? ⟨g, 1, none⟩ = some (.int .i64 b)) :
    Calls Try.prog 62 #[.slice (some ⟨g, 0, none⟩) 2 2] w fun e w' => e = .returned (.int .i64 (if a = 0 then b else a)) ∧ w = w' := by
  by_cases ha : a = 0
  · subst ha
    rw [if_pos rfl]
    by_cases hb : b = 0
    · subst hb
      go_enter Try.func62, Try.ntmps62
      go_wp2
      refine wp_loop_rounds 3 ?_
      repeat (rw [rounds_succ]; go_wp2)
      go_ret
      exact ⟨rfl, rfl⟩
    · have t1 : (!(b == 0)) = true := by simp [hb]
      go_enter Try.func62, Try.ntmps62
      go_wp2
      refine wp_loop_rounds 3 ?_
      repeat (rw [rounds_succ]; go_wp2)
      go_ret
      exact ⟨rfl, rfl⟩
  · rw [if_neg ha]
    have t1 : (!(a == 0)) = true := by simp [ha]
    go_enter Try.func62, Try.ntmps62
    go_wp2
    refine wp_loop_rounds 3 ?_
    repeat (rw [rounds_succ]; go_wp2)
    go_ret
    exact ⟨rfl, rfl⟩
end Go.Proofs.Ytdcphheeapmjcaa
