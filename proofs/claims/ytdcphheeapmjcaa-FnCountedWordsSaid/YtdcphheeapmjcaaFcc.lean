/-
  PLAIN MATHEMATICS OF CODES: a word is found again by its code.
-/
import Derived.Test.YtdcphheeapmjcaaWoc
namespace Go.Proofs.Ytdcphheeapmjcaa
open Go.ChangeShapes Go.WideShapes Go.ChangeAt Go.RowKit
open Wd
theorem div_bit (x t : Nat) : x / 2 ^ t % 2 = if x.testBit t then 1 else 0 := by
  have h := Nat.testBit_eq_decide_div_mod_eq (x := x) (i := t)
  have h2 := Nat.mod_lt (x / 2 ^ t) (show 0 < 2 by omega)
  by_cases e : x / 2 ^ t % 2 = 1
  · rw [h, e]; simp
  · rw [h, decide_eq_false e]; simp; omega
theorem cdF_bit {l : List UInt8} (hm : l.length ≤ 40) (q : Nat) (hq : q ≤ 120) (p : Nat) : bitC (cdF l q) p = if p < q ∧ bitW l p = true then 1 else 0 := by
  induction q with
  | zero =>
    unfold bitC cdF
    rw [if_neg (by omega), if_neg (by omega)]
    simp
  | succ q ih =>
    have ih := ih (by omega)
    have hc : cdF l (q + 1) = if bitW l q then updI (cdF l q) (1 + q / 8) (bits .or .u8 (cdF l q (1 + q / 8)) (2 ^ (7 - q % 8))) else cdF l q := rfl
    cases hb : bitW l q
    · rw [hc, hb]
      show bitC (cdF l q) p = _
      rw [ih]
      by_cases e : p = q
      · subst e; rw [if_neg (by omega), if_neg (by rw [hb]; simp)]
      · by_cases h1 : p < q ∧ bitW l p = true
        · rw [if_pos h1, if_pos ⟨by omega, h1.2⟩]
        · rw [if_neg h1, if_neg (fun h => h1 ⟨by omega, h.2⟩)]
    · rw [hc, hb]
      show bitC (updI (cdF l q) (1 + q / 8) (bits .or .u8 (cdF l q (1 + q / 8)) (2 ^ (7 - q % 8)))) p = _
      by_cases e8 : p / 8 = q / 8
      · obtain ⟨x0, x1⟩ := cdF_ok hm q (1 + q / 8)
        obtain ⟨x, hx⟩ : ∃ x : Nat, cdF l q (1 + q / 8) = x := ⟨(cdF l q (1 + q / 8)).toNat, by omega⟩
        have hxl : x < 256 := by omega
        have h2p : (2 : Nat) ^ (7 - q % 8) < 256 := Nat.pow_lt_pow_right (by omega) (show 7 - q % 8 < 8 by omega)
        have e1 : updI (cdF l q) (1 + q / 8) (bits .or .u8 (cdF l q (1 + q / 8)) (2 ^ (7 - q % 8))) (1 + p / 8) = ((x ||| 2 ^ (7 - q % 8) : Nat) : Int) := by
          unfold updI
          rw [if_pos (by rw [e8]), hx, ← bits_or_u8_nat' x _ hxl h2p]
          simp
        have e2 : bitC (cdF l q) p = if x.testBit (7 - p % 8) then 1 else 0 := by
          unfold bitC
          rw [e8, hx, Int.toNat_natCast, div_bit]
        have e3 : bitC (updI (cdF l q) (1 + q / 8) (bits .or .u8 (cdF l q (1 + q / 8)) (2 ^ (7 - q % 8)))) p = if (x.testBit (7 - p % 8) || decide (7 - q % 8 = 7 - p % 8)) then 1 else 0 := by
          unfold bitC
          rw [e1, Int.toNat_natCast, div_bit, Nat.testBit_or, Nat.testBit_two_pow]
        rw [e3]
        by_cases e : p = q
        · subst e; rw [if_pos (by simp), if_pos ⟨by omega, hb⟩]
        · rw [decide_eq_false (by omega), Bool.or_false, ← e2, ih]
          by_cases h1 : p < q ∧ bitW l p = true
          · rw [if_pos h1, if_pos ⟨by omega, h1.2⟩]
          · rw [if_neg h1, if_neg (fun h => h1 ⟨by omega, h.2⟩)]
      · have e1 : bitC (updI (cdF l q) (1 + q / 8) (bits .or .u8 (cdF l q (1 + q / 8)) (2 ^ (7 - q % 8)))) p = bitC (cdF l q) p := by
          unfold bitC updI
          rw [if_neg (by omega)]
        rw [e1, ih]
        have e : p ≠ q := by rintro rfl; exact e8 rfl
        by_cases h1 : p < q ∧ bitW l p = true
        · rw [if_pos h1, if_pos ⟨by omega, h1.2⟩]
        · rw [if_neg h1, if_neg (fun h => h1 ⟨by omega, h.2⟩)]
theorem cdF_head (l : List UInt8) (q : Nat) : cdF l q 0 = l.length := by
  induction q with
  | zero => rfl
  | succ q ih =>
    show (if bitW l q then updI (cdF l q) (1 + q / 8) _ else cdF l q) 0 = _
    split
    · unfold updI; rw [if_neg (by omega)]; exact ih
    · exact ih
theorem num_back {c : UInt8} (hc : isL c = true) : 2 * (2 * (2 * 0 + (if (lnum c).toNat / 2 ^ 2 % 2 = 1 then 1 else 0)) + (if (lnum c).toNat / 2 ^ 1 % 2 = 1 then 1 else 0)) + (if (lnum c).toNat / 2 ^ 0 % 2 = 1 then 1 else 0) = (lnum c).toNat := by
  rcases lcases hc with rfl | rfl | rfl | rfl | rfl | rfl | rfl | rfl <;> decide
/-- THE WORD OF THE CODE OF A WORD IS THE WORD. -/
theorem wcL_cdF {l : List UInt8} (hl : ∀ c ∈ l, isL c = true) (hm : l.length ≤ 40) : wcL (cdF l (3 * l.length)) l.length = l := by
  refine List.ext_getElem (by rw [wcL_length]) fun i h1 h2 => ?_
  rw [wcL_at]
  have hc := hl _ (List.getElem_mem h2)
  have B : ∀ b, b < 3 → bitC (cdF l (3 * l.length)) (3 * i + b) = if (lnum l[i]).toNat / 2 ^ (2 - b) % 2 = 1 then 1 else 0 := fun b hb => by
    rw [cdF_bit hm _ (by omega), bitW_at rfl hb h2]
    by_cases h : (lnum l[i]).toNat / 2 ^ (2 - b) % 2 = 1
    · rw [if_pos ⟨by omega, decide_eq_true h⟩, if_pos h]
    · rw [if_neg (fun x => h (of_decide_eq_true x.2)), if_neg h]
  have e : numP (cdF l (3 * l.length)) i 3 = (lnum l[i]).toNat := by
    show 2 * (2 * (2 * 0 + bitC _ (3 * i + 0)) + bitC _ (3 * i + 1)) + bitC _ (3 * i + 2) = _
    rw [B 0 (by omega), B 1 (by omega), B 2 (by omega)]
    exact num_back hc
  rw [e, chr_lnum hc]
theorem wocOk_code {l : List UInt8} (h : wordB l = true) : wocOk (codeF l) = true ∧ wcL (codeF l) (codeF l 0).toNat = l := by
  have hl := wordB_lets h
  have hm := wordB_len h
  have e : codeF l = cdF l (3 * l.length) := by unfold codeF; rw [if_pos h]
  have e0 : (cdF l (3 * l.length) 0).toNat = l.length := by rw [cdF_head]; simp
  rw [e]
  unfold wocOk
  rw [e0, wcL_cdF hl hm, cdF_head]
  refine ⟨?_, rfl⟩
  rw [Bool.and_eq_true]
  exact ⟨decide_eq_true (by omega), List.all_eq_true.2 fun i _ => by simp⟩
theorem codeF_inj {u w : List UInt8} (hu : wordB u = true) (hw : wordB w = true) : ((List.range 16).all fun i => codeF u i == codeF w i) = decide (u = w) := by
  by_cases e : u = w
  · subst e; rw [decide_eq_true rfl]; simp
  · rw [decide_eq_false e, Bool.eq_false_iff]
    intro h
    apply e
    rw [List.all_eq_true] at h
    have hi : ∀ i, i < 16 → codeF u i = codeF w i := fun i hi => by have := h i (by simpa using hi); simpa using this
    have h40 : (codeF u 0).toNat ≤ 40 := by
      have := wordB_len hu
      unfold codeF
      rw [if_pos hu, cdF_head]
      simpa using this
    rw [← (wocOk_code hu).2, ← (wocOk_code hw).2, hi 0 (by omega)]
    rw [hi 0 (by omega)] at h40
    unfold wcL
    refine List.map_congr_left fun i hi' => ?_
    have hi2 : i < 40 := by have := List.mem_range.1 hi'; omega
    have B : ∀ b, b < 3 → bitC (codeF u) (3 * i + b) = bitC (codeF w) (3 * i + b) := fun b hb => by
      unfold bitC
      rw [hi (1 + (3 * i + b) / 8) (by omega)]
    congr 1
    show 2 * (2 * (2 * 0 + bitC _ (3 * i + 0)) + bitC _ (3 * i + 1)) + bitC _ (3 * i + 2) = 2 * (2 * (2 * 0 + bitC _ (3 * i + 0)) + bitC _ (3 * i + 1)) + bitC _ (3 * i + 2)
    rw [B 0 (by omega), B 1 (by omega), B 2 (by omega)]
theorem codeF_ok {l : List UInt8} (h : wordB l = true) (i : Nat) : 0 ≤ codeF l i ∧ codeF l i ≤ 255 := by
  unfold codeF
  rw [if_pos h]
  exact cdF_ok (wordB_len h) _ i
end Go.Proofs.Ytdcphheeapmjcaa
