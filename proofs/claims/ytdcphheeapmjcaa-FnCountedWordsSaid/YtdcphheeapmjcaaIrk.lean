/-
  CONTRACT: the program's RankReduced.
-/
import Derived.Test.YtdcphheeapmjcaaIch
import Derived.Test.YtdcphheeapmjcaaWdk
namespace Go.Proofs.Ytdcphheeapmjcaa
open Go.ChangeShapes Go.WideShapes Go.ChangeAt Go.RowKit
open Wd
/-- the rank as the program counts it up -/
def hor (g : Int) (l : List UInt8) : Nat → Int
  | 0 => 0
  | i + 1 => hor g l i * (if i = 0 then 2 * g else 2 * g - 1) + chAt l i
theorem innR_none (each : Int) (x : Nat) : innR none each x = each * x := by
  induction x with
  | zero => simp [innR]
  | succ x ih => unfold innR; rw [if_neg (by simp), ih]; push_cast; rw [Int.mul_add, Int.mul_one]
theorem innR_some (each : Int) (d : UInt8) (hd : isL d = true) (x : Nat) (hx : x ≤ 7) : innR (some d) each x = each * ((x : Int) - (if lnum (oth d) < (x : Int) then 1 else 0)) := by
  obtain rfl | rfl | rfl | rfl | rfl | rfl | rfl | rfl : x = 0 ∨ x = 1 ∨ x = 2 ∨ x = 3 ∨ x = 4 ∨ x = 5 ∨ x = 6 ∨ x = 7 := by omega
  all_goals
    rcases lcases hd with rfl | rfl | rfl | rfl | rfl | rfl | rfl | rfl
    all_goals
      simp [innR, letB, oth, lnum]
      try omega
theorem chAt_nonneg (l : List UInt8) (hl : ∀ c ∈ l, isL c = true) (i : Nat) : 0 ≤ chAt l i ∧ chAt l i ≤ 7 := by
  have key : ∀ j : Nat, isL (l[j]?.getD 97) = true := by
    intro j
    by_cases h : j < l.length
    · rw [List.getElem?_eq_getElem h]; exact hl _ (List.getElem_mem h)
    · rw [List.getElem?_eq_none (by omega)]; decide
  obtain ⟨a, b⟩ := lnum_yes (key i)
  obtain ⟨c, d⟩ := lnum_yes (oth_isL (key (i - 1)))
  unfold chAt
  split <;> omega
theorem innR_ch (l : List UInt8) (hl : ∀ c ∈ l, isL c = true) (i : Nat) (hi : i < l.length) (each : Int) : innR (prevL l i) each (lnum (l[i]?.getD 0)).toNat = each * chAt l i := by
  have e1 : l[i]?.getD 0 = l[i] := by rw [List.getElem?_eq_getElem hi]; rfl
  have e2 : l[i]?.getD 97 = l[i] := by rw [List.getElem?_eq_getElem hi]; rfl
  obtain ⟨a, b⟩ := lnum_yes (hl _ (List.getElem_mem hi))
  unfold prevL chAt
  rw [e1, e2]
  by_cases h0 : i = 0
  · rw [if_pos h0, innR_none, if_neg (by omega), Int.toNat_of_nonneg a, Int.sub_zero]
  · have hp : i - 1 < l.length := by omega
    have e3 : l[i - 1]?.getD 97 = l[i - 1] := by rw [List.getElem?_eq_getElem hp]; rfl
    rw [if_neg h0, List.getElem?_eq_getElem hp, innR_some _ _ (hl _ (List.getElem_mem hp)) _ (by omega), Int.toNat_of_nonneg a, Option.getD_some]
    congr 2
    by_cases hx : lnum (oth l[i - 1]) < lnum l[i]
    · rw [if_pos hx, if_pos ⟨by omega, hx⟩]
    · rw [if_neg hx, if_neg (fun h => hx h.2)]
theorem ways_true (g : Int) (q : Nat) : ways g true (q + 1) = ways g true q * (2 * g - 1) := by
  show (if q = 0 ∧ true = false then _ else _) = _
  rw [if_neg (fun h => by cases h.2)]
theorem rank_hor (g : Int) (l : List UInt8) (hl : ∀ c ∈ l, isL c = true) (i : Nat) (hi : i ≤ l.length) : rankTo g l i = hor g l i * ways g true (l.length - i) := by
  induction i with
  | zero => simp [rankTo, hor]
  | succ i ih =>
    obtain ⟨q, hq⟩ : ∃ q, l.length = i + q + 1 := ⟨l.length - i - 1, by omega⟩
    have h1 := ih (by omega)
    unfold rankTo hor
    rw [innR_ch l hl i (by omega), h1, show l.length - i = q + 1 by omega, show l.length - (i + 1) = q by omega, Nat.add_sub_cancel, ways_true]
    by_cases h0 : i = 0
    · subst h0; simp [hor, Int.mul_comm]
    · rw [if_neg h0, Int.add_mul, Int.mul_comm (ways g true q) (chAt l i)]
      congr 1
      rw [Int.mul_comm (ways g true q) (2 * g - 1), Int.mul_assoc]
theorem hor_nonneg {g : Int} (h1 : 1 ≤ g) (l : List UInt8) (hl : ∀ c ∈ l, isL c = true) (i : Nat) : 0 ≤ hor g l i := by
  induction i with
  | zero => simp [hor]
  | succ i ih =>
    unfold hor
    have := (chAt_nonneg l hl i).1
    have : 0 ≤ hor g l i * (if i = 0 then 2 * g else 2 * g - 1) := Int.mul_nonneg ih (by split <;> omega)
    omega
theorem hor_le {g : Int} (h1 : 1 ≤ g) (h2 : g ≤ 4) (l : List UInt8) (hl : ∀ c ∈ l, isL c = true) (hm : l.length ≤ 12) (i : Nat) (hi : i ≤ l.length) : hor g l i ≤ 6597069766656 := by
  have e := rank_hor g l hl i hi
  obtain ⟨-, b⟩ := rankTo_le h1 h2 hm i
  obtain ⟨c, -⟩ := ways_le h1 h2 true (k := l.length - i) (by omega)
  have n := hor_nonneg h1 l hl i
  have : hor g l i * 1 ≤ hor g l i * ways g true (l.length - i) := Int.mul_le_mul_of_nonneg_left c n
  rw [← e] at this
  omega
theorem hor_all (g : Int) (l : List UInt8) (hl : ∀ c ∈ l, isL c = true) : hor g l l.length = rankTo g l l.length := by
  rw [rank_hor g l hl l.length (Nat.le_refl _), Nat.sub_self]
  simp [ways]
set_option maxHeartbeats 2000000 in
theorem irank_any (g : Int) (l : List UInt8) (hm : l.length ≤ 4000000) (w : World) :
    Calls Try.prog 47 #[.int .i64 g, .string (txt l)] w fun e w' => e = .returned (.tuple #[.int .i64 (rankR g l), .int .i64 (rankC g l)]) ∧ Below w.heap.size w w' := by
  have hr := Lib.hid (readred_any g l hm)
  have hm' : (l.length : Int) ≤ 4000000 := by omega
  by_cases h : givenC g l = 0
  · obtain ⟨⟨h1, h2⟩, hb⟩ := given_zero h
    have HL := Lib.hid (wordB_lets hb)
    have HC := Lib.hid h
    by_cases h12 : l.length ≤ 12
    · have hR : Hid (rankR g l = hor g l l.length ∧ rankC g l = 0) := Lib.hid (by unfold rankR rankC; rw [if_pos h, if_pos h12, if_pos h, if_pos h12, hor_all g l HL.out]; exact ⟨rfl, rfl⟩)
      rw [hR.out.1, hR.out.2]
      have t0 : decide ((12 : Int) < (l.length : Int)) = false := by simp; omega
      have hn12 : (l.length : Int) ≤ 12 := by omega
      have HH : Hid (∀ i, i ≤ l.length → 0 ≤ hor g l i ∧ hor g l i ≤ 6597069766656) := Lib.hid fun i hi => ⟨hor_nonneg h1 l HL.out i, hor_le h1 h2 l HL.out h12 i hi⟩
      have CN := Lib.hid (chAt_nonneg l HL.out)
      have hch : Hid (∀ k : Nat, k ≤ 4000000 → ∀ w, Calls Try.prog 55 #[.int .i64 g, .int .i64 (k : Int)] w fun e w' => e = .returned (.int .i64 (if k = 0 then 2 * g else 2 * g - 1)) ∧ w = w') := Lib.hid (choices_any g h1 h2)
      clear hb h h12 hm' hR
      go_enter Try.func47, Try.ntmps47
      go_wp2_with fail
      refine (hr.out _).mono ?_
      rintro e w1 ⟨v, rfl, hL, B⟩
      rw [HC.out]
      have hL' := hL HC.out
      obtain ⟨a0, cap0, rfl⟩ := hL'.len
      have B1 := Lib.hid B
      have hcs := Lib.hid (choices_l_any _ l HL.out (by omega) w1 hL')
      clear hL hL' B
      go_wp2_with fail
      refine hcs.out.mono ?_
      rintro e w2 ⟨gb, rfl, hgb, hrow, B2⟩
      have HROW : Hid (∀ k, k < l.length → w2.cell? ⟨gb, k, none⟩ = some (.int .i64 (chAt l k))) := Lib.hid fun k hk => (Lib.cell_of_heap hrow k).trans (rowF_get _ _ _ hk)
      have BB : Hid (Below w.heap.size w w2) := Lib.hid (B1.out.trans (B2.mono B1.out.size))
      clear hrow B2 hcs B1 hgb
      go_wp2
      go_loopw [8, 26] (fun r i wr => ∃ k : Nat, k ≤ l.length ∧ i = .int .i64 (k : Int) ∧ r = .int .i64 (hor g l k) ∧ w2 = wr) (fun _ i _ => l.length - (intOf i).toNat)
      case atStart => exact ⟨0, Nat.zero_le _, rfl, rfl, rfl⟩
      case round =>
        obtain ⟨k, hk, rfl, rfl, rfl⟩ := hrel
        by_cases hlt : k < l.length
        · have t1 : decide (k < l.length) = true := by simpa using hlt
          have HK := Lib.hid hlt
          have hcell := HROW.out k hlt
          have hk' : (k : Int) ≤ 12 := by omega
          have hc := Lib.hid (hch.out k (by omega))
          obtain ⟨a1, a2⟩ := HH.out k hk
          obtain ⟨b1, b2⟩ := HH.out (k + 1) (by omega)
          obtain ⟨c1, c2⟩ := CN.out k
          have HS : Hid (hor g l (k + 1) = hor g l k * (if k = 0 then 2 * g else 2 * g - 1) + chAt l k) := Lib.hid rfl
          rw [HS.out] at b1 b2
          have HP : Hid (0 ≤ hor g l k * (if k = 0 then 2 * g else 2 * g - 1)) := Lib.hid (Int.mul_nonneg a1 (by split <;> omega))
          have hp := HP.out
          clear hlt hk HP
          generalize hor g l k = x at HS a1 a2 b1 b2 hp
          generalize (if k = 0 then 2 * g else 2 * g - 1) = y at HS hc b1 b2 hp
          generalize chAt l k = z at HS hcell b1 b2 c1 c2
          go_wp2_with (go_at_call 55; with_reducible refine (hc.out _).mono ?_; rintro e w' ⟨rfl, rfl⟩)
          go_roundw
          case rel => exact ⟨k + 1, HK.out, by go_num, by rw [HS.out], trivial⟩
          case measure => have := HK.out; simp [intOf]; omega
        · obtain rfl : k = l.length := by omega
          go_wp2
          go_ret2
          exact ⟨rfl, BB.out⟩
    · have hR : Hid (rankR g l = 0 ∧ rankC g l = 3) := Lib.hid (by unfold rankR rankC; rw [if_pos h, if_neg h12, if_pos h, if_neg h12]; exact ⟨rfl, rfl⟩)
      rw [hR.out.1, hR.out.2]
      have t0 : decide ((12 : Int) < (l.length : Int)) = true := by simp; omega
      clear hb h h12 hR
      go_enter Try.func47, Try.ntmps47
      go_wp2_with fail
      refine (hr.out _).mono ?_
      rintro e w1 ⟨v, rfl, hL, B⟩
      rw [HC.out]
      obtain ⟨a0, cap0, rfl⟩ := (hL HC.out).len
      clear hL
      go_wp2
      go_ret2
      exact ⟨rfl, B⟩
  · have hR : Hid (rankR g l = 0 ∧ rankC g l = givenC g l) := Lib.hid (by unfold rankR rankC; rw [if_neg h, if_neg h]; exact ⟨rfl, rfl⟩)
    rw [hR.out.1, hR.out.2]
    unfold RrPost at hr
    generalize givenC g l = c at h hr
    have t0 : ((c : Int) == 0) = false := by rw [beq_eq_false_iff_ne]; exact h
    clear h hR
    go_enter Try.func47, Try.ntmps47
    go_wp2_with fail
    refine (hr.out _).mono ?_
    rintro e w1 ⟨v, rfl, -, B⟩
    go_wp2
    go_ret2
    exact ⟨rfl, B⟩
end Go.Proofs.Ytdcphheeapmjcaa
