/-
  CONTRACT: the specification's code of a number of generators and a reduced word.
-/
import Derived.Test.YtepopepafdjjlaaWdq
import Derived.Test.YtepopepafdjjlaaWdi
namespace Go.Proofs.Ytepopepafdjjlaa
open Go.ChangeShapes Go.WideShapes Go.ChangeAt Go.RowKit
open Wd
/-- every letter is of the generators -/
def gensB (g : Int) (l : List UInt8) : Bool := l.all fun c => decide (lnum c < 2 * g)
/-- the code of a number of generators and a word -/
def givenC (g : Int) (l : List UInt8) : Int := if wordB l then (if 1 ≤ g ∧ g ≤ 4 then (if gensB g l then (if red l = l then 0 else 4) else 2) else 2) else 1
set_option maxHeartbeats 1000000 in
theorem given_any (g : Int) (l : List UInt8) (hm : l.length ≤ 4000000) (w : World) :
    Calls Try.prog 59 #[.int .i64 g, .string (txt l)] w fun e w' => e = .returned (.int .i64 (givenC g l)) ∧ Below w.heap.size w w' := by
  have hs := txt_size l
  have hm' : (l.length : Int) ≤ 4000000 := by omega
  cases hb : wordB l
  · have HG : Hid (givenC g l = 1) := Lib.hid (by unfold givenC; rw [hb]; rfl)
    go_enter Try.func59, Try.ntmps59
    go_wp2_with (go_at_call 39; refine (ok_any _ hm _).mono ?_; rintro e w' ⟨rfl, rfl⟩; rw [hb])
    go_ret
    exact ⟨by rw [HG.out]; rfl, Below.refl _ _⟩
  · have HL := Lib.hid (wordB_lets hb)
    by_cases hg : 1 ≤ g ∧ g ≤ 4
    · have h1 := hg.1
      have h2 := hg.2
      have HG0 : Hid (givenC g l = if gensB g l then (if red l = l then 0 else 4) else 2) := Lib.hid (by unfold givenC; rw [hb, if_pos rfl, if_pos hg])
      clear hg
      go_enter Try.func59, Try.ntmps59
      go_wp2_with (first | (go_at_call 39; refine (ok_any _ hm _).mono ?_; rintro e w' ⟨rfl, rfl⟩; rw [hb]) | (go_at_call 51; refine (l00In_yes _ _ _ h1 h2 _).mono ?_; rintro e w' ⟨rfl, rfl⟩))
      go_loopw [5] (fun i wr => ∃ k : Nat, k ≤ l.length ∧ i = .int .i64 (k : Int) ∧ gensB g (l.take k) = true ∧ w = wr) (fun i _ => l.length - (intOf i).toNat)
      case atStart => exact ⟨0, Nat.zero_le _, rfl, rfl, rfl⟩
      case round =>
        obtain ⟨k, hk, rfl, hd, rfl⟩ := hrel
        have HD := Lib.hid hd
        clear hd
        by_cases hlt : k < l.length
        · have hi := idx_txt l k hlt
          have t1 : decide (k < l.length) = true := by simpa using hlt
          have hk' : (k : Int) ≤ 3999999 := by omega
          have TK : Hid (gensB g (l.take (k + 1)) = decide (lnum l[k] < 2 * g)) := Lib.hid (by
            have h := HD.out
            rw [take_snoc l k hlt]
            unfold gensB at h ⊢
            rw [List.all_append, h]
            simp)
          have IA : Hid (lnum l[k] < 2 * g ∨ gensB g l = false) := Lib.hid (by
            by_cases h : lnum l[k] < 2 * g
            · exact .inl h
            · right
              unfold gensB
              rw [← Bool.not_eq_true, List.all_eq_true]
              intro H
              have := H l[k] (List.getElem_mem hlt)
              simp at this
              omega)
          have HK := Lib.hid hlt
          generalize l[k] = c at hi TK IA
          by_cases hc : lnum c < 2 * g
          · have t2 : decide (2 * g ≤ lnum c) = false := by simp <;> omega
            have HT : Hid (gensB g (l.take (k + 1)) = true) := Lib.hid (by rw [TK.out]; simpa using hc)
            clear hc hlt
            go_wp2_with (go_at_call 60; refine (letter_any _ _).mono ?_; rintro e w' ⟨rfl, rfl⟩)
            go_roundw
            case rel => exact ⟨k + 1, HK.out, by go_num, HT.out, trivial⟩
            case measure => have := HK.out; simp [intOf]; omega
          · have t2 : decide (2 * g ≤ lnum c) = true := by simp <;> omega
            have HG : Hid (givenC g l = 2) := Lib.hid (by rw [HG0.out, IA.out.resolve_left hc]; rfl)
            clear hc hlt
            go_wp2_with (go_at_call 60; refine (letter_any _ _).mono ?_; rintro e w' ⟨rfl, rfl⟩)
            go_ret
            exact ⟨by rw [HG.out]; rfl, Below.refl _ _⟩
        · obtain rfl : k = l.length := by omega
          have HT : Hid (givenC g l = if red l = l then 0 else 4) := Lib.hid (by
            have h := HD.out
            rw [List.take_length] at h
            rw [HG0.out, h]; rfl)
          by_cases hr : red l = l
          · have t3 : ((txt (red l)).toList == (txt l).toList) = true := by rw [txt_beq, hr]; simp
            have HG : Hid (givenC g l = 0) := Lib.hid (by rw [HT.out, if_pos hr])
            clear hr
            go_wp2_with (go_at_call 44; refine (reduce_any l HL.out hm _).mono ?_; rintro e w' ⟨rfl, B⟩)
            go_ret
            exact ⟨by rw [HG.out]; rfl, B⟩
          · have t3 : ((txt (red l)).toList == (txt l).toList) = false := by rw [txt_beq]; simpa using hr
            have HG : Hid (givenC g l = 4) := Lib.hid (by rw [HT.out, if_neg hr])
            clear hr
            go_wp2_with (go_at_call 44; refine (reduce_any l HL.out hm _).mono ?_; rintro e w' ⟨rfl, B⟩)
            go_ret
            exact ⟨by rw [HG.out]; rfl, B⟩
    · have HG : Hid (givenC g l = 2) := Lib.hid (by unfold givenC; rw [hb, if_pos rfl, if_neg hg])
      have ho : g < 1 ∨ 4 < g := by omega
      clear hg
      go_enter Try.func59, Try.ntmps59
      go_wp2_with (first | (go_at_call 39; refine (ok_any _ hm _).mono ?_; rintro e w' ⟨rfl, rfl⟩; rw [hb]) | (go_at_call 51; refine (l00In_no _ _ _ ho _).mono ?_; rintro e w' ⟨rfl, rfl⟩))
      go_ret
      exact ⟨by rw [HG.out]; rfl, Below.refl _ _⟩
end Go.Proofs.Ytepopepafdjjlaa
