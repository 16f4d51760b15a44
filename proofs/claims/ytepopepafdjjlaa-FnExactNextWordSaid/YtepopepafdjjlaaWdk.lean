/-
  The specification's RankReduced on every input; its law, given the program's own contract.
-/
import Derived.Test.YtepopepafdjjlaaWdy
import Derived.Test.YtepopepafdjjlaaWdx
namespace Go.Proofs.Ytepopepafdjjlaa
open Go.ChangeShapes Go.WideShapes Go.ChangeAt Go.RowKit
open Wd
/-- the rank and its code -/
def rankR (g : Int) (l : List UInt8) : Int := if givenC g l = 0 then (if l.length ≤ 12 then rankTo g l l.length else 0) else 0
def rankC (g : Int) (l : List UInt8) : Int := if givenC g l = 0 then (if l.length ≤ 12 then 0 else 3) else givenC g l
theorem given_zero {g : Int} {l : List UInt8} (h : givenC g l = 0) : (1 ≤ g ∧ g ≤ 4) ∧ wordB l = true := by
  unfold givenC at h
  split at h
  · rename_i hb
    split at h
    · rename_i hg; exact ⟨hg, hb⟩
    · cases h
  · cases h
theorem rank_any (g : Int) (l : List UInt8) (hm : l.length ≤ 4000000) (w : World) :
    Calls Try.prog 33 #[.int .i64 g, .string (txt l)] w fun e w' => e = .returned (.tuple #[.int .i64 (rankR g l), .int .i64 (rankC g l)]) ∧ Below w.heap.size w w' := by
  have hs := txt_size l
  have hm' : (l.length : Int) ≤ 4000000 := by omega
  have GA := Lib.hid (given_any g l hm)
  by_cases h : givenC g l = 0
  · obtain ⟨⟨h1, h2⟩, hb⟩ := given_zero h
    by_cases h12 : l.length ≤ 12
    · unfold rankR rankC
      rw [if_pos h, if_pos h12, if_pos h, if_pos h12]
      exact rank_core g h1 h2 l (wordB_lets hb) h12 h w
    · unfold rankR rankC
      rw [if_pos h, if_neg h12, if_pos h, if_neg h12]
      rw [h] at GA
      have t0 : decide ((12 : Int) < (l.length : Int)) = true := by simp; omega
      clear h12 hb h
      go_enter Try.func33, Try.ntmps33
      go_wp2_with (go_at_call 59; with_reducible refine (GA.out _).mono ?_; rintro e w0 ⟨rfl, b0⟩)
      go_ret2
      exact ⟨rfl, b0⟩
  · unfold rankR rankC
    rw [if_neg h, if_neg h]
    generalize givenC g l = c at h GA
    have t0 : ((c : Int) == 0) = false := by rw [beq_eq_false_iff_ne]; exact h
    clear h
    go_enter Try.func33, Try.ntmps33
    go_wp2_with (go_at_call 59; with_reducible refine (GA.out _).mono ?_; rintro e w0 ⟨rfl, b0⟩)
    go_ret2
    exact ⟨rfl, b0⟩
theorem law_RankReduced (hI : ∀ (g : Int) (l : List UInt8), l.length ≤ 4000000 → ∀ w, Calls Try.prog 34 #[.int .i64 g, .string (txt l)] w fun e w' => e = .returned (.tuple #[.int .i64 (rankR g l), .int .i64 (rankC g l)]) ∧ Below w.heap.size w w') (g : Int) (l : List UInt8) (w : World) :
    Calls Try.prog 12 #[.int .i64 g, .string (txt l)] w fun e w' => e = .returned (.bool true) ∧ Below w.heap.size w w' := by
  have hs := txt_size l
  by_cases hm : l.length ≤ 1048576
  · have hm' : (l.length : Int) ≤ 1048576 := by omega
    have t1 : decide ((1048576 : Int) < (l.length : Int)) = false := by simp; omega
    have h1 := Lib.hid (hI g l (by omega))
    have h2 := Lib.hid (rank_any g l (by omega))
    clear hI
    generalize rankR g l = R at h1 h2
    generalize rankC g l = C at h1 h2
    go_enter Try.func12, Try.ntmps12
    go_wp2_with (first | (go_at_call 33; refine (h2.out _).mono ?_; rintro e w1 ⟨rfl, B1⟩) | (go_at_call 34; refine (h1.out _).mono ?_; rintro e w2 ⟨rfl, B2⟩))
    go_ret
    exact ⟨rfl, B1.trans (B2.mono B1.size)⟩
  · have t1 : decide ((1048576 : Int) < (l.length : Int)) = true := by simp; omega
    clear hI
    go_enter Try.func12, Try.ntmps12
    go_wp2
    go_ret
    exact ⟨rfl, Below.refl _ _⟩
end Go.Proofs.Ytepopepafdjjlaa
