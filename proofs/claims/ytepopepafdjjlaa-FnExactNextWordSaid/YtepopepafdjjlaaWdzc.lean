/-
  THE LAW NextWord: both sides.
-/
import Derived.Test.YtepopepafdjjlaaWdzb
namespace Go.Proofs.Ytepopepafdjjlaa
open Go.ChangeShapes Go.WideShapes Go.ChangeAt Go.RowKit Go.Shelf
open Wd
attribute [local go_sem] Oper.semAt_some
theorem NextCh.ex (g : Int) (m : Nat) (f₀ : Nat → Int) : ∃ n f, NextCh g m f₀ n f := by
  have H : ∀ d, d ≤ m → (∃ j, j < m ∧ f₀ j + 1 < chN g j ∧ ∀ i, j < i → i < m → chN g i ≤ f₀ i + 1) ∨ (∀ i, m - d ≤ i → i < m → chN g i ≤ f₀ i + 1) := by
    intro d
    induction d with
    | zero => exact fun _ => .inr (fun i a b => absurd a (by omega))
    | succ d ih =>
      intro hd
      rcases ih (by omega) with h | h
      · exact .inl h
      · by_cases hx : f₀ (m - (d + 1)) + 1 < chN g (m - (d + 1))
        · exact .inl ⟨m - (d + 1), by omega, hx, fun i a b => h i (by omega) b⟩
        · refine .inr fun i a b => ?_
          rcases Nat.lt_or_ge i (m - d) with c | c
          · obtain rfl : i = m - (d + 1) := by omega
            omega
          · exact h i c b
  rcases H m (Nat.le_refl _) with ⟨j, a, b, c⟩ | h
  · exact ⟨_, _, .inl ⟨j, a, b, c, rfl, rfl⟩⟩
  · exact ⟨_, _, .inr ⟨fun i hi => h i (by omega) hi, rfl, rfl⟩⟩
theorem next_both (g : Int) (l : List UInt8) (hm : l.length ≤ 4000000) : ∃ (R : List UInt8) (C : Int), ∀ w, Calls Try.prog 35 #[.int .i64 g, .string (txt l)] w (TextPost R C w) ∧ Calls Try.prog 36 #[.int .i64 g, .string (txt l)] w (TextPost R C w) := by
  have hok : givenC g l = 0 → OkCh (chAt l) l.length := fun h => okch_red (wordB_lets (given_zero h).2) (given_full h).2
  by_cases h : givenC g l = 0
  · obtain ⟨n, f, hnf⟩ := NextCh.ex g l.length (chAt l)
    refine ⟨if n ≤ 40 then ofL f n else [], if n ≤ 40 then 0 else 3, fun w => ⟨(snext_any g l hm w).mono ?_, (inext_any g l hm hok w).mono ?_⟩⟩
    all_goals
      rintro e w' ⟨-, hp⟩
      obtain ⟨n', f', h1, -, h2⟩ := hp h
      obtain ⟨rfl, rfl⟩ := hnf.same h1
      exact h2
  · exact ⟨[], givenC g l, fun w => ⟨(snext_any g l hm w).mono fun e w' hp => hp.1 h, (inext_any g l hm hok w).mono fun e w' hp => hp.1 h⟩⟩
theorem law_NextWord (g : Int) (l : List UInt8) (w : World) :
    Calls Try.prog 13 #[.int .i64 g, .string (txt l)] w fun e w' => e = .returned (.bool true) ∧ Below w.heap.size w w' := by
  have hs := txt_size l
  by_cases hm : l.length ≤ 1048576
  · have hm' : (l.length : Int) ≤ 1048576 := by omega
    have t1 : decide ((1048576 : Int) < (l.length : Int)) = false := by simp; omega
    obtain ⟨R, C, hRC⟩ := next_both g l (by omega)
    have HRC := Lib.hid hRC
    clear hRC
    go_enter Try.func13, Try.ntmps13
    go_wp2_with (first | (go_at_call 35; refine (HRC.out _).1.mono ?_; rintro e w1 ⟨rfl, B1⟩) | (go_at_call 36; refine (HRC.out _).2.mono ?_; rintro e w2 ⟨rfl, B2⟩))
    go_ret
    exact ⟨rfl, B1.trans (B2.mono B1.size)⟩
  · have t1 : decide ((1048576 : Int) < (l.length : Int)) = true := by simp; omega
    go_enter Try.func13, Try.ntmps13
    go_wp2
    go_ret
    exact ⟨rfl, Below.refl _ _⟩
end Go.Proofs.Ytepopepafdjjlaa
