/-
  CONTRACTS: deeds: copied by the laws; valid ones.
-/
import Derived.Test.YtkijgadkgfapgaaFm
namespace Go.Proofs.Ytkijgadkgfapgaa
open Go.ChangeShapes Go.WideShapes Go.ChangeAt Go.RowKit
abbrev D3 (k a b : Int) : Array Value := #[.int .i64 k, .int .i64 a, .int .i64 b]
theorem deed_info (A : Array Value) (h : A.size = 3) : (Try.prog.info? 40).map (·.size) = some A.size := by rw [h]; kernel_rfl
theorem ldeed_info (A : Array Value) (h : A.size = 3) : (Try.prog.info? 38).map (·.size) = some A.size := by rw [h]; kernel_rfl
theorem below3 (w : World) (o1 o2 o3 : Obj) : Below w.heap.size w (((w.alloc o1).alloc o2).alloc o3) := (((Below.refl _ w).alloc (Nat.le_refl _) _).alloc (by simp) _).alloc (by simp; omega) _
set_option maxRecDepth 20000 in
set_option maxHeartbeats 4000000 in
theorem toDeed_any (k a b : Int) (w : World) :
    Calls Try.prog 22 #[.agg (D3 k a b)] w fun e w' => e = .returned (.agg (D3 k a b)) ∧ Below w.heap.size w w' := by
  go_enter Try.func22, Try.ntmps22
  go_wp2
  exact bodyPost_ret (v := .agg (D3 k a b)) (by simp [results, Try.results22, go_sem]) rfl ⟨rfl, below3 _ _ _ _⟩
/-- how many numbers a deed of a kind has -/
def nmD (k : Int) : Int := if k = 7 ∨ k = 8 then 0 else if k = 6 then 2 else 1
/-- is it a valid deed? -/
def vdB (k a b : Int) : Bool := decide (1 ≤ k) && decide (k ≤ 9) && decide (0 ≤ a) && decide (a ≤ 999) && decide (0 ≤ b) && decide (b ≤ 999) && (decide (0 < nmD k) || decide (a = 0)) && (decide (1 < nmD k) || decide (b = 0))
theorem nmD_any (k : Int) (w : World) :
    Calls Try.prog 59 #[.int .i64 k] w fun e w' => e = .returned (.int .i64 (nmD k)) ∧ w = w' := by
  by_cases h7 : k = 7
  · subst h7
    go_enter Try.func59, Try.ntmps59
    go_wp2
    go_ret
    exact ⟨rfl, rfl⟩
  · by_cases h8 : k = 8
    · subst h8
      go_enter Try.func59, Try.ntmps59
      go_wp2
      go_ret
      exact ⟨rfl, rfl⟩
    · by_cases h6 : k = 6
      · subst h6
        go_enter Try.func59, Try.ntmps59
        go_wp2
        go_ret
        exact ⟨rfl, rfl⟩
      · have e : Hid (nmD k = 1) := Lib.hid (by unfold nmD; rw [if_neg (by omega), if_neg h6])
        rw [e.out]
        have e7 : (k == 7) = false := by simpa using h7
        have e8 : (k == 8) = false := by simpa using h8
        have e6 : (k == 6) = false := by simpa using h6
        have d7 : decide (k = 7) = false := by simpa using h7
        have d8 : decide (k = 8) = false := by simpa using h8
        have d6 : decide (k = 6) = false := by simpa using h6
        clear h6 h7 h8
        go_enter Try.func59, Try.ntmps59
        go_wp2
        go_ret
        exact ⟨rfl, rfl⟩
theorem inD (n l r : Int) (w : World) :
    Calls Try.prog 58 #[.int .i64 n, .int .i64 l, .int .i64 r] w fun e w' => e = .returned (.bool (decide (l ≤ n) && decide (n ≤ r))) ∧ w = w' := by
  by_cases h1 : l ≤ n
  · by_cases h2 : n ≤ r
    · rw [decide_eq_true h1, decide_eq_true h2]
      exact in09_yes n l r h1 h2 w
    · rw [decide_eq_true h1, decide_eq_false h2]
      exact in09_no n l r (.inr (by omega)) w
  · rw [decide_eq_false h1, Bool.false_and]
    exact in09_no n l r (.inl (by omega)) w
set_option maxRecDepth 20000 in
set_option maxHeartbeats 4000000 in
theorem sValidDeed_any (k a b : Int) (w : World) :
    Calls Try.prog 21 #[.agg (D3 k a b)] w fun e w' => e = .returned (.bool (vdB k a b)) ∧ Below w.heap.size w w' := by
  have B0 : Hid (Below w.heap.size w (w.alloc (.cells (D3 k a b) 40))) := Lib.hid ((Below.refl _ _).alloc (Nat.le_refl _) _)
  have N := Lib.hid (nmD_any k)
  have I1 := Lib.hid (inD k 1 9)
  have I2 := Lib.hid (inD a 0 999)
  have I3 := Lib.hid (inD b 0 999)
  have V : Hid (vdB k a b = (((decide (1 ≤ k) && decide (k ≤ 9)) && (decide (0 ≤ a) && decide (a ≤ 999)) && (decide (0 ≤ b) && decide (b ≤ 999))) && ((decide (0 < nmD k) || decide (a = 0)) && (decide (1 < nmD k) || decide (b = 0))))) := Lib.hid (by unfold vdB; simp only [Bool.and_assoc])
  obtain ⟨p1, hp1⟩ : ∃ p, (decide (1 ≤ k) && decide (k ≤ 9)) = p := ⟨_, rfl⟩
  obtain ⟨p2, hp2⟩ : ∃ p, (decide (0 ≤ a) && decide (a ≤ 999)) = p := ⟨_, rfl⟩
  obtain ⟨p3, hp3⟩ : ∃ p, (decide (0 ≤ b) && decide (b ≤ 999)) = p := ⟨_, rfl⟩
  rw [hp1] at V I1
  rw [hp2] at V I2
  rw [hp3] at V I3
  generalize vdB k a b = r at V ⊢
  have HN : nmD k = 0 ∨ nmD k = 1 ∨ nmD k = 2 := by unfold nmD; split; exact .inl rfl; split; exact .inr (.inr rfl); exact .inr (.inl rfl)
  generalize nmD k = n at N V HN
  clear hp1 hp2 hp3
  cases p1 with
  | false =>
    have R : Hid (r = false) := Lib.hid (by rw [V.out]; rfl)
    rw [R.out]
    clear V R
    go_enter Try.func21, Try.ntmps21
    go_wp2_with (first | (go_at_call 59; refine (N.out _).mono ?_; rintro e w' ⟨rfl, rfl⟩) | (go_at_call 58; with_reducible refine (I1.out _).mono ?_; rintro e w' ⟨rfl, rfl⟩) | (go_at_call 58; with_reducible refine (I2.out _).mono ?_; rintro e w' ⟨rfl, rfl⟩) | (go_at_call 58; with_reducible refine (I3.out _).mono ?_; rintro e w' ⟨rfl, rfl⟩))
    go_ret
    exact ⟨rfl, B0.out⟩
  | true =>
    cases p2 with
    | false =>
      have R : Hid (r = false) := Lib.hid (by rw [V.out]; rfl)
      rw [R.out]
      clear V R
      go_enter Try.func21, Try.ntmps21
      go_wp2_with (first | (go_at_call 59; refine (N.out _).mono ?_; rintro e w' ⟨rfl, rfl⟩) | (go_at_call 58; with_reducible refine (I1.out _).mono ?_; rintro e w' ⟨rfl, rfl⟩) | (go_at_call 58; with_reducible refine (I2.out _).mono ?_; rintro e w' ⟨rfl, rfl⟩) | (go_at_call 58; with_reducible refine (I3.out _).mono ?_; rintro e w' ⟨rfl, rfl⟩))
      go_ret
      exact ⟨rfl, B0.out⟩
    | true =>
      cases p3 with
      | false =>
        have R : Hid (r = false) := Lib.hid (by rw [V.out]; rfl)
        rw [R.out]
        clear V R
        go_enter Try.func21, Try.ntmps21
        go_wp2_with (first | (go_at_call 59; refine (N.out _).mono ?_; rintro e w' ⟨rfl, rfl⟩) | (go_at_call 58; with_reducible refine (I1.out _).mono ?_; rintro e w' ⟨rfl, rfl⟩) | (go_at_call 58; with_reducible refine (I2.out _).mono ?_; rintro e w' ⟨rfl, rfl⟩) | (go_at_call 58; with_reducible refine (I3.out _).mono ?_; rintro e w' ⟨rfl, rfl⟩))
        go_ret
        exact ⟨rfl, B0.out⟩
      | true =>
        rcases HN with rfl | rfl | rfl
        · by_cases ha : a = 0
          · have a1 : (a == 0) = true := by simpa using ha
            have a2 : decide (a = 0) = true := by simpa using ha
            by_cases hb : b = 0
            · have b1 : (b == 0) = true := by simpa using hb
              have b2 : decide (b = 0) = true := by simpa using hb
              have R : Hid (r = true) := Lib.hid (by rw [V.out, a2, b2]; rfl)
              rw [R.out]
              clear V R ha hb
              go_enter Try.func21, Try.ntmps21
              go_wp2_with (first | (go_at_call 59; refine (N.out _).mono ?_; rintro e w' ⟨rfl, rfl⟩) | (go_at_call 58; with_reducible refine (I1.out _).mono ?_; rintro e w' ⟨rfl, rfl⟩) | (go_at_call 58; with_reducible refine (I2.out _).mono ?_; rintro e w' ⟨rfl, rfl⟩) | (go_at_call 58; with_reducible refine (I3.out _).mono ?_; rintro e w' ⟨rfl, rfl⟩))
              go_ret
              exact ⟨rfl, B0.out⟩
            · have b1 : (b == 0) = false := by simpa using hb
              have b2 : decide (b = 0) = false := by simpa using hb
              have R : Hid (r = false) := Lib.hid (by rw [V.out, a2, b2]; rfl)
              rw [R.out]
              clear V R ha hb
              go_enter Try.func21, Try.ntmps21
              go_wp2_with (first | (go_at_call 59; refine (N.out _).mono ?_; rintro e w' ⟨rfl, rfl⟩) | (go_at_call 58; with_reducible refine (I1.out _).mono ?_; rintro e w' ⟨rfl, rfl⟩) | (go_at_call 58; with_reducible refine (I2.out _).mono ?_; rintro e w' ⟨rfl, rfl⟩) | (go_at_call 58; with_reducible refine (I3.out _).mono ?_; rintro e w' ⟨rfl, rfl⟩))
              go_ret
              exact ⟨rfl, B0.out⟩
          · have a1 : (a == 0) = false := by simpa using ha
            have a2 : decide (a = 0) = false := by simpa using ha
            by_cases hb : b = 0
            · have b1 : (b == 0) = true := by simpa using hb
              have b2 : decide (b = 0) = true := by simpa using hb
              have R : Hid (r = false) := Lib.hid (by rw [V.out, a2, b2]; rfl)
              rw [R.out]
              clear V R ha hb
              go_enter Try.func21, Try.ntmps21
              go_wp2_with (first | (go_at_call 59; refine (N.out _).mono ?_; rintro e w' ⟨rfl, rfl⟩) | (go_at_call 58; with_reducible refine (I1.out _).mono ?_; rintro e w' ⟨rfl, rfl⟩) | (go_at_call 58; with_reducible refine (I2.out _).mono ?_; rintro e w' ⟨rfl, rfl⟩) | (go_at_call 58; with_reducible refine (I3.out _).mono ?_; rintro e w' ⟨rfl, rfl⟩))
              go_ret
              exact ⟨rfl, B0.out⟩
            · have b1 : (b == 0) = false := by simpa using hb
              have b2 : decide (b = 0) = false := by simpa using hb
              have R : Hid (r = false) := Lib.hid (by rw [V.out, a2, b2]; rfl)
              rw [R.out]
              clear V R ha hb
              go_enter Try.func21, Try.ntmps21
              go_wp2_with (first | (go_at_call 59; refine (N.out _).mono ?_; rintro e w' ⟨rfl, rfl⟩) | (go_at_call 58; with_reducible refine (I1.out _).mono ?_; rintro e w' ⟨rfl, rfl⟩) | (go_at_call 58; with_reducible refine (I2.out _).mono ?_; rintro e w' ⟨rfl, rfl⟩) | (go_at_call 58; with_reducible refine (I3.out _).mono ?_; rintro e w' ⟨rfl, rfl⟩))
              go_ret
              exact ⟨rfl, B0.out⟩
        · by_cases ha : a = 0
          · have a1 : (a == 0) = true := by simpa using ha
            have a2 : decide (a = 0) = true := by simpa using ha
            by_cases hb : b = 0
            · have b1 : (b == 0) = true := by simpa using hb
              have b2 : decide (b = 0) = true := by simpa using hb
              have R : Hid (r = true) := Lib.hid (by rw [V.out, a2, b2]; rfl)
              rw [R.out]
              clear V R ha hb
              go_enter Try.func21, Try.ntmps21
              go_wp2_with (first | (go_at_call 59; refine (N.out _).mono ?_; rintro e w' ⟨rfl, rfl⟩) | (go_at_call 58; with_reducible refine (I1.out _).mono ?_; rintro e w' ⟨rfl, rfl⟩) | (go_at_call 58; with_reducible refine (I2.out _).mono ?_; rintro e w' ⟨rfl, rfl⟩) | (go_at_call 58; with_reducible refine (I3.out _).mono ?_; rintro e w' ⟨rfl, rfl⟩))
              go_ret
              exact ⟨rfl, B0.out⟩
            · have b1 : (b == 0) = false := by simpa using hb
              have b2 : decide (b = 0) = false := by simpa using hb
              have R : Hid (r = false) := Lib.hid (by rw [V.out, a2, b2]; rfl)
              rw [R.out]
              clear V R ha hb
              go_enter Try.func21, Try.ntmps21
              go_wp2_with (first | (go_at_call 59; refine (N.out _).mono ?_; rintro e w' ⟨rfl, rfl⟩) | (go_at_call 58; with_reducible refine (I1.out _).mono ?_; rintro e w' ⟨rfl, rfl⟩) | (go_at_call 58; with_reducible refine (I2.out _).mono ?_; rintro e w' ⟨rfl, rfl⟩) | (go_at_call 58; with_reducible refine (I3.out _).mono ?_; rintro e w' ⟨rfl, rfl⟩))
              go_ret
              exact ⟨rfl, B0.out⟩
          · have a1 : (a == 0) = false := by simpa using ha
            have a2 : decide (a = 0) = false := by simpa using ha
            by_cases hb : b = 0
            · have b1 : (b == 0) = true := by simpa using hb
              have b2 : decide (b = 0) = true := by simpa using hb
              have R : Hid (r = true) := Lib.hid (by rw [V.out, a2, b2]; rfl)
              rw [R.out]
              clear V R ha hb
              go_enter Try.func21, Try.ntmps21
              go_wp2_with (first | (go_at_call 59; refine (N.out _).mono ?_; rintro e w' ⟨rfl, rfl⟩) | (go_at_call 58; with_reducible refine (I1.out _).mono ?_; rintro e w' ⟨rfl, rfl⟩) | (go_at_call 58; with_reducible refine (I2.out _).mono ?_; rintro e w' ⟨rfl, rfl⟩) | (go_at_call 58; with_reducible refine (I3.out _).mono ?_; rintro e w' ⟨rfl, rfl⟩))
              go_ret
              exact ⟨rfl, B0.out⟩
            · have b1 : (b == 0) = false := by simpa using hb
              have b2 : decide (b = 0) = false := by simpa using hb
              have R : Hid (r = false) := Lib.hid (by rw [V.out, a2, b2]; rfl)
              rw [R.out]
              clear V R ha hb
              go_enter Try.func21, Try.ntmps21
              go_wp2_with (first | (go_at_call 59; refine (N.out _).mono ?_; rintro e w' ⟨rfl, rfl⟩) | (go_at_call 58; with_reducible refine (I1.out _).mono ?_; rintro e w' ⟨rfl, rfl⟩) | (go_at_call 58; with_reducible refine (I2.out _).mono ?_; rintro e w' ⟨rfl, rfl⟩) | (go_at_call 58; with_reducible refine (I3.out _).mono ?_; rintro e w' ⟨rfl, rfl⟩))
              go_ret
              exact ⟨rfl, B0.out⟩
        · by_cases ha : a = 0
          · have a1 : (a == 0) = true := by simpa using ha
            have a2 : decide (a = 0) = true := by simpa using ha
            by_cases hb : b = 0
            · have b1 : (b == 0) = true := by simpa using hb
              have b2 : decide (b = 0) = true := by simpa using hb
              have R : Hid (r = true) := Lib.hid (by rw [V.out, a2, b2]; rfl)
              rw [R.out]
              clear V R ha hb
              go_enter Try.func21, Try.ntmps21
              go_wp2_with (first | (go_at_call 59; refine (N.out _).mono ?_; rintro e w' ⟨rfl, rfl⟩) | (go_at_call 58; with_reducible refine (I1.out _).mono ?_; rintro e w' ⟨rfl, rfl⟩) | (go_at_call 58; with_reducible refine (I2.out _).mono ?_; rintro e w' ⟨rfl, rfl⟩) | (go_at_call 58; with_reducible refine (I3.out _).mono ?_; rintro e w' ⟨rfl, rfl⟩))
              go_ret
              exact ⟨rfl, B0.out⟩
            · have b1 : (b == 0) = false := by simpa using hb
              have b2 : decide (b = 0) = false := by simpa using hb
              have R : Hid (r = true) := Lib.hid (by rw [V.out, a2, b2]; rfl)
              rw [R.out]
              clear V R ha hb
              go_enter Try.func21, Try.ntmps21
              go_wp2_with (first | (go_at_call 59; refine (N.out _).mono ?_; rintro e w' ⟨rfl, rfl⟩) | (go_at_call 58; with_reducible refine (I1.out _).mono ?_; rintro e w' ⟨rfl, rfl⟩) | (go_at_call 58; with_reducible refine (I2.out _).mono ?_; rintro e w' ⟨rfl, rfl⟩) | (go_at_call 58; with_reducible refine (I3.out _).mono ?_; rintro e w' ⟨rfl, rfl⟩))
              go_ret
              exact ⟨rfl, B0.out⟩
          · have a1 : (a == 0) = false := by simpa using ha
            have a2 : decide (a = 0) = false := by simpa using ha
            by_cases hb : b = 0
            · have b1 : (b == 0) = true := by simpa using hb
              have b2 : decide (b = 0) = true := by simpa using hb
              have R : Hid (r = true) := Lib.hid (by rw [V.out, a2, b2]; rfl)
              rw [R.out]
              clear V R ha hb
              go_enter Try.func21, Try.ntmps21
              go_wp2_with (first | (go_at_call 59; refine (N.out _).mono ?_; rintro e w' ⟨rfl, rfl⟩) | (go_at_call 58; with_reducible refine (I1.out _).mono ?_; rintro e w' ⟨rfl, rfl⟩) | (go_at_call 58; with_reducible refine (I2.out _).mono ?_; rintro e w' ⟨rfl, rfl⟩) | (go_at_call 58; with_reducible refine (I3.out _).mono ?_; rintro e w' ⟨rfl, rfl⟩))
              go_ret
              exact ⟨rfl, B0.out⟩
            · have b1 : (b == 0) = false := by simpa using hb
              have b2 : decide (b = 0) = false := by simpa using hb
              have R : Hid (r = true) := Lib.hid (by rw [V.out, a2, b2]; rfl)
              rw [R.out]
              clear V R ha hb
              go_enter Try.func21, Try.ntmps21
              go_wp2_with (first | (go_at_call 59; refine (N.out _).mono ?_; rintro e w' ⟨rfl, rfl⟩) | (go_at_call 58; with_reducible refine (I1.out _).mono ?_; rintro e w' ⟨rfl, rfl⟩) | (go_at_call 58; with_reducible refine (I2.out _).mono ?_; rintro e w' ⟨rfl, rfl⟩) | (go_at_call 58; with_reducible refine (I3.out _).mono ?_; rintro e w' ⟨rfl, rfl⟩))
              go_ret
              exact ⟨rfl, B0.out⟩
end Go.Proofs.Ytkijgadkgfapgaa
