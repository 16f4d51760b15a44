/-
  CONTRACT: the specification's PowerWord.
-/
import Derived.Test.YtepopepafdjjlaaWds
import Derived.Test.YtepopepafdjjlaaWdi
namespace Go.Proofs.Ytepopepafdjjlaa
open Go.ChangeShapes Go.WideShapes Go.ChangeAt Go.RowKit
open Wd
theorem inv_letters {l : List UInt8} (h : ∀ c ∈ l, isL c = true) : ∀ c ∈ inv l, isL c = true := by
  intro c hc
  simp only [inv, List.mem_map, List.mem_reverse] at hc
  obtain ⟨d, hd, rfl⟩ := hc
  exact oth_isL (h d hd)
theorem redS_letters {out : List UInt8} {c : UInt8} (h : ∀ d ∈ out, isL d = true) (hc : isL c = true) : ∀ d ∈ redS out c, isL d = true := by
  intro d hd
  unfold redS at hd
  split at hd
  · exact h d (List.dropLast_subset _ hd)
  · rcases List.mem_append.1 hd with h1 | h1
    · exact h d h1
    · rw [List.mem_singleton.1 h1]; exact hc
theorem red_letters {l : List UInt8} (h : ∀ c ∈ l, isL c = true) : ∀ c ∈ red l, isL c = true := by
  suffices H : ∀ (l out : List UInt8), (∀ c ∈ l, isL c = true) → (∀ c ∈ out, isL c = true) → ∀ c ∈ l.foldl redS out, isL c = true from H l [] h (by simp)
  intro l
  induction l with
  | nil => intro out _ ho; exact ho
  | cons a r ih =>
    intro out hl ho
    exact ih _ (fun c hc => hl c (List.mem_cons_of_mem _ hc)) (redS_letters ho (hl a List.mem_cons_self))
/-- a word, so many times behind itself, reduced after each -/
def powR (l : List UInt8) : Nat → List UInt8
  | 0 => []
  | n + 1 => red (powR l n ++ l)
theorem powR_letters {l : List UInt8} (h : ∀ c ∈ l, isL c = true) (n : Nat) : ∀ c ∈ powR l n, isL c = true := by
  induction n with
  | zero => simp [powR]
  | succ n ih =>
    refine red_letters fun c hc => ?_
    rcases List.mem_append.1 hc with h1 | h1
    · exact ih c h1
    · exact h c h1
theorem powR_length (l : List UInt8) (n : Nat) : (powR l n).length ≤ n * l.length := by
  induction n with
  | zero => simp [powR]
  | succ n ih =>
    have h1 := red_length (powR l n ++ l)
    rw [List.length_append] at h1
    rw [Nat.succ_mul]
    exact Nat.le_trans h1 (Nat.add_le_add_right ih _)
theorem txt_app (a b : List UInt8) : txt a ++ txt b = txt (a ++ b) := by
  simp only [txt]
  apply ByteArray.ext
  simp
theorem reduce_cat (a b : List UInt8) (hl : ∀ c ∈ a ++ b, isL c = true) (hm : (a ++ b).length ≤ 4000000) (w : World) :
    Calls Try.prog 44 #[.string (txt a ++ txt b)] w (StrPost (red (a ++ b)) w) := by
  rw [txt_app]
  exact reduce_any _ hl hm w
theorem powloop_bound {l : List UInt8} (hl : l.length ≤ 40) {j m : Nat} (hj : j ≤ m) (hm : m ≤ 40) : (powR l j ++ l).length ≤ 4000000 := by
  have h1 := powR_length l j
  have h2 : j * l.length ≤ 40 * 40 := Nat.mul_le_mul (by omega) hl
  rw [List.length_append]
  omega
def powPost (l : List UInt8) (n : Int) (w : World) : Ending → World → Prop :=
  TextPost (if wordB l then (if -40 ≤ n ∧ n ≤ 40 then (if (powR (if n < 0 then inv l else l) n.natAbs).length ≤ 40 then powR (if n < 0 then inv l else l) n.natAbs else []) else []) else [])
    (if wordB l then (if -40 ≤ n ∧ n ≤ 40 then (if (powR (if n < 0 then inv l else l) n.natAbs).length ≤ 40 then 0 else 3) else 2) else 1) w
set_option maxHeartbeats 1000000 in
theorem power_any (l : List UInt8) (hm : l.length ≤ 4000000) (n : Int) (w : World) :
    Calls Try.prog 25 #[.string (txt l), .int .i64 n] w (powPost l n w) := by
  unfold powPost
  cases hb : wordB l
  · go_enter Try.func25, Try.ntmps25
    go_wp2_with (go_at_call 39; refine (ok_any _ hm _).mono ?_; rintro e w' ⟨rfl, rfl⟩; rw [hb])
    go_ret2
    exact ⟨rfl, Below.refl _ _⟩
  · by_cases hr : -40 ≤ n ∧ n ≤ 40
    · rw [if_pos hr, if_pos rfl, if_pos hr, if_pos rfl]
      have HL := Lib.hid (wordB_lets hb)
      have H4 := Lib.hid (wordB_len hb)
      obtain ⟨h1, h2⟩ := hr
      by_cases h0 : n < 0
      · rw [if_pos h0]
        obtain ⟨m, rfl⟩ : ∃ m : Nat, n = -(m : Int) := ⟨n.natAbs, by omega⟩
        have t0 : decide (0 < m) = true := by simp; omega
        rw [Int.natAbs_neg, Int.natAbs_natCast]
        have LA : Hid (∀ j, ∀ c ∈ powR (inv l) j ++ (inv l), isL c = true) := Lib.hid fun j c hc => (List.mem_append.1 hc).elim (powR_letters (inv_letters HL.out) j c) ((inv_letters HL.out) c)
        have LB : Hid (∀ j, j ≤ m → (powR (inv l) j ++ (inv l)).length ≤ 4000000) := Lib.hid fun j hj => powloop_bound (by rw [inv_length]; exact H4.out) hj (by omega)
        have LC : Hid ((powR (inv l) m).length ≤ 4000000) := Lib.hid (by have h := powloop_bound (by rw [inv_length]; exact H4.out) (Nat.le_refl m) (by omega); rw [List.length_append] at h; omega)
        generalize hR : (if (powR (inv l) m).length ≤ 40 then powR (inv l) m else []) = R
        generalize hC : (if (powR (inv l) m).length ≤ 40 then (0 : Int) else 3) = C
        have HR := Lib.hid hR
        have HC := Lib.hid hC
        clear hR hC
        clear h0
        go_enter Try.func25, Try.ntmps25
        go_wp2_with (first | (go_at_call 39; refine (ok_any _ hm _).mono ?_; rintro e w' ⟨rfl, rfl⟩; rw [hb]) | (go_at_call 51; refine (l00In_yes _ _ _ h1 h2 _).mono ?_; rintro e w' ⟨rfl, rfl⟩) | (go_at_call 41; refine (inverse_any l HL.out hm _).mono ?_; rintro e w' ⟨rfl, b0⟩))
        have B0 := Lib.hid b0
        clear b0
        go_loopw [1, 6] (fun i v wr => ∃ j : Nat, j ≤ m ∧ i = .int .i64 ((m : Int) - (j : Int)) ∧ v = .string (txt (powR (inv l) j)) ∧ Below w.heap.size w wr) (fun i _ _ => (intOf i).toNat)
        case atStart => exact ⟨0, Nat.zero_le _, by go_num, rfl, B0.out⟩
        case round =>
          obtain ⟨j, hj, rfl, rfl, hB⟩ := hrel
          have B := Lib.hid hB
          clear hB B0
          by_cases hlt : j < m
          · obtain ⟨p, hp⟩ : ∃ p : Nat, m = j + p + 1 := ⟨m - j - 1, by omega⟩
            have e : (m : Int) - (j : Int) = (p : Int) + 1 := by omega
            have hp' : (p : Int) ≤ 39 := by omega
            have t1 : decide ((0 : Int) < (p : Int) + 1) = true := by simp <;> omega
            have EP : Hid ((p : Int) = (m : Int) - ((j + 1 : Nat) : Int)) := Lib.hid (by omega)
            have HJ : Hid (j + 1 ≤ m) := Lib.hid (by omega)
            have LBJ := Lib.hid (LB.out j (by omega))
            have SZ : ¬ (9223372036854775807 : Nat) < (txt (powR (inv l) j)).size + (txt (inv l)).size := by have h := LBJ.out; rw [List.length_append] at h; rw [txt_size, txt_size]; omega
            rw [e]
            clear e hp
            go_wp2_with (go_at_call 44; refine (reduce_cat _ _ (LA.out j) (LBJ.out) _).mono ?_; rintro e w' ⟨rfl, B1⟩)
            have B2 : Hid (Below w.heap.size w w') := Lib.hid (B.out.trans (B1.mono B.out.size))
            clear B1
            go_roundw
            case rel => exact ⟨j + 1, HJ.out, by rw [EP.out], rfl, B2.out⟩
            case measure => simp [intOf]
          · obtain rfl : j = m := by omega
            have e : (j : Int) - (j : Int) = 0 := by omega
            rw [e]
            clear e
            go_wp2_with (go_at_call 47; refine (told_any _ LC.out _).mono ?_; rintro e w' ⟨rfl, rfl⟩; rw [HR.out, HC.out])
            go_ret2
            exact ⟨rfl, B.out⟩
      · rw [if_neg h0]
        obtain ⟨m, rfl⟩ : ∃ m : Nat, n = (m : Int) := ⟨n.toNat, by omega⟩
        have t0 : decide ((m : Int) < 0) = false := by simp <;> omega
        rw [Int.natAbs_natCast]
        have LA : Hid (∀ j, ∀ c ∈ powR l j ++ l, isL c = true) := Lib.hid fun j c hc => (List.mem_append.1 hc).elim (powR_letters HL.out j c) (HL.out c)
        have LB : Hid (∀ j, j ≤ m → (powR l j ++ l).length ≤ 4000000) := Lib.hid fun j hj => powloop_bound H4.out hj (by omega)
        have LC : Hid ((powR l m).length ≤ 4000000) := Lib.hid (by have h := powloop_bound H4.out (Nat.le_refl m) (by omega); rw [List.length_append] at h; omega)
        generalize hR : (if (powR l m).length ≤ 40 then powR l m else []) = R
        generalize hC : (if (powR l m).length ≤ 40 then (0 : Int) else 3) = C
        have HR := Lib.hid hR
        have HC := Lib.hid hC
        clear hR hC
        have B0 : Hid (Below w.heap.size w w) := Lib.hid (Below.refl _ _)
        clear h0
        go_enter Try.func25, Try.ntmps25
        go_wp2_with (first | (go_at_call 39; refine (ok_any _ hm _).mono ?_; rintro e w' ⟨rfl, rfl⟩; rw [hb]) | (go_at_call 51; refine (l00In_yes _ _ _ h1 h2 _).mono ?_; rintro e w' ⟨rfl, rfl⟩))
        go_loopw [1, 6] (fun i v wr => ∃ j : Nat, j ≤ m ∧ i = .int .i64 ((m : Int) - (j : Int)) ∧ v = .string (txt (powR l j)) ∧ Below w.heap.size w wr) (fun i _ _ => (intOf i).toNat)
        case atStart => exact ⟨0, Nat.zero_le _, by go_num, rfl, B0.out⟩
        case round =>
          obtain ⟨j, hj, rfl, rfl, hB⟩ := hrel
          have B := Lib.hid hB
          clear hB B0
          by_cases hlt : j < m
          · obtain ⟨p, hp⟩ : ∃ p : Nat, m = j + p + 1 := ⟨m - j - 1, by omega⟩
            have e : (m : Int) - (j : Int) = (p : Int) + 1 := by omega
            have hp' : (p : Int) ≤ 39 := by omega
            have t1 : decide ((0 : Int) < (p : Int) + 1) = true := by simp <;> omega
            have EP : Hid ((p : Int) = (m : Int) - ((j + 1 : Nat) : Int)) := Lib.hid (by omega)
            have HJ : Hid (j + 1 ≤ m) := Lib.hid (by omega)
            have LBJ := Lib.hid (LB.out j (by omega))
            have SZ : ¬ (9223372036854775807 : Nat) < (txt (powR l j)).size + (txt l).size := by have h := LBJ.out; rw [List.length_append] at h; rw [txt_size, txt_size]; omega
            rw [e]
            clear e hp
            go_wp2_with (go_at_call 44; refine (reduce_cat _ _ (LA.out j) (LBJ.out) _).mono ?_; rintro e w' ⟨rfl, B1⟩)
            have B2 : Hid (Below w.heap.size w w') := Lib.hid (B.out.trans (B1.mono B.out.size))
            clear B1
            go_roundw
            case rel => exact ⟨j + 1, HJ.out, by rw [EP.out], rfl, B2.out⟩
            case measure => simp [intOf]
          · obtain rfl : j = m := by omega
            have e : (j : Int) - (j : Int) = 0 := by omega
            rw [e]
            clear e
            go_wp2_with (go_at_call 47; refine (told_any _ LC.out _).mono ?_; rintro e w' ⟨rfl, rfl⟩; rw [HR.out, HC.out])
            go_ret2
            exact ⟨rfl, B.out⟩
    · rw [if_neg hr, if_pos rfl, if_neg hr, if_pos rfl]
      go_enter Try.func25, Try.ntmps25
      go_wp2_with (first | (go_at_call 39; refine (ok_any _ hm _).mono ?_; rintro e w' ⟨rfl, rfl⟩; rw [hb]) | (go_at_call 51; refine (l00In_no _ _ _ (by omega) _).mono ?_; rintro e w' ⟨rfl, rfl⟩))
      go_ret2
      exact ⟨rfl, Below.refl _ _⟩
end Go.Proofs.Ytepopepafdjjlaa
