/-
  CONTRACTS: the specification's IsReduced, JoinReduced.
-/
import Derived.Test.YtepopepafdjjlaaWdn
namespace Go.Proofs.Ytepopepafdjjlaa
open Go.ChangeShapes Go.WideShapes Go.ChangeAt Go.RowKit
open Wd
theorem txt_inj {a b : List UInt8} : txt a = txt b ↔ a = b := by
  constructor
  · intro h
    have := congrArg (fun t => t.data.toList) h
    simpa [txt] using this
  · rintro rfl; rfl
theorem txt_beq (a b : List UInt8) : ((txt a).toList == (txt b).toList) = decide (a = b) := by
  rw [ByteArray.toList_eq, ByteArray.toList_eq]
  simp only [txt]
  by_cases h : a = b
  · subst h; simp
  · simp [h]
theorem isred_any (l : List UInt8) (hm : l.length ≤ 4000000) (w : World) :
    Calls Try.prog 21 #[.string (txt l)] w fun e w' => e = .returned (.tuple #[.bool (wordB l && decide (red l = l)), .int .i64 (if wordB l then 0 else 1)]) ∧ Below w.heap.size w w' := by
  cases hb : wordB l
  · go_enter Try.func21, Try.ntmps21
    go_wp2_with (go_at_call 39; refine (ok_any _ hm _).mono ?_; rintro e w' ⟨rfl, rfl⟩; rw [hb])
    go_ret2
    exact ⟨rfl, Below.refl _ _⟩
  · have HL := Lib.hid (wordB_lets hb)
    go_enter Try.func21, Try.ntmps21
    go_wp2_with (first | (go_at_call 39; refine (ok_any _ hm _).mono ?_; rintro e w' ⟨rfl, rfl⟩; rw [hb]) | (go_at_call 44; refine (reduce_any l HL.out hm _).mono ?_; rintro e w' ⟨rfl, B⟩))
    go_ret2
    refine ⟨?_, B⟩
    rw [← txt_beq]
    rfl
theorem join_any (u v : List UInt8) (hu : u.length ≤ 4000000) (hv : v.length ≤ 4000000) (w : World) :
    Calls Try.prog 23 #[.string (txt u), .string (txt v)] w
      (TextPost (if wordB u && wordB v then (if (red (u ++ v)).length ≤ 40 then red (u ++ v) else []) else []) (if wordB u && wordB v then (if (red (u ++ v)).length ≤ 40 then 0 else 3) else 1) w) := by
  have ho1 : Hid (∀ w, Calls Try.prog 39 #[.string (txt u)] w fun e w' => e = .returned (.bool (wordB u)) ∧ w = w') := Lib.hid (ok_any u hu)
  have ho2 : Hid (∀ w, Calls Try.prog 39 #[.string (txt v)] w fun e w' => e = .returned (.bool (wordB v)) ∧ w = w') := Lib.hid (ok_any v hv)
  cases h1 : wordB u
  · rw [h1] at ho1
    go_enter Try.func23, Try.ntmps23
    go_wp2_with (go_at_call 39; with_reducible refine (ho1.out _).mono ?_; rintro e w' ⟨rfl, rfl⟩)
    go_ret2
    exact ⟨rfl, Below.refl _ _⟩
  · rw [h1] at ho1
    cases h2 : wordB v
    · rw [h2] at ho2
      go_enter Try.func23, Try.ntmps23
      go_wp2_with (first | (go_at_call 39; with_reducible refine (ho1.out _).mono ?_; rintro e w' ⟨rfl, rfl⟩) | (go_at_call 39; with_reducible refine (ho2.out _).mono ?_; rintro e w' ⟨rfl, rfl⟩))
      go_ret2
      exact ⟨rfl, Below.refl _ _⟩
    · rw [h2] at ho2
      have LU := wordB_len h1
      have LV := wordB_len h2
      have HL : Hid (∀ c ∈ u ++ v, isL c = true) := Lib.hid fun c hc => (List.mem_append.1 hc).elim (wordB_lets h1 c) (wordB_lets h2 c)
      have SZ : ¬ (9223372036854775807 : Nat) < (txt u).size + (txt v).size := by rw [txt_size, txt_size]; omega
      have LL : Hid ((u ++ v).length ≤ 4000000) := Lib.hid (by rw [List.length_append]; omega)
      have LR : Hid ((red (u ++ v)).length ≤ 4000000) := Lib.hid (Nat.le_trans (red_length _) LL.out)
      show Calls _ _ _ _ (TextPost (if (red (u ++ v)).length ≤ 40 then red (u ++ v) else []) (if (red (u ++ v)).length ≤ 40 then 0 else 3) w)
      generalize hR : (if (red (u ++ v)).length ≤ 40 then red (u ++ v) else []) = R
      generalize hC : (if (red (u ++ v)).length ≤ 40 then (0 : Int) else 3) = C
      have HR := Lib.hid hR
      have HC := Lib.hid hC
      clear hR hC
      go_enter Try.func23, Try.ntmps23
      go_wp2_with (first | (go_at_call 39; with_reducible refine (ho1.out _).mono ?_; rintro e w' ⟨rfl, rfl⟩) | (go_at_call 39; with_reducible refine (ho2.out _).mono ?_; rintro e w' ⟨rfl, rfl⟩) | (go_at_call 44; refine (reduce_cat u v HL.out LL.out _).mono ?_; rintro e w' ⟨rfl, B⟩) | (go_at_call 47; refine (told_any _ LR.out _).mono ?_; rintro e w' ⟨rfl, rfl⟩; rw [HR.out, HC.out]))
      go_ret2
      exact ⟨rfl, B⟩
end Go.Proofs.Ytepopepafdjjlaa
