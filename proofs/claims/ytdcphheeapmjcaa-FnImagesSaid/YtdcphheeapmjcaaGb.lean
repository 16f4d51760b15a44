/-
  SEVERAL TEXTS IN ONE: XWdm,XWdn,XWdl,XWdq,XWdu,XWdv
-/
import Derived.Test.YtdcphheeapmjcaaGa
/-
  CONTRACT: the specification's CompareWords.
-/
namespace Go.Proofs.Ytdcphheeapmjcaa
open Go.ChangeShapes Go.WideShapes Go.ChangeAt Go.RowKit
open Wd
/-- the first letters that differ -/
def cmpL : List UInt8 → List UInt8 → Int
  | c :: r, d :: s => if c = d then cmpL r s else if lnum c < lnum d then -1 else 1
  | _, _ => 0
def cmpW (u v : List UInt8) : Int := if u.length = v.length then cmpL u v else if u.length < v.length then -1 else 1
theorem drop_at (l : List UInt8) (k : Nat) (h : k < l.length) : l.drop k = l[k] :: l.drop (k + 1) := List.drop_eq_getElem_cons h
set_option maxHeartbeats 1000000 in
theorem compare_any (u v : List UInt8) (hu : u.length ≤ 4000000) (hv : v.length ≤ 4000000) (w : World) :
    Calls Try.prog 95 #[.string (txt u), .string (txt v)] w fun e w' => e = .returned (.int .i64 (cmpW u v)) ∧ ∃ n, w' = w.drewN n := by
  have hsu := txt_size u
  have hsv := txt_size v
  have hu' : (u.length : Int) ≤ 4000000 := by omega
  have hv' : (v.length : Int) ≤ 4000000 := by omega
  by_cases he : u.length = v.length
  · have t1 : ((u.length : Int) == (v.length : Int)) = true := by rw [beq_iff_eq]; omega
    have HC : Hid (cmpW u v = cmpL u v) := Lib.hid (if_pos he)
    have HE := Lib.hid he
    have t2 : (!((u.length : Int) == (v.length : Int))) = false := by rw [t1]; rfl
    go_enter Try.func95, Try.ntmps95
    go_wp2
    go_loopw [5] (fun i wr => ∃ k : Nat, k ≤ v.length ∧ i = .int .i64 (k : Int) ∧ cmpL u v = cmpL (u.drop k) (v.drop k) ∧ ∃ n, wr = w.drewN n) (fun i _ => v.length - (intOf i).toNat)
    case atStart => exact ⟨0, Nat.zero_le _, rfl, rfl, 0, rfl⟩
    case round =>
      obtain ⟨k, hk, rfl, hd, n, rfl⟩ := hrel
      by_cases hlt : k < v.length
      · have hlu : k < u.length := by omega
        have hi := idx_txt u k hlu
        have hj := idx_txt v k hlt
        have t5 : decide (k < v.length) = true := by simpa using hlt
        have hk' : (k : Int) ≤ 3999999 := by omega
        rw [drop_at u k hlu, drop_at v k hlt] at hd
        generalize u[k] = c at hi hd
        generalize v[k] = d at hj hd
        have HK := Lib.hid hlt
        by_cases hcd : c = d
        · have HD : Hid (cmpL u v = cmpL (u.drop (k + 1)) (v.drop (k + 1))) := Lib.hid (by rw [hd]; show (if c = d then _ else _) = _; rw [if_pos hcd])
          subst hcd
          clear hd hlt
          go_wp2
          go_quiet (fail)
          go_wp2
          go_roundw
          case rel => exact ⟨k + 1, HK.out, by go_num, HD.out, _, rfl⟩
          case measure => have := HK.out; simp [intOf]; omega
        · have HD : Hid (cmpL u v = if lnum c < lnum d then -1 else 1) := Lib.hid (by rw [hd]; show (if c = d then _ else _) = _; rw [if_neg hcd])
          have hne := u8ne hcd
          have hne2 := u8ne (fun e => hcd e.symm : d ≠ c)
          clear hd hlt hcd
          go_wp2
          go_quiet (fail)
          generalize hW : (w.drewN n).drewN nq = w1
          have HW : Hid (∃ q, w1 = w.drewN q) := Lib.hid ⟨n + nq, by rw [← hW, World.drewN_drewN]⟩
          clear hW
          have hc1 : Hid (∀ n, Calls Try.prog 63 #[.int .u8 ((c.toNat : Nat) : Int)] (w1.drewN n) fun e w'' => e = .returned (.int .i64 (lnum c)) ∧ ∃ m, w'' = w1.drewN m) := Lib.hid fun n =>
            (letter_any c _).mono fun e w' ⟨h1, h2⟩ => ⟨h1, n, h2.symm⟩
          have hd1 : Hid (∀ n, Calls Try.prog 63 #[.int .u8 ((d.toNat : Nat) : Int)] (w1.drewN n) fun e w'' => e = .returned (.int .i64 (lnum d)) ∧ ∃ m, w'' = w1.drewN m) := Lib.hid fun n =>
            (letter_any d _).mono fun e w' ⟨h1, h2⟩ => ⟨h1, n, h2.symm⟩
          go_wp2
          by_cases hlc : lnum c < lnum d
          · have t6 : decide (lnum c < lnum d) = true := by simpa using hlc
            have HD2 : Hid (cmpW u v = -1) := Lib.hid (by rw [HC.out, HD.out]; simp [hlc])
            clear hlc
            go_quiet ((first | (go_at_call 63; with_reducible exact hc1.out _) | (go_at_call 63; with_reducible exact hd1.out _)))
            go_wp2
            go_ret
            obtain ⟨q, rfl⟩ := HW.out
            exact ⟨by rw [HD2.out]; rfl, _, World.drewN_drewN _ _ _⟩
          · have t6 : decide (lnum c < lnum d) = false := by simpa using hlc
            have HD2 : Hid (cmpW u v = 1) := Lib.hid (by rw [HC.out, HD.out]; simp [hlc])
            clear hlc
            go_quiet ((first | (go_at_call 63; with_reducible exact hc1.out _) | (go_at_call 63; with_reducible exact hd1.out _)))
            go_wp2
            go_ret
            obtain ⟨q, rfl⟩ := HW.out
            exact ⟨by rw [HD2.out]; rfl, _, World.drewN_drewN _ _ _⟩
      · obtain rfl : k = v.length := by omega
        have HD : Hid (cmpW u v = 0) := Lib.hid (by
          rw [HC.out, hd, List.drop_of_length_le (Nat.le_refl v.length), List.drop_of_length_le (by rw [HE.out]; exact Nat.le_refl _)]; rfl)
        clear hd
        go_wp2
        go_ret
        exact ⟨by rw [HD.out]; rfl, n, rfl⟩
  · by_cases hl : u.length < v.length
    · have HC : Hid (cmpW u v = -1) := Lib.hid (by unfold cmpW; rw [if_neg he, if_pos hl])
      have t3 : decide (u.length < v.length) = true := by simpa using hl
      go_enter Try.func95, Try.ntmps95
      go_wp2
      go_ret
      exact ⟨by rw [HC.out]; rfl, 0, rfl⟩
    · have HC : Hid (cmpW u v = 1) := Lib.hid (by unfold cmpW; rw [if_neg he, if_neg hl])
      have t3 : decide (u.length < v.length) = false := by simpa using hl
      go_enter Try.func95, Try.ntmps95
      go_wp2
      go_ret
      exact ⟨by rw [HC.out]; rfl, 0, rfl⟩
end Go.Proofs.Ytdcphheeapmjcaa
/-
  CONTRACTS: the specification's CompareWords, JoinReduced.
-/
namespace Go.Proofs.Ytdcphheeapmjcaa
open Go.ChangeShapes Go.WideShapes Go.ChangeAt Go.RowKit
open Wd
end Go.Proofs.Ytdcphheeapmjcaa
/-
  LAWS OF WORDS, given the program's own contracts: the law returns true.
-/
namespace Go.Proofs.Ytdcphheeapmjcaa
open Go.ChangeShapes Go.WideShapes Go.ChangeAt Go.RowKit
open Wd
end Go.Proofs.Ytdcphheeapmjcaa
/-
  CONTRACTS: the specification's IsReduced, JoinReduced.
-/
namespace Go.Proofs.Ytdcphheeapmjcaa
open Go.ChangeShapes Go.WideShapes Go.ChangeAt Go.RowKit
open Wd
theorem txt_inj {a b : List UInt8} : txt a = txt b ↔ a = b := by
  constructor
  · intro h
    have := congrArg (fun t => t.data.toList) h
    simpa [txt] using this
  · rintro rfl; rfl
theorem txt_beq (a b : List UInt8) : ((txt a).toList == (txt b).toList) = decide (a = b) := by
  rw [ByteArray.toList_eq, ByteArray.toList_eq]
  simp only [txt]
  by_cases h : a = b
  · subst h; simp
  · simp [h]
end Go.Proofs.Ytdcphheeapmjcaa
/-
  CONTRACT: the specification's CommonStart.
-/
namespace Go.Proofs.Ytdcphheeapmjcaa
open Go.ChangeShapes Go.WideShapes Go.ChangeAt Go.RowKit
open Wd
/-- how many letters two words begin with in common -/
def comL : List UInt8 → List UInt8 → Nat
  | c :: r, d :: s => if c = d then comL r s + 1 else 0
  | _, _ => 0
theorem comL_nil (u : List UInt8) : comL u [] = 0 := by cases u <;> rfl
end Go.Proofs.Ytdcphheeapmjcaa
/-
  MORE LAWS OF WORDS, given the program's own contracts: the law returns true.
-/
namespace Go.Proofs.Ytdcphheeapmjcaa
open Go.ChangeShapes Go.WideShapes Go.ChangeAt Go.RowKit
open Wd
theorem drewN_below {B : Nat} {w w1 : World} (h : ∃ n, w1 = w.drewN n) : Below B w w1 := by
  obtain ⟨n, rfl⟩ := h
  exact ⟨rfl, rfl, rfl, Nat.le_refl _, fun _ _ => rfl⟩
theorem same_below {B : Nat} {w w1 : World} (h : w = w1) : Below B w w1 := h ▸ Below.refl _ _
end Go.Proofs.Ytdcphheeapmjcaa
