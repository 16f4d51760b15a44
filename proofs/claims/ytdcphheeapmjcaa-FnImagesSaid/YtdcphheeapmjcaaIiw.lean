/-
  CONTRACTS: the program's inverse in a plain call, InverseWord, limitedText.
-/
import Derived.Test.YtdcphheeapmjcaaIiv
namespace Go.Proofs.Ytdcphheeapmjcaa
open Go.ChangeShapes Go.WideShapes Go.ChangeAt Go.RowKit
open Wd
theorem linv_any (v : Value) (l : List UInt8) (hl : ∀ c ∈ l, isL c = true) (hm : l.length ≤ 4000000) (w : World) (hI : LRow w.heap.size w v l) :
    Calls Try.prog 76 #[v] w (LetPost (inv l) w) :=
  callsIn_wide.1 (linv_in Fence.wide 4 trivial trivial trivial trivial rfl (by omega) v l hl hm w hI (fun a len cap w => callsIn_wide.2 (lback_any a len cap w)))
theorem iinvword_any (l : List UInt8) (hm : l.length ≤ 4000000) (w : World) :
    Calls Try.prog 39 #[.string (txt l)] w (TextPost (if wordB l then inv l else []) (if wordB l then 0 else 1) w) := by
  cases h : wordB l
  · have hr := Lib.hid (read_no l hm h)
    go_enter Try.func39, Try.ntmps39
    go_wp2_with (go_at_call 64; refine (hr.out _).mono ?_; rintro e w' ⟨rfl, B⟩)
    go_ret2
    exact ⟨rfl, B⟩
  · have hr := Lib.hid (read_yes l h)
    have HL := Lib.hid (wordB_lets h)
    have HR := Lib.hid (inv_letters HL.out)
    go_enter Try.func39, Try.ntmps39
    go_wp2_with fail
    refine (hr.out _).mono ?_
    rintro e w1 ⟨v, rfl, O, B⟩
    have hi := Lib.hid (linv_any v l HL.out hm w1 O.row)
    go_wp2_with fail
    refine hi.out.mono ?_
    rintro e w2 ⟨v2, rfl, O2, B2⟩
    have ht := Lib.hid (itext_any v2 (inv l) HR.out (by rw [inv_length]; omega) w2 O2.row)
    go_wp2_with fail
    refine ht.out.mono ?_
    rintro e w3 ⟨rfl, B3⟩
    go_wp2
    go_ret2
    exact ⟨rfl, (B.trans (B2.mono B.size)).trans (B3.mono (Nat.le_trans B.size B2.size))⟩
theorem ilimited_any (v : Value) (l : List UInt8) (hl : ∀ c ∈ l, isL c = true) (hm : l.length ≤ 4000000) (w : World) (hI : LRow w.heap.size w v l) :
    Calls Try.prog 72 #[v] w (TextPost (if l.length ≤ 40 then l else []) (if l.length ≤ 40 then 0 else 3) w) := by
  have ht := Lib.hid (itext_any v l hl hm w hI)
  obtain ⟨a0, cap0, rfl⟩ := hI.len
  clear hI hl
  by_cases h : l.length ≤ 40
  · rw [if_pos h, if_pos h]
    have t1 : decide ((40 : Int) < (l.length : Int)) = false := by simp; omega
    go_enter Try.func72, Try.ntmps72
    go_wp2_with (go_at_call 57; refine ht.out.mono ?_; rintro e w2 ⟨rfl, B⟩)
    go_ret2
    exact ⟨rfl, B⟩
  · rw [if_neg h, if_neg h]
    have t1 : decide ((40 : Int) < (l.length : Int)) = true := by simp; omega
    go_enter Try.func72, Try.ntmps72
    go_wp2
    go_ret2
    exact ⟨rfl, Below.refl _ _⟩
end Go.Proofs.Ytdcphheeapmjcaa
