/-
  CONTRACT: the program's PowerWord.
-/
import Derived.Test.YtdcphheeapmjcaaIrp
namespace Go.Proofs.Ytdcphheeapmjcaa
open Go.ChangeShapes Go.WideShapes Go.ChangeAt Go.RowKit
open Wd
set_option maxHeartbeats 1000000 in
theorem ipower_any (l : List UInt8) (n : Int) (hm : l.length ≤ 4000000) (w : World) :
    Calls Try.prog 44 #[.string (txt l), .int .i64 n] w (powPost l n w) := by
  unfold powPost
  cases hb : wordB l
  · have hr := Lib.hid (read_no l hm hb)
    go_enter Try.func44, Try.ntmps44
    go_wp2_with (go_at_call 64; refine (hr.out _).mono ?_; rintro e w' ⟨rfl, B⟩)
    go_ret2
    exact ⟨rfl, B⟩
  · have hr := Lib.hid (read_yes l hb)
    by_cases hr2 : -40 ≤ n ∧ n ≤ 40
    · rw [if_pos hr2, if_pos rfl, if_pos hr2, if_pos rfl]
      have HL := Lib.hid (wordB_lets hb)
      have HN := wordB_len hb
      have tail : ∀ (q : List UInt8) (m : Nat), (∀ c ∈ q, isL c = true) → q.length ≤ 40 → m ≤ 40 → (red (rep q m)).length ≤ 1600 ∧ (∀ c ∈ red (rep q m), isL c = true) ∧ (rep q m).length ≤ 1600 ∧ (∀ c ∈ rep q m, isL c = true) := by
        intro q m hq hql hm2
        have h1 : (rep q m).length ≤ 1600 := by rw [rep_length]; exact Nat.mul_le_mul hm2 hql
        have h2 := red_length (rep q m)
        have h3 := rep_letters hq m
        exact ⟨by omega, red_letters h3, h1, h3⟩
      have TL := Lib.hid tail
      clear tail
      by_cases hneg : n < 0
      · obtain ⟨m, rfl⟩ : ∃ m : Nat, n = -((m : Int) + 1) := ⟨n.natAbs - 1, by omega⟩
        have e1 : (-((m : Int) + 1)).natAbs = m + 1 := by omega
        rw [if_pos hneg, e1, powR_rep]
        obtain ⟨l1, l2, l3, l4⟩ := TL.out (inv l) (m + 1) (inv_letters HL.out) (by rw [inv_length]; exact HN) (by omega)
        have hlim : Hid (∀ v3 w, LRow w.heap.size w v3 (red (rep (inv l) (m + 1))) → Calls Try.prog 72 #[v3] w (TextPost (if (red (rep (inv l) (m + 1))).length ≤ 40 then red (rep (inv l) (m + 1)) else []) (if (red (rep (inv l) (m + 1))).length ≤ 40 then 0 else 3) w)) := Lib.hid fun v3 w h => ilimited_any v3 _ l2 (by omega) w h
        have L3 := Lib.hid l3
        have L4 := Lib.hid l4
        generalize (if (red (rep (inv l) (m + 1))).length ≤ 40 then red (rep (inv l) (m + 1)) else []) = R at hlim ⊢
        generalize (if (red (rep (inv l) (m + 1))).length ≤ 40 then (0 : Int) else 3) = C at hlim ⊢
        have hm' : (m : Int) ≤ 39 := by omega
        clear hneg e1 l1 l2 l3 l4 hr2 hb
        go_enter Try.func44, Try.ntmps44
        go_wp2_with fail
        refine (hr.out _).mono ?_
        rintro e w1 ⟨v, rfl, O, B⟩
        have B1 := Lib.hid B
        have hi := Lib.hid (linv_any v l HL.out (by omega) w1 O.row)
        clear O B
        go_wp2_with fail
        refine hi.out.mono ?_
        rintro e w2 ⟨v2, rfl, O2, B2⟩
        have C2 : Hid (Below w.heap.size w w2) := Lib.hid (B1.out.trans (B2.mono B1.out.size))
        have hp := Lib.hid (fun x hx => lrepeat_any v2 (inv l) (by rw [inv_length]; exact HN) x (m + 1) hx (by omega) w2 O2.row)
        clear O2 B2 B1 hi
        go_wp2_with fail
        refine (hp.out _ (by omega)).mono ?_
        rintro e w3 ⟨v3, rfl, O3, B3⟩
        have C3 : Hid (Below w.heap.size w w3) := Lib.hid (C2.out.trans (B3.mono C2.out.size))
        have hq := Lib.hid (lreduced_any v3 _ L4.out (by have := L3.out; omega) w3 O3.row)
        clear O3 B3 C2 hp
        go_wp2_with fail
        refine hq.out.mono ?_
        rintro e w4 ⟨v4, rfl, O4, B4⟩
        have C4 : Hid (Below w.heap.size w w4) := Lib.hid (C3.out.trans (B4.mono C3.out.size))
        have ht := Lib.hid (hlim.out v4 w4 O4.row)
        clear O4 B4 C3 hq
        go_wp2_with fail
        refine ht.out.mono ?_
        rintro e w5 ⟨rfl, B5⟩
        go_wp2
        go_ret2
        exact ⟨rfl, C4.out.trans (B5.mono C4.out.size)⟩
      · obtain ⟨m, rfl⟩ : ∃ m : Nat, n = (m : Int) := ⟨n.natAbs, by omega⟩
        have e1 : ((m : Int)).natAbs = m := by omega
        rw [if_neg hneg, e1, powR_rep]
        obtain ⟨l1, l2, l3, l4⟩ := TL.out l m HL.out HN (by omega)
        have hlim : Hid (∀ v3 w, LRow w.heap.size w v3 (red (rep l m)) → Calls Try.prog 72 #[v3] w (TextPost (if (red (rep l m)).length ≤ 40 then red (rep l m) else []) (if (red (rep l m)).length ≤ 40 then 0 else 3) w)) := Lib.hid fun v3 w h => ilimited_any v3 _ l2 (by omega) w h
        have L3 := Lib.hid l3
        have L4 := Lib.hid l4
        generalize (if (red (rep l m)).length ≤ 40 then red (rep l m) else []) = R at hlim ⊢
        generalize (if (red (rep l m)).length ≤ 40 then (0 : Int) else 3) = C at hlim ⊢
        have hm' : (m : Int) ≤ 40 := by omega
        clear hneg e1 l1 l2 l3 l4 hr2 hb
        go_enter Try.func44, Try.ntmps44
        go_wp2_with fail
        refine (hr.out _).mono ?_
        rintro e w2 ⟨v2, rfl, O2, B2⟩
        have C2 : Hid (Below w.heap.size w w2) := Lib.hid B2
        have hp := Lib.hid (fun x hx => lrepeat_any v2 l HN x m hx (by omega) w2 O2.row)
        clear O2 B2
        go_wp2_with fail
        refine (hp.out _ (by omega)).mono ?_
        rintro e w3 ⟨v3, rfl, O3, B3⟩
        have C3 : Hid (Below w.heap.size w w3) := Lib.hid (C2.out.trans (B3.mono C2.out.size))
        have hq := Lib.hid (lreduced_any v3 _ L4.out (by have := L3.out; omega) w3 O3.row)
        clear O3 B3 C2 hp
        go_wp2_with fail
        refine hq.out.mono ?_
        rintro e w4 ⟨v4, rfl, O4, B4⟩
        have C4 : Hid (Below w.heap.size w w4) := Lib.hid (C3.out.trans (B4.mono C3.out.size))
        have ht := Lib.hid (hlim.out v4 w4 O4.row)
        clear O4 B4 C3 hq
        go_wp2_with fail
        refine ht.out.mono ?_
        rintro e w5 ⟨rfl, B5⟩
        go_wp2
        go_ret2
        exact ⟨rfl, C4.out.trans (B5.mono C4.out.size)⟩
    · rw [if_pos rfl, if_pos rfl, if_neg hr2, if_neg hr2]
      by_cases h1 : n < -40
      · go_enter Try.func44, Try.ntmps44
        go_wp2_with (go_at_call 64; refine (hr.out _).mono ?_; rintro e w' ⟨v, rfl, O, B⟩)
        go_ret2
        exact ⟨rfl, B⟩
      · have h1' : -40 ≤ n := by omega
        have h2 : 40 < n := by omega
        go_enter Try.func44, Try.ntmps44
        go_wp2_with (go_at_call 64; refine (hr.out _).mono ?_; rintro e w' ⟨v, rfl, O, B⟩)
        go_ret2
        exact ⟨rfl, B⟩
end Go.Proofs.Ytdcphheeapmjcaa
