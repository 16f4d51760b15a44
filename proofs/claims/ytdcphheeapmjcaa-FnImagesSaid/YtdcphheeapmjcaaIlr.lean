/-
  CONTRACTS: the program's (letters).reduced, isReduced, limitedText, IsReduced, ReduceWord.
-/
import Derived.Test.YtdcphheeapmjcaaIrd
import Derived.Test.YtdcphheeapmjcaaIrw
import Derived.Test.YtdcphheeapmjcaaItx
import Derived.Test.YtdcphheeapmjcaaWdx
namespace Go.Proofs.Ytdcphheeapmjcaa
open Go.ChangeShapes Go.WideShapes Go.ChangeAt Go.RowKit Go.Shelf
open Wd
theorem OwnL.lower {b1 b2 : Nat} (h : b1 ≤ b2) {v : Value} {l : List UInt8} {w : World} : OwnL b2 v l w → OwnL b1 v l w := by
  rintro ⟨h1, h2⟩
  refine ⟨h1, ?_⟩
  rcases h2 with h2 | ⟨g, cap, cur, e, hb, r⟩
  · exact .inl h2
  · exact .inr ⟨g, cap, cur, e, Nat.le_trans h hb, r⟩
/-- what comes of letters: a row of the call's own -/
def LetPost (r : List UInt8) (w : World) (e : Ending) (w' : World) : Prop := ∃ v, e = .returned v ∧ OwnL w.heap.size v r w' ∧ Below w.heap.size w w'
theorem lreduced_any (v : Value) (l : List UInt8) (hl : ∀ c ∈ l, isL c = true) (hm : l.length ≤ 4000000) (w : World) (hI : LRow w.heap.size w v l) :
    Calls Try.prog 79 #[v] w (LetPost (red l) w) := by
  obtain ⟨a0, cap0, rfl⟩ := hI.len
  have hr : Hid (∀ w1, w1 = w.alloc (.cells #[.slice a0 l.length cap0] 71) → Calls Try.prog 70 #[.func (.func 118) #[] #[.pointer (some ⟨w.heap.size, 0, none⟩)]] w1 (LetPost (red l) w)) := Lib.hid fun w1 e1 => by
    have B1 : Below w.heap.size w w1 := by rw [e1]; exact (Below.refl _ w).alloc (Nat.le_refl _) _
    have hs : w1.heap.size = w.heap.size + 1 := by rw [e1]; simp
    have hcell : w1.cell? ⟨w.heap.size, 0, none⟩ = some (.slice a0 l.length cap0) := by rw [e1]; simp
    have hseq := lvalues_stops Fence.wide 2 trivial rfl (by omega) w.heap.size w1.heap.size (.slice a0 l.length cap0) l hl hm w1 (by omega) (Nat.le_refl _) hcell ((hI.below B1).up (by omega))
    have := callsIn_wide.1 (ireduced_in Fence.wide 3 trivial trivial rfl (by omega) 118 #[.pointer (some ⟨w.heap.size, 0, none⟩)] trivial (enters_of Try.func118 (by kernel_rfl) rfl) l hm w1 hseq)
    exact this.mono fun e w' ⟨v, h1, h2, h3⟩ => ⟨v, h1, h2.lower (by omega), B1.trans (h3.mono (by omega))⟩
  clear hI
  go_enter Try.func79, Try.ntmps79
  go_wp2_with fail
  refine (lvalues_any a0 l.length cap0 w).mono ?_
  rintro e w1 ⟨rfl, rfl⟩
  go_wp2_with fail
  refine (hr.out _ rfl).mono ?_
  rintro e w2 ⟨v, rfl, h2, h3⟩
  go_wp2
  go_ret
  exact ⟨v, rfl, h2, h3⟩
theorem lisred_any (v : Value) (l : List UInt8) (hl : ∀ c ∈ l, isL c = true) (hm : l.length ≤ 4000000) (w : World) (hI : LRow w.heap.size w v l) :
    Calls Try.prog 80 #[v] w fun e w' => e = .returned (.bool (decide (red l = l))) ∧ Below w.heap.size w w' := by
  have hr := Lib.hid (lreduced_any v l hl hm w hI)
  obtain ⟨a0, cap0, rfl⟩ := hI.len
  have P : Hid ((((red l).length : Int) == (l.length : Int)) = decide (red l = l)) := Lib.hid (by
    have := @red_full l
    by_cases h : red l = l
    · rw [decide_eq_true h, this.2 h]; simp
    · rw [decide_eq_false h, beq_eq_false_iff_ne]
      exact fun e => h (this.1 (by omega)))
  generalize decide (red l = l) = b at P ⊢
  clear hI hl
  go_enter Try.func80, Try.ntmps80
  go_wp2_with fail
  refine hr.out.mono ?_
  rintro e w2 ⟨v2, rfl, h2, h3⟩
  obtain ⟨a2, cap2, rfl⟩ := h2.len
  have P2 := P.out
  go_wp2
  go_ret
  exact ⟨by first | rfl | simp [P.out], h3⟩
theorem iisred_any (l : List UInt8) (hm : l.length ≤ 4000000) (w : World) :
    Calls Try.prog 42 #[.string (txt l)] w fun e w' => e = .returned (.tuple #[.bool (wordB l && decide (red l = l)), .int .i64 (if wordB l then 0 else 1)]) ∧ Below w.heap.size w w' := by
  cases h : wordB l
  · have hr := Lib.hid (read_no l hm h)
    go_enter Try.func42, Try.ntmps42
    go_wp2_with (go_at_call 64; refine (hr.out _).mono ?_; rintro e w' ⟨rfl, B⟩)
    go_ret2
    exact ⟨rfl, B⟩
  · have hr := Lib.hid (read_yes l h)
    have HL := Lib.hid (wordB_lets h)
    show Calls _ _ _ _ fun e w' => e = .returned (.tuple #[.bool (decide (red l = l)), .int .i64 0]) ∧ Below w.heap.size w w'
    have hi : Hid (∀ v w, LRow w.heap.size w v l → Calls Try.prog 80 #[v] w fun e w' => e = .returned (.bool (decide (red l = l))) ∧ Below w.heap.size w w') := Lib.hid fun v w h1 => lisred_any v l HL.out hm w h1
    generalize decide (red l = l) = b at hi ⊢
    go_enter Try.func42, Try.ntmps42
    go_wp2_with fail
    refine (hr.out _).mono ?_
    rintro e w1 ⟨v, rfl, O, B⟩
    have R := Lib.hid O.row
    go_wp2_with fail
    refine (hi.out _ _ R.out).mono ?_
    rintro e w2 ⟨rfl, B2⟩
    go_wp2
    go_ret2
    exact ⟨rfl, B.trans (B2.mono B.size)⟩
theorem iredword_any (l : List UInt8) (hm : l.length ≤ 4000000) (w : World) :
    Calls Try.prog 41 #[.string (txt l)] w (TextPost (if wordB l then red l else []) (if wordB l then 0 else 1) w) := by
  cases h : wordB l
  · have hr := Lib.hid (read_no l hm h)
    go_enter Try.func41, Try.ntmps41
    go_wp2_with (go_at_call 64; refine (hr.out _).mono ?_; rintro e w' ⟨rfl, B⟩)
    go_ret2
    exact ⟨rfl, B⟩
  · have hr := Lib.hid (read_yes l h)
    have HL := Lib.hid (wordB_lets h)
    have HR := Lib.hid (red_letters HL.out)
    go_enter Try.func41, Try.ntmps41
    go_wp2_with fail
    refine (hr.out _).mono ?_
    rintro e w1 ⟨v, rfl, O, B⟩
    have hi := Lib.hid (lreduced_any v l HL.out hm w1 O.row)
    go_wp2_with fail
    refine hi.out.mono ?_
    rintro e w2 ⟨v2, rfl, O2, B2⟩
    have ht := Lib.hid (itext_any v2 (red l) HR.out (by have := red_length l; omega) w2 O2.row)
    go_wp2_with fail
    refine ht.out.mono ?_
    rintro e w3 ⟨rfl, B3⟩
    go_wp2
    go_ret2
    exact ⟨rfl, (B.trans (B2.mono B.size)).trans (B3.mono (Nat.le_trans B.size B2.size))⟩
end Go.Proofs.Ytdcphheeapmjcaa
