/-
  CONTRACTS: the program's (letters).reduced, isReduced, limitedText, IsReduced, ReduceWord.
-/
import Derived.Test.YthcbejabpblacaaIrd
import Derived.Test.YthcbejabpblacaaIrw
import Derived.Test.YthcbejabpblacaaItx
import Derived.Test.YthcbejabpblacaaWdx
namespace Go.Proofs.Ythcbejabpblacaa
open Go.ChangeShapes Go.WideShapes Go.ChangeAt Go.RowKit Go.Shelf
open Wd
theorem OwnL.lower {b1 b2 : Nat} (h : b1 ≤ b2) {v : Value} {l : List UInt8} {w : World} : OwnL b2 v l w → OwnL b1 v l w := by
  rintro ⟨h1, h2⟩
  refine ⟨h1, ?_⟩
  rcases h2 with h2 | ⟨g, cap, cur, e, hb, r⟩
  · exact .inl h2
  · exact .inr ⟨g, cap, cur, e, Nat.le_trans h hb, r⟩
/-- what comes of letters: a row of the call's own -/
def LetPost (r : List UInt8) (w : World) (e : Ending) (w' : World) : Prop := ∃ v, e = .returned v ∧ OwnL w.heap.size v r w' ∧ Below w.heap.size w w'
theorem lreduced_any (v : Value) (l : List UInt8) (hl : ∀ c ∈ l, isL c = true) (hm : l.length ≤ 4000000) (w : World) (hI : LRow w.heap.size w v l) :
    Calls Try.prog 64 #[v] w (LetPost (red l) w) := by
  obtain ⟨a0, cap0, rfl⟩ := hI.len
  have hr : Hid (∀ w1, w1 = w.alloc (.cells #[.slice a0 l.length cap0] 53) → Calls Try.prog 55 #[.func (.func 86) #[] #[.pointer (some ⟨w.heap.size, 0, none⟩)]] w1 (LetPost (red l) w)) := Lib.hid fun w1 e1 => by
    have B1 : Below w.heap.size w w1 := by rw [e1]; exact (Below.refl _ w).alloc (Nat.le_refl _) _
    have hs : w1.heap.size = w.heap.size + 1 := by rw [e1]; simp
    have hcell : w1.cell? ⟨w.heap.size, 0, none⟩ = some (.slice a0 l.length cap0) := by rw [e1]; simp
    have hseq := lvalues_stops Fence.wide 2 trivial rfl (by omega) w.heap.size w1.heap.size (.slice a0 l.length cap0) l hl hm w1 (by omega) (Nat.le_refl _) hcell ((hI.below B1).up (by omega))
    have := callsIn_wide.1 (ireduced_in Fence.wide 3 trivial trivial rfl (by omega) 86 #[.pointer (some ⟨w.heap.size, 0, none⟩)] trivial (enters_of Try.func86 (by kernel_rfl) rfl) l hm w1 hseq)
    exact this.mono fun e w' ⟨v, h1, h2, h3⟩ => ⟨v, h1, h2.lower (by omega), B1.trans (h3.mono (by omega))⟩
  clear hI
  go_enter Try.func64, Try.ntmps64
  go_wp2_with fail
  refine (lvalues_any a0 l.length cap0 w).mono ?_
  rintro e w1 ⟨rfl, rfl⟩
  go_wp2_with fail
  refine (hr.out _ rfl).mono ?_
  rintro e w2 ⟨v, rfl, h2, h3⟩
  go_wp2
  go_ret
  exact ⟨v, rfl, h2, h3⟩
theorem lisred_any (v : Value) (l : List UInt8) (hl : ∀ c ∈ l, isL c = true) (hm : l.length ≤ 4000000) (w : World) (hI : LRow w.heap.size w v l) :
    Calls Try.prog 69 #[v] w fun e w' => e = .returned (.bool (decide (red l = l))) ∧ Below w.heap.size w w' := by
  have hr := Lib.hid (lreduced_any v l hl hm w hI)
  obtain ⟨a0, cap0, rfl⟩ := hI.len
  have P : Hid ((((red l).length : Int) == (l.length : Int)) = decide (red l = l)) := Lib.hid (by
    have := @red_full l
    by_cases h : red l = l
    · rw [decide_eq_true h, this.2 h]; simp
    · rw [decide_eq_false h, beq_eq_false_iff_ne]
      exact fun e => h (this.1 (by omega)))
  generalize decide (red l = l) = b at P ⊢
  clear hI hl
  go_enter Try.func69, Try.ntmps69
  go_wp2_with fail
  refine hr.out.mono ?_
  rintro e w2 ⟨v2, rfl, h2, h3⟩
  obtain ⟨a2, cap2, rfl⟩ := h2.len
  have P2 := P.out
  go_wp2
  go_ret
  exact ⟨by first | rfl | simp [P.out], h3⟩
end Go.Proofs.Ythcbejabpblacaa
