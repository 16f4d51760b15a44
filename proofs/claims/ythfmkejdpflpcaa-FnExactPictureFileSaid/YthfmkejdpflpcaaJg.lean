/-
  CONTRACT: the specification's count of a picture's cells.
-/
import Derived.Test.YthfmkejdpflpcaaJf
namespace Go.Proofs.Ythfmkejdpflpcaa
open Go.ChangeShapes Go.WideShapes Go.ChangeAt Go.RowKit
theorem ow_len {B : Nat} {v : Value} {L : List (Int × Int)} {w : World} (h : OW B v L w) : ∃ a cap, v = .slice a L.length cap := by
  rcases h.2 with ⟨rfl, h0⟩ | ⟨g, cap, cur, rfl, _⟩
  · exact ⟨none, 0, by rw [h0]⟩
  · exact ⟨_, cap, rfl⟩
set_option maxRecDepth 20000 in
set_option maxHeartbeats 8000000 in
theorem sCountPic_any (a : Option Addr) (n cap : Nat) (f : Nat → Int) (w : World) (hn : n ≤ 1048576) (h : BlR w.heap.size w a n f) (hf : BlF n f) :
    Calls Try.prog 36 #[.slice a n cap] w fun e w' => e = .returned (.tuple #[.int .i64 (cpN f n), .int .i64 (cpC f n)]) ∧ Below w.heap.size w w' := by
  have OK := Lib.hid (sOk_any a n cap f w.heap.size w (Nat.le_refl _) hn h hf)
  cases hv : validP f n with
  | false =>
    have E1 : cpN f n = 0 := by unfold cpN; rw [hv]; exact if_neg (by decide)
    have E2 : cpC f n = 1 := by unfold cpC; rw [hv]; exact if_neg (by decide)
    rw [E1, E2]
    rw [hv] at OK
    clear hv E1 E2 h hf hn
    go_enter Try.func36, Try.ntmps36
    go_wp2_with fail
    refine OK.out.mono ?_
    rintro e w1 ⟨rfl, b⟩
    have B1 := Lib.hid b
    clear b OK
    go_wp2
    exact bodyPost_ret (v := .tuple #[.int .i64 0, .int .i64 1]) (by simp [results, Try.results36, go_sem]) rfl ⟨rfl, B1.out⟩
  | true =>
    have E1 : cpN f n = (cntF f n : Int) := by unfold cpN; rw [hv]; rfl
    have E2 : cpC f n = 0 := by unfold cpC; rw [hv]; rfl
    have CE : Hid (∀ W, Below w.heap.size w W → Calls Try.prog 62 #[.slice a n cap] W fun e w' => ∃ a2 c2, e = .returned (.slice a2 (cntF f n) c2) ∧ Below W.heap.size W w') := Lib.hid fun W hW => (cells_any a n cap f W hv (h.below hW hW.size) hf).mono fun e w' ⟨v, L, he, hg, ho, hb⟩ => by
      obtain ⟨a2, c2, rfl⟩ := ow_len ho
      rw [hg.count] at he
      exact ⟨a2, c2, he, hb⟩
    rw [E1, E2]
    rw [hv] at OK
    clear hv E1 E2 h hf hn
    generalize cntF f n = c at CE ⊢
    go_enter Try.func36, Try.ntmps36
    go_wp2_with fail
    refine OK.out.mono ?_
    rintro e w1 ⟨rfl, b⟩
    have B1 := Lib.hid b
    clear b OK
    go_wp2_with fail
    refine (CE.out _ B1.out).mono ?_
    rintro e w2 ⟨a2, c2, rfl, b⟩
    have B2 := Lib.hid (B1.out.trans (b.mono B1.out.size))
    clear b CE
    go_wp2
    exact bodyPost_ret (v := .tuple #[.int .i64 (c : Int), .int .i64 0]) (by simp [results, Try.results36, go_sem]) rfl ⟨rfl, B2.out⟩
end Go.Proofs.Ythfmkejdpflpcaa
