/-
  THE LAW OF 'DotOf', WALKED.
-/
import Derived.Test.YtjlghkhadfcfdaaDot3
namespace Go.Proofs.Ytjlghkhadfcfdaa
open Go.ChangeShapes Go.WideShapes Go.ChangeAt Go.RowKit Go.Deep
open Fl
def codeD (lx ly : Nat) : Int := if 256 < lx ∨ 256 < ly then 3 else if lx = ly then 0 else 2
def AnsD (lx ly : Nat) (bs cs : List Nat) (r : Nat) : Prop := if codeD lx ly = 0 then rep (sumO (prod bs cs) lx) r else r = 0
def DotPost (lx ly : Nat) (bs cs : List Nat) (w : World) (e : Ending) (w' : World) : Prop :=
  ∃ r, e = .returned (.tuple #[.float .f32 r, .int .i64 (codeD lx ly)]) ∧ AnsD lx ly bs cs r ∧ Below w.heap.size w w'
theorem code_ok {lx ly : Nat} (h : codeD lx ly = 0) : lx = ly ∧ lx ≤ 256 := by
  unfold codeD at h
  split at h
  · omega
  · split at h <;> omega
theorem specDot_bad (x y lx ly : Nat) (w : World) (hx : lx ≤ 1048576) (hy : ly ≤ 1048576) (h : codeD lx ly ≠ 0) :
    Calls Try.prog 24 #[.slice (some ⟨x, 0, none⟩) lx lx, .slice (some ⟨y, 0, none⟩) ly ly] w fun e w' => e = .returned (.tuple #[.float .f32 0, .int .i64 (codeD lx ly)]) ∧ w = w' := by
  have hc : Hid (∀ w, Calls Try.prog 52 #[.slice (some ⟨x, 0, none⟩) lx lx, .slice (some ⟨y, 0, none⟩) ly ly] w fun e w' => e = .returned (.int .i64 (codeD lx ly)) ∧ w = w') := Lib.hid fun w => l01Two_any x y lx ly w hx hy
  have hb : (codeD lx ly != 0) = true := by simpa using h
  clear h hx hy
  go_enter Try.func24, Try.ntmps24
  go_wp2_with (go_at_call 52; refine (hc.out _).mono ?_; rintro e w' ⟨rfl, rfl⟩)
  go_ret2
  exact ⟨rfl, rfl⟩
theorem implDot_bad (x y lx ly : Nat) (w : World) (hx : lx ≤ 1048576) (hy : ly ≤ 1048576) (h : codeD lx ly ≠ 0) :
    Calls Try.prog 25 #[.slice (some ⟨x, 0, none⟩) lx lx, .slice (some ⟨y, 0, none⟩) ly ly] w fun e w' => e = .returned (.tuple #[.float .f32 0, .int .i64 (codeD lx ly)]) ∧ w = w' := by
  have hc : Hid (∀ w, Calls Try.prog 53 #[.slice (some ⟨x, 0, none⟩) lx lx, .slice (some ⟨y, 0, none⟩) ly ly] w fun e w' => e = .returned (.int .i64 (codeD lx ly)) ∧ w = w') := Lib.hid fun w => pairCode_any x y lx ly w hx hy
  have hb : (codeD lx ly != 0) = true := by simpa using h
  clear h hx hy
  go_enter Try.func25, Try.ntmps25
  go_wp2_with (go_at_call 53; refine (hc.out _).mono ?_; rintro e w' ⟨rfl, rfl⟩)
  go_ret2
  exact ⟨rfl, rfl⟩
theorem specDot_post (x y lx ly : Nat) (bs cs : List Nat) (w : World) (lx' : lx ≤ 1048576) (ly' : ly ≤ 1048576)
    (hx : ∀ i, i < lx → w.cell? ⟨x, i, none⟩ = some (.float .f32 (bs[i]?.getD 0))) (hy : ∀ i, i < ly → w.cell? ⟨y, i, none⟩ = some (.float .f32 (cs[i]?.getD 0))) :
    Calls Try.prog 24 #[.slice (some ⟨x, 0, none⟩) lx lx, .slice (some ⟨y, 0, none⟩) ly ly] w (DotPost lx ly bs cs w) := by
  by_cases h : codeD lx ly = 0
  · obtain ⟨rfl, hl⟩ := code_ok h
    exact (specDot_any x y lx bs cs w hl hx hy).mono fun e w' ⟨r, h1, h2, h3⟩ => ⟨r, by rw [h1, h], by rw [AnsD, if_pos h]; exact h2, Drew.below h3⟩
  · exact (specDot_bad x y lx ly w lx' ly' h).mono fun e w' ⟨h1, h2⟩ => ⟨0, h1, by rw [AnsD, if_neg h], by rw [h2]; exact Below.refl _ _⟩
theorem implDot_post (x y lx ly : Nat) (bs cs : List Nat) (w : World) (lx' : lx ≤ 1048576) (ly' : ly ≤ 1048576) (bx : x < w.heap.size) (byy : y < w.heap.size)
    (hx : ∀ i, i < lx → w.cell? ⟨x, i, none⟩ = some (.float .f32 (bs[i]?.getD 0))) (hy : ∀ i, i < ly → w.cell? ⟨y, i, none⟩ = some (.float .f32 (cs[i]?.getD 0))) :
    Calls Try.prog 25 #[.slice (some ⟨x, 0, none⟩) lx lx, .slice (some ⟨y, 0, none⟩) ly ly] w (DotPost lx ly bs cs w) := by
  by_cases h : codeD lx ly = 0
  · obtain ⟨rfl, hl⟩ := code_ok h
    exact (implDot_any x y lx bs cs w hl bx byy hx hy).mono fun e w' ⟨r, h1, h2, h3⟩ => ⟨r, by rw [h1, h], by rw [AnsD, if_pos h]; exact h2, h3⟩
  · exact (implDot_bad x y lx ly w lx' ly' h).mono fun e w' ⟨h1, h2⟩ => ⟨0, h1, by rw [AnsD, if_neg h], by rw [h2]; exact Below.refl _ _⟩
theorem two_dots {lx ly : Nat} {bs cs : List Nat} {r s : Nat} (h1 : AnsD lx ly bs cs r) (h2 : AnsD lx ly bs cs s) : Alike r s := by
  unfold AnsD at h1 h2
  by_cases h : codeD lx ly = 0
  · rw [if_pos h] at h1 h2; exact two_rep h1 h2
  · rw [if_neg h] at h1 h2; subst h1; subst h2; exact .inl ⟨rfl, by decide⟩
/-- cells of an elder block, later -/
theorem cells_later {w w' : World} {x len : Nat} {bs : List Nat} (hb : Below w.heap.size w w') (hx : x < w.heap.size)
    (h : ∀ i, i < len → w.cell? ⟨x, i, none⟩ = some (.float .f32 (bs[i]?.getD 0))) : ∀ i, i < len → w'.cell? ⟨x, i, none⟩ = some (.float .f32 (bs[i]?.getD 0)) := fun i hi => by
  rw [hb.cell (p := ⟨x, i, none⟩) hx]; exact h i hi
theorem fnExactDotOf_walk (a : Option Addr) (len cap : Nat) (bs : List Nat) (a2 : Option Addr) (len2 cap2 : Nat) (cs : List Nat) (w : World) (h : FRow w a len bs) (h2 : FRow w a2 len2 cs) :
    Calls Try.prog 7 #[.slice a len cap, .slice a2 len2 cap2] w fun e w' => e = .returned (.bool true) ∧ Below w.heap.size w w' := by
  by_cases hl : len ≤ 1048576
  · have hl' : decide ((1048576 : Int) < len) = false := by simp; omega
    by_cases hl2 : len2 ≤ 1048576
    · have hl2' : decide ((1048576 : Int) < len2) = false := by simp; omega
      have HL := Lib.hid hl
      have HL2 := Lib.hid hl2
      have HF := Lib.hid h
      have HF2 := Lib.hid h2
      clear h hl h2 hl2
      go_enter Try.func7, Try.ntmps7
      go_wp2_with fail
      refine (toF_made _ _ _ _ _ HF.out HL.out).mono ?_
      rintro e w1 ⟨rfl, m1⟩
      have M1 := Lib.hid m1; clear m1
      have b1 : Hid (Below w.heap.size w w1) := Lib.hid (M1.out.below (Nat.le_refl _))
      go_wp2_with fail
      refine (toF_made _ _ _ _ _ (HF2.out.later b1.out) HL2.out).mono ?_
      rintro e w2 ⟨rfl, m2⟩
      have M2 := Lib.hid m2; clear m2
      have b2 : Hid (Below w.heap.size w w2) := Lib.hid (b1.out.trans (M2.out.below b1.out.size))
      go_wp2_with fail
      refine (specDot_post _ _ _ _ bs cs _ HL.out HL2.out (cells_later (M2.out.below (Nat.le_refl _)) (by rw [M1.out.size]; omega) M1.out.cell) M2.out.cell).mono ?_
      rintro e w3 ⟨r, rfl, q1, d1⟩
      have Q1 := Lib.hid q1; clear q1
      have b3 : Hid (Below w.heap.size w w3) := Lib.hid (b2.out.trans (d1.mono b2.out.size))
      clear d1
      go_wp2_with fail
      refine (toF_made _ _ _ _ _ (HF.out.later b3.out) HL.out).mono ?_
      rintro e w4 ⟨rfl, m4⟩
      have M4 := Lib.hid m4; clear m4
      have b4 : Hid (Below w.heap.size w w4) := Lib.hid (b3.out.trans (M4.out.below b3.out.size))
      go_wp2_with fail
      refine (toF_made _ _ _ _ _ (HF2.out.later b4.out) HL2.out).mono ?_
      rintro e w5 ⟨rfl, m5⟩
      have M5 := Lib.hid m5; clear m5
      have b5 : Hid (Below w.heap.size w w5) := Lib.hid (b4.out.trans (M5.out.below b4.out.size))
      have C4 : Hid (∀ i, i < len → w5.cell? ⟨w3.heap.size, i, none⟩ = some (.float .f32 (bs[i]?.getD 0))) := Lib.hid (cells_later (M5.out.below (Nat.le_refl _)) (by rw [M4.out.size]; omega) M4.out.cell)
      have s3 : Hid (w3.heap.size < w5.heap.size) := Lib.hid (by rw [M5.out.size, M4.out.size]; omega)
      have s4 : Hid (w4.heap.size < w5.heap.size) := Lib.hid (by rw [M5.out.size]; omega)
      go_wp2_with fail
      refine (implDot_post _ _ _ _ bs cs _ HL.out HL2.out s3.out s4.out C4.out M5.out.cell).mono ?_
      rintro e w6 ⟨s, rfl, q2, d2⟩
      have Q2 := Lib.hid q2; clear q2
      have D2 := Lib.hid d2; clear d2
      have b6 : Hid (Below w.heap.size w w6) := Lib.hid (b5.out.trans (D2.out.mono b5.out.size))
      -- behind the answers' comparison, in whatever world the tape has left: both copies are held against new ones
      have key1 : Hid (∀ v, Drew w6 v → Calls Try.prog 21 #[.slice a len cap] v fun e w' => e = .returned (.slice (some ⟨v.heap.size, 0, none⟩) len len) ∧ Made v w' bs len) := Lib.hid fun v hv =>
        toF_made _ _ _ _ _ (HF.out.later (b6.out.trans hv.below)) HL.out
      have key2 : Hid (∀ v, Below w6.heap.size w6 v → Calls Try.prog 21 #[.slice a2 len2 cap2] v fun e w' => e = .returned (.slice (some ⟨v.heap.size, 0, none⟩) len2 len2) ∧ Made v w' cs len2) := Lib.hid fun v hv =>
        toF_made _ _ _ _ _ (HF2.out.later (b6.out.trans (hv.mono b6.out.size))) HL2.out
      have cx : Hid (∀ v, Below w6.heap.size w6 v → ∀ i, i < len → v.cell? ⟨w3.heap.size, i, none⟩ = some (.float .f32 (bs[i]?.getD 0))) := Lib.hid fun v hv =>
        cells_later (D2.out.trans (hv.mono D2.out.size)) s3.out C4.out
      have cy : Hid (∀ v, Below w6.heap.size w6 v → ∀ i, i < len2 → v.cell? ⟨w4.heap.size, i, none⟩ = some (.float .f32 (cs[i]?.getD 0))) := Lib.hid fun v hv =>
        cells_later (D2.out.trans (hv.mono D2.out.size)) s4.out M5.out.cell
      rcases two_dots Q1.out Q2.out with ⟨he, hk⟩ | ⟨hk1, hk2⟩
      · have hc1 := conv_num r hk
        have hc2 := conv_num s (he ▸ hk)
        have hw := widen_num s (he ▸ hk)
        have HE : Hid (widen s = widen r) := Lib.hid (by rw [he])
        clear he hk
        go_wp2_with fail
        refine (sameFloat_eq _ _ HE.out hw _).mono ?_
        rintro e w7 ⟨rfl, rfl⟩
        go_wp2_with fail
        refine (key1.out _ ⟨0, rfl⟩).mono ?_
        rintro e w8 ⟨rfl, m8⟩
        have M8 := Lib.hid m8; clear m8
        have b8 : Hid (Below w6.heap.size w6 w8) := Lib.hid (M8.out.below (Nat.le_refl _))
        go_wp2_with fail
        refine (eqF_drew _ _ _ bs _ HL.out (cx.out _ b8.out) M8.out.cell).mono ?_
        rintro e w9 ⟨rfl, d9⟩
        have b9 : Hid (Below w6.heap.size w6 w9) := Lib.hid (b8.out.trans d9.below)
        clear d9
        go_wp2_with fail
        refine (key2.out _ b9.out).mono ?_
        rintro e w10 ⟨rfl, m10⟩
        have M10 := Lib.hid m10; clear m10
        have b10 : Hid (Below w6.heap.size w6 w10) := Lib.hid (b9.out.trans (M10.out.below b9.out.size))
        go_wp2_with fail
        refine (eqF_drew _ _ _ cs _ HL2.out (cy.out _ b10.out) M10.out.cell).mono ?_
        rintro e w11 ⟨rfl, d11⟩
        have b11 : Hid (Below w6.heap.size w6 w11) := Lib.hid (b10.out.trans d11.below)
        clear d11
        go_wp2_with fail
        go_ret
        exact ⟨rfl, b6.out.trans (b11.out.mono b6.out.size)⟩
      · have hc1 := conv_nan r hk1
        have hc2 := conv_nan s hk2
        have hn1 := fun w => nanC64_nan r w
        have hn2 := fun w => nanC64_nan s w
        clear hk1 hk2
        go_wp2_with fail
        refine (sameFloat_nan _ _ (hn2 _) (hn1 _) _).mono ?_
        rintro e w7 ⟨rfl, rfl⟩
        go_wp2_with fail
        refine (key1.out _ ⟨2, rfl⟩).mono ?_
        rintro e w8 ⟨rfl, m8⟩
        have M8 := Lib.hid m8; clear m8
        have b8 : Hid (Below w6.heap.size w6 w8) := Lib.hid ((Drew.below ⟨2, rfl⟩ : Below w6.heap.size w6 (w6.drewN 2)).trans (M8.out.below (Nat.le_refl _)))
        go_wp2_with fail
        refine (eqF_drew _ _ _ bs _ HL.out (cx.out _ b8.out) M8.out.cell).mono ?_
        rintro e w9 ⟨rfl, d9⟩
        have b9 : Hid (Below w6.heap.size w6 w9) := Lib.hid (b8.out.trans d9.below)
        clear d9
        go_wp2_with fail
        refine (key2.out _ b9.out).mono ?_
        rintro e w10 ⟨rfl, m10⟩
        have M10 := Lib.hid m10; clear m10
        have b10 : Hid (Below w6.heap.size w6 w10) := Lib.hid (b9.out.trans (M10.out.below b9.out.size))
        go_wp2_with fail
        refine (eqF_drew _ _ _ cs _ HL2.out (cy.out _ b10.out) M10.out.cell).mono ?_
        rintro e w11 ⟨rfl, d11⟩
        have b11 : Hid (Below w6.heap.size w6 w11) := Lib.hid (b10.out.trans d11.below)
        clear d11
        go_wp2_with fail
        go_ret
        exact ⟨rfl, b6.out.trans (b11.out.mono b6.out.size)⟩
    · have hl2' : decide ((1048576 : Int) < len2) = true := by simp; omega
      clear h hl h2 hl2
      go_enter Try.func7, Try.ntmps7
      go_wp2
      go_ret
      exact ⟨rfl, Below.refl _ _⟩
  · have hl' : decide ((1048576 : Int) < len) = true := by simp; omega
    clear h hl h2
    go_enter Try.func7, Try.ntmps7
    go_wp2
    go_ret
    exact ⟨rfl, Below.refl _ _⟩
end Go.Proofs.Ytjlghkhadfcfdaa
