/-
  CONTRACTS: CellsOfPicture by both sides (the program's given its sort).
-/
import Derived.Test.YthfmkejdpflpcaaJj
import Derived.Test.YthfmkejdpflpcaaJg
namespace Go.Proofs.Ythfmkejdpflpcaa
open Go.ChangeShapes Go.WideShapes Go.ChangeAt Go.RowKit
/-- the cells of a picture in order -/
def IsC (f : Nat → Int) (n : Nat) (L : List (Int × Int)) : Prop := L.Perm (blL f n) ∧ L.Pairwise (fun a b => ¬ ltP b a)
theorem blL_count (f : Nat → Int) : ∀ n, (blL f n).length = cntF f n
  | 0 => rfl
  | n + 1 => by
    show (blL f n ++ colL f n 16).length = cntF f n + (cellL (mkF f n)).length
    rw [List.length_append, blL_count f n, colL_map f n 16 (Nat.le_refl _), List.length_map]
theorem IsC.uniq {f : Nat → Int} {n : Nat} {L L' : List (Int × Int)} (h : IsC f n L) (h' : IsC f n L') : L = L' := by
  refine (h.1.trans h'.1.symm).eq_of_pairwise (fun a b _ _ h1 h2 => ?_) h.2 h'.2
  unfold ltP at h1 h2
  rcases a with ⟨a1, a2⟩
  rcases b with ⟨b1, b2⟩
  simp only at h1 h2
  rw [Prod.mk.injEq]
  omega
theorem GL.isC {f : Nat → Int} {n : Nat} {A : List (Int × Int)} (hv : validP f n = true) (h : GL f n n A) : IsC f n A := ⟨h.perm, (h.asc hv).1.imp fun {a b} hab hba => by unfold ltP at hab hba; omega⟩
theorem IsC.len {f : Nat → Int} {n : Nat} {L : List (Int × Int)} (h : IsC f n L) : L.length = cntF f n := h.1.length_eq.trans (blL_count f n)
def cqC (f : Nat → Int) (n : Nat) : Int := if validP f n = true then (if cntF f n ≤ 1024 then 0 else 3) else 1
def CqPost (f : Nat → Int) (n : Nat) (w : World) (e : Ending) (w' : World) : Prop := ∃ v L, e = .returned (.tuple #[v, .int .i64 (cqC f n)]) ∧ (cqC f n = 0 → IsC f n L) ∧ (cqC f n ≠ 0 → L = []) ∧ L.length ≤ 1024 ∧ OW w.heap.size v L w' ∧ Below w.heap.size w w'
theorem ow_mono {B B' : Nat} {v : Value} {L : List (Int × Int)} {w : World} (hb : B' ≤ B) (h : OW B v L w) : OW B' v L w := own_mono hb h
theorem ow_made (w : World) : OW w.heap.size (.slice (some ⟨w.heap.size, 0, none⟩) 0 0) [] (w.alloc (.cells #[] 45)) := World.ownsRow_made (base := w.heap.size) (size := 2) (e := 45) w #[] 0 (Nat.le_refl _) (by unfold maxLen; omega) rfl
set_option maxRecDepth 20000 in
set_option maxHeartbeats 8000000 in
theorem sCellsPic_any (a : Option Addr) (n cap : Nat) (f : Nat → Int) (w : World) (hn : n ≤ 1048576) (h : BlR w.heap.size w a n f) (hf : BlF n f) :
    Calls Try.prog 24 #[.slice a n cap] w (CqPost f n w) := by
  unfold CqPost
  have OK := Lib.hid (sOk_any a n cap f w.heap.size w (Nat.le_refl _) hn h hf)
  cases hv : validP f n with
  | false =>
    have E2 : cqC f n = 1 := by unfold cqC; rw [hv]; exact if_neg (by decide)
    rw [E2]
    rw [hv] at OK
    clear hv E2 h hf hn
    go_enter Try.func24, Try.ntmps24
    go_wp2_with fail
    refine OK.out.mono ?_
    rintro e w1 ⟨rfl, b⟩
    have B1 := Lib.hid b
    clear b OK
    go_wp2
    exact bodyPost_ret (v := .tuple #[.slice (some ⟨w1.heap.size, 0, none⟩) 0 0, .int .i64 1]) (by simp [results, Try.results24, go_sem]) rfl ⟨_, [], rfl, fun h => absurd h (by decide), fun _ => rfl, by decide, ow_mono B1.out.size (ow_made w1), B1.out.alloc B1.out.size _⟩
  | true =>
    have CE : Hid (∀ W, Below w.heap.size w W → Calls Try.prog 62 #[.slice a n cap] W fun e w' => ∃ a2 c2 L, e = .returned (.slice a2 (cntF f n) c2) ∧ IsC f n L ∧ OW W.heap.size (.slice a2 (cntF f n) c2) L w' ∧ Below W.heap.size W w') := Lib.hid fun W hW => (cells_any a n cap f W hv (h.below hW hW.size) hf).mono fun e w' ⟨v, L, he, hg, ho, hb⟩ => by
      obtain ⟨a2, c2, rfl⟩ := ow_len ho
      rw [hg.count] at he ho
      exact ⟨a2, c2, L, he, hg.isC hv, ho, hb⟩
    have HC := cntF_le f n
    have h64 := validP_le hv
    have cB : (cntF f n : Int) ≤ 16384 := by omega
    have E3 : cqC f n = if cntF f n ≤ 1024 then 0 else 3 := by unfold cqC; rw [hv]; rfl
    rw [hv] at OK
    have HL : Hid (∀ L, IsC f n L → L.length = cntF f n) := Lib.hid fun L h => h.len
    rw [E3]
    clear hv h hf hn HC h64 E3
    generalize cntF f n = c at CE HL cB ⊢
    by_cases hc : c ≤ 1024
    · have tc : (c : Int) ≤ 1024 := by omega
      have HCC := Lib.hid hc
      rw [if_pos hc]
      clear hc
      go_enter Try.func24, Try.ntmps24
      go_wp2_with fail
      refine OK.out.mono ?_
      rintro e w1 ⟨rfl, b⟩
      have B1 := Lib.hid b
      clear b OK
      go_wp2_with fail
      refine (CE.out _ B1.out).mono ?_
      rintro e w2 ⟨a2, c2, L, rfl, hL, ho, b⟩
      have B2 := Lib.hid (B1.out.trans (b.mono B1.out.size))
      have O2 := Lib.hid (ow_mono B1.out.size ho)
      have L2 := Lib.hid hL
      clear b CE ho hL
      go_wp2
      exact bodyPost_ret (v := .tuple #[.slice a2 c c2, .int .i64 0]) (by simp [results, Try.results24, go_sem]) rfl ⟨_, L, rfl, fun _ => L2.out, fun h => absurd rfl h, by rw [HL.out L L2.out]; exact HCC.out, O2.out, B2.out⟩
    · have tc : (1024 : Int) < (c : Int) := by omega
      rw [if_neg hc]
      clear hc
      go_enter Try.func24, Try.ntmps24
      go_wp2_with fail
      refine OK.out.mono ?_
      rintro e w1 ⟨rfl, b⟩
      have B1 := Lib.hid b
      clear b OK
      go_wp2_with fail
      refine (CE.out _ B1.out).mono ?_
      rintro e w2 ⟨a2, c2, L, rfl, hL, ho, b⟩
      have B2 := Lib.hid (B1.out.trans (b.mono B1.out.size))
      clear b CE ho hL
      go_wp2
      exact bodyPost_ret (v := .tuple #[.slice (some ⟨w2.heap.size, 0, none⟩) 0 0, .int .i64 3]) (by simp [results, Try.results24, go_sem]) rfl ⟨_, [], rfl, fun h => absurd h (by decide), fun _ => rfl, by decide, ow_mono B2.out.size (ow_made w2), B2.out.alloc B2.out.size _⟩
end Go.Proofs.Ythfmkejdpflpcaa
