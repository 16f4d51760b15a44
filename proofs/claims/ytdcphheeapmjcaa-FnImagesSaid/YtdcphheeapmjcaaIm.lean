/-
  CONTRACTS: l05Images, ValidImages of the specification.
-/
import Derived.Test.YtdcphheeapmjcaaSr
import Derived.Test.YtdcphheeapmjcaaGa
import Derived.Deep.RegionHeld3
namespace Go.Proofs.Ytdcphheeapmjcaa
open Go.ChangeShapes Go.WideShapes Go.ChangeAt Go.RowKit Go.Deep
open Wd
/-- a reduced word -/
def redB (l : List UInt8) : Bool := wordB l && decide (red l = l)
/-- images -/
def imgB (L : List (List UInt8)) : Bool := decide (L.length = 4) && L.all redB
theorem img_no {L : List (List UInt8)} {k : Nat} (hk : k < L.length) (h : redB L[k] = false) : imgB L = false := by
  unfold imgB
  have : L.all redB = false := by
    rw [List.all_eq_false]
    exact ⟨L[k], List.getElem_mem hk, by rw [h]; simp⟩
  rw [this, Bool.and_false]
theorem img_all {L : List (List UInt8)} (h : ∀ i (hi : i < L.length), redB L[i] = true) : imgB L = decide (L.length = 4) := by
  unfold imgB
  have : L.all redB = true := by
    rw [List.all_eq_true]
    intro x hx
    obtain ⟨i, hi, rfl⟩ := List.getElem_of_mem hx
    exact h i hi
  rw [this, Bool.and_true]
theorem txt_ne (a b : List UInt8) : ((txt a).toList == (txt b).toList) = decide (a = b) := by
  rw [ByteArray.toList_eq, ByteArray.toList_eq]
  simp only [txt]
  by_cases h : a = b
  · subst h; simp
  · simp [h]
set_option maxHeartbeats 4000000 in
theorem simages_any (a : Option Addr) (cap : Nat) (L : List (List UInt8)) (hL : SFew L) (w : World) (h : SRow w.heap.size w a L) :
    Calls Try.prog 66 #[.slice a L.length cap] w fun e w' => e = .returned (.bool (imgB L)) ∧ Below w.heap.size w w' := by
  have H := Lib.hid h
  have HL := Lib.hid hL.2
  have hl' : (L.length : Int) ≤ 1048576 := by have := hL.1; omega
  clear h hL
  have FN : Hid (∀ k (hk : k < L.length), redB L[k] = false → ∀ w', Below w.heap.size w w' → (Ending.returned (.bool false) = Ending.returned (.bool (imgB L)) ∧ Below w.heap.size w w')) := Lib.hid fun k hk hf w' b => ⟨by rw [img_no hk hf], b⟩
  have FY : Hid ((∀ i (hi : i < L.length), redB L[i] = true) → imgB L = decide (L.length = 4)) := Lib.hid img_all
  generalize imgB L = R at FN FY ⊢
  go_enter Try.func66, Try.ntmps66
  go_wp2
  go_loopw [3] (fun i wr => ∃ k : Nat, k ≤ L.length ∧ i = .int .i64 (k : Int) ∧ (∀ i (hi : i < L.length), i < k → redB L[i] = true) ∧ Below w.heap.size w wr) (fun i _ => L.length - (intOf i).toNat)
  case atStart => exact ⟨0, Nat.zero_le _, rfl, fun i _ h => by omega, Below.refl _ _⟩
  case round =>
    obtain ⟨k, hk, rfl, hall, hB⟩ := hrel
    have ALL := Lib.hid hall
    have HB := Lib.hid hB
    clear hall hB
    by_cases hlt : k < L.length
    · have t2 : decide (k < L.length) = true := by simpa using hlt
      have hk' : (k : Int) < (L.length : Int) := by omega
      obtain ⟨b, off, rfl, hb, hc⟩ := H.out.at hlt
      obtain ⟨l, hl⟩ : ∃ l, L[k]'hlt = l := ⟨_, rfl⟩
      have c1 : wr.cell? ⟨b, off + k, none⟩ = some (.string (txt l)) := by rw [← hl]; exact (HB.out.cell (p := ⟨b, off + k, none⟩) hb).trans hc
      have HK := Lib.hid hlt
      have hlk : l.length ≤ 1048576 := by rw [← hl]; exact HL.out k hlt
      have OK := Lib.hid (fun w => ok_any l (by omega) w)
      have RD2 := Lib.hid (fun (h : ∀ c ∈ l, isL c = true) w => reduce_any l h (by omega) w)
      have FK : Hid (redB l = false → ∀ w', Below w.heap.size w w' → (Ending.returned (.bool false) = Ending.returned (.bool R) ∧ Below w.heap.size w w')) := Lib.hid fun h => FN.out k hlt (by rw [hl]; exact h)
      have NXT : Hid (redB l = true → ∀ i (hi : i < L.length), i < k + 1 → redB L[i] = true) := Lib.hid fun hr i hi hik => by
        by_cases e : i = k
        · subst e; rw [hl]; exact hr
        · exact ALL.out i hi (by omega)
      have KA : ∀ w', Below wr.heap.size wr w' → Below wr.heap.size wr w' ∧ w'.cell? ⟨b, off + k, none⟩ = some (.string (txt l)) := fun w' hbw => ⟨hbw, (hbw.cell (p := ⟨b, off + k, none⟩) (Nat.lt_of_lt_of_le hb HB.out.size)).trans c1⟩
      clear hc hl hlt hk hlk
      cases hw : wordB l
      · rw [hw] at OK
        have hr : redB l = false := by unfold redB; rw [hw]; rfl
        have hoq : Hid (∀ m, Calls Try.prog 58 #[.string (txt l)] (wr.drewN m) fun e w'' => e = .returned (.bool false) ∧ ∃ q, w'' = wr.drewN q) := Lib.hid fun m => (OK.out _).mono fun e w' ⟨h1, h2⟩ => ⟨h1, m, h2.symm⟩
        have FK2 := Lib.hid (FK.out hr)
        clear FK NXT KA RD2 OK hr hw
        go_wp2
        go_quiet ((go_at_call 58; exact hoq.out _))
        go_wp2
        go_ret
        exact FK2.out _ (HB.out.trans ⟨rfl, rfl, rfl, Nat.le_refl _, fun _ _ => rfl⟩)
      · rw [hw] at OK
        have RD3 := Lib.hid (RD2.out (wordB_lets hw))
        have TQ := txt_ne (red l) l
        clear RD2
        cases hr : decide (red l = l)
        · rw [hr] at TQ
          have hrb : redB l = false := by unfold redB; rw [hw, hr]; rfl
          have FK2 := Lib.hid (FK.out hrb)
          clear FK NXT hrb hw hr
          generalize red l = r at *
          go_wp2
          go_region_held3 (fun w' => Below wr.heap.size wr w' ∧ w'.cell? ⟨b, off + k, none⟩ = some (.string (txt l)))
            (first | exact KA _ (Below.refl _ _).drew | exact KA _ (Below.trans (by assumption) (Below.mono (by assumption) (Below.size (by assumption)))) | exact KA _ ((Below.refl _ _).drew.trans (Below.mono (by assumption) (by simp))))
            (first | (go_at_call 58; refine (OK.out _).mono ?_; rintro e w' ⟨rfl, rfl⟩) | (go_at_call 89; refine (RD3.out _).mono ?_; rintro e w' ⟨rfl, hb⟩))
          rename_i hH
          have HH : Hid (Below w.heap.size w w') := Lib.hid (HB.out.trans (hH.1.mono HB.out.size))
          clear hH hb c1
          go_wp2
          go_ret
          exact FK2.out _ HH.out
        · rw [hr] at TQ
          have hrb : redB l = true := by unfold redB; rw [hw, hr]; rfl
          have NX := Lib.hid (NXT.out hrb)
          clear FK NXT hrb hw hr
          generalize red l = r at *
          go_wp2
          go_region_held3 (fun w' => Below wr.heap.size wr w' ∧ w'.cell? ⟨b, off + k, none⟩ = some (.string (txt l)))
            (first | exact KA _ (Below.refl _ _).drew | exact KA _ (Below.trans (by assumption) (Below.mono (by assumption) (Below.size (by assumption)))) | exact KA _ ((Below.refl _ _).drew.trans (Below.mono (by assumption) (by simp))))
            (first | (go_at_call 58; refine (OK.out _).mono ?_; rintro e w' ⟨rfl, rfl⟩) | (go_at_call 89; refine (RD3.out _).mono ?_; rintro e w' ⟨rfl, hb⟩))
          rename_i hH
          have HH : Hid (Below w.heap.size w w') := Lib.hid (HB.out.trans (hH.1.mono HB.out.size))
          clear hH hb c1 KA
          go_wp2
          go_roundw
          case rel => exact ⟨k + 1, HK.out, by go_num, NX.out, HH.out⟩
          case measure => have := HK.out; simp [intOf]; omega
    · obtain rfl : k = L.length := by omega
      have RQ := FY.out (fun i hi => ALL.out i hi hi)
      clear hlt hk
      by_cases h4 : L.length = 4
      · have t4 : ((L.length : Int) == 4) = true := by rw [h4]; rfl
        have R1 : Hid (R = true) := Lib.hid (by rw [RQ, h4]; rfl)
        clear h4 RQ
        go_wp2
        go_ret
        exact ⟨by rw [R1.out]; rfl, HB.out⟩
      · have t4 : ((L.length : Int) == 4) = false := by rw [beq_eq_false_iff_ne]; omega
        have R1 : Hid (R = false) := Lib.hid (by rw [RQ]; exact decide_eq_false h4)
        clear h4 RQ
        go_wp2
        go_ret
        exact ⟨by rw [R1.out]; rfl, HB.out⟩
theorem svalidim_any (a : Option Addr) (cap : Nat) (L : List (List UInt8)) (hL : SFew L) (w : World) (h : SRow w.heap.size w a L) :
    Calls Try.prog 27 #[.slice a L.length cap] w fun e w' => e = .returned (.bool (imgB L)) ∧ Below w.heap.size w w' := by
  have HI := Lib.hid (simages_any a cap L hL w h)
  clear h hL
  go_enter Try.func27, Try.ntmps27
  go_wp2_with fail
  refine HI.out.mono ?_
  rintro e w' ⟨rfl, b⟩
  go_wp2
  go_ret
  exact ⟨rfl, b⟩
end Go.Proofs.Ytdcphheeapmjcaa
