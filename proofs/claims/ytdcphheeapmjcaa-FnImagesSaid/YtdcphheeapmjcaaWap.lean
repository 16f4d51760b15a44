/-
  CONTRACTS: l05Apply, ApplyImages of the specification.
-/
import Derived.Test.YtdcphheeapmjcaaIm
import Derived.Test.YtdcphheeapmjcaaGa
namespace Go.Proofs.Ytdcphheeapmjcaa
open Go.ChangeShapes Go.WideShapes Go.ChangeAt Go.RowKit Go.Deep
open Wd
/-- the image of a letter -/
def imgC (L : List (List UInt8)) (c : UInt8) : List UInt8 := if (lnum c).toNat % 2 = 0 then L[(lnum c).toNat / 2]?.getD [] else inv (L[(lnum c).toNat / 2]?.getD [])
/-- the letters of the images of the letters of a word -/
def apL (L : List (List UInt8)) (l : List UInt8) : List UInt8 := l.flatMap (imgC L)
theorem apL_snoc (L : List (List UInt8)) (l : List UInt8) (c : UInt8) : apL L (l ++ [c]) = apL L l ++ imgC L c := by simp [apL, List.flatMap_append]
theorem apL_step (L : List (List UInt8)) (l : List UInt8) (k : Nat) (h : k < l.length) : red (red (apL L (l.take k)) ++ imgC L l[k]) = red (apL L (l.take (k + 1))) := by
  rw [red_app, ← apL_snoc, take_snoc l k h]
theorem imgB_len {L : List (List UInt8)} (h : imgB L = true) : L.length = 4 := by
  unfold imgB at h
  exact of_decide_eq_true (Bool.and_eq_true_iff.1 h).1
theorem imgB_at {L : List (List UInt8)} (h : imgB L = true) (k : Nat) (hk : k < L.length) : redB L[k] = true := by
  unfold imgB at h
  exact List.all_eq_true.1 (Bool.and_eq_true_iff.1 h).2 _ (List.getElem_mem hk)
theorem redB_word {l : List UInt8} (h : redB l = true) : wordB l = true := by
  unfold redB at h
  exact (Bool.and_eq_true_iff.1 h).1
theorem imgB_get {L : List (List UInt8)} (h : imgB L = true) (j : Nat) (hj : j < 4) : wordB (L[j]?.getD []) = true := by
  have h4 := imgB_len h
  rw [List.getElem?_eq_getElem (by omega)]
  exact redB_word (imgB_at h j (by omega))
theorem lnum_two {c : UInt8} (h : isL c = true) : ∃ j : Nat, j < 4 ∧ (lnum c = 2 * (j : Int) ∨ lnum c = 2 * (j : Int) + 1) := by
  rcases lcases h with rfl | rfl | rfl | rfl | rfl | rfl | rfl | rfl
  · exact ⟨0, by omega, .inl rfl⟩
  · exact ⟨0, by omega, .inr rfl⟩
  · exact ⟨1, by omega, .inl rfl⟩
  · exact ⟨1, by omega, .inr rfl⟩
  · exact ⟨2, by omega, .inl rfl⟩
  · exact ⟨2, by omega, .inr rfl⟩
  · exact ⟨3, by omega, .inl rfl⟩
  · exact ⟨3, by omega, .inr rfl⟩
theorem imgC_len {L : List (List UInt8)} (h : imgB L = true) {c : UInt8} (hc : isL c = true) : (imgC L c).length ≤ 40 := by
  obtain ⟨j, hj, e | e⟩ := lnum_two hc
  · unfold imgC
    rw [e, show (2 * (j : Int)).toNat = 2 * j by omega, if_pos (by omega), show 2 * j / 2 = j by omega]
    exact wordB_len (imgB_get h j hj)
  · unfold imgC
    rw [e, show (2 * (j : Int) + 1).toNat = 2 * j + 1 by omega, if_neg (by omega), show (2 * j + 1) / 2 = j by omega, inv_length]
    exact wordB_len (imgB_get h j hj)
theorem imgC_lets {L : List (List UInt8)} (h : imgB L = true) {c : UInt8} (hc : isL c = true) : ∀ x ∈ imgC L c, isL x = true := by
  obtain ⟨j, hj, e | e⟩ := lnum_two hc
  · unfold imgC
    rw [e, show (2 * (j : Int)).toNat = 2 * j by omega, if_pos (by omega), show 2 * j / 2 = j by omega]
    exact wordB_lets (imgB_get h j hj)
  · unfold imgC
    rw [e, show (2 * (j : Int) + 1).toNat = 2 * j + 1 by omega, if_neg (by omega), show (2 * j + 1) / 2 = j by omega]
    exact inv_letters (wordB_lets (imgB_get h j hj))
theorem apL_len {L : List (List UInt8)} (h : imgB L = true) : ∀ l : List UInt8, (∀ c ∈ l, isL c = true) → (apL L l).length ≤ 40 * l.length
  | [], _ => by simp [apL]
  | c :: l, hl => by
    have h1 := imgC_len h (hl c (by simp))
    have h2 := apL_len h l (fun x hx => hl x (by simp [hx]))
    unfold apL at h2 ⊢
    rw [List.flatMap_cons, List.length_append, List.length_cons]
    omega
theorem apL_lets {L : List (List UInt8)} (h : imgB L = true) {l : List UInt8} (hl : ∀ c ∈ l, isL c = true) : ∀ x ∈ apL L l, isL x = true := by
  intro x hx
  obtain ⟨c, hc, hx⟩ := List.mem_flatMap.1 hx
  exact imgC_lets h (hl c hc) x hx
set_option maxHeartbeats 4000000 in
theorem apply_any (a : Option Addr) (cap : Nat) (L : List (List UInt8)) (hI : imgB L = true) (l : List UInt8) (hw : wordB l = true) (w : World) (h : SRow w.heap.size w a L) :
    Calls Try.prog 69 #[.slice a L.length cap, .string (txt l)] w (StrPost (red (apL L l)) w) := by
  have hs := txt_size l
  have hm : l.length ≤ 40 := wordB_len hw
  have hm' : (l.length : Int) ≤ 40 := by omega
  have WL := Lib.hid (wordB_lets hw)
  have IB := Lib.hid hI
  have h4 := imgB_len hI
  have H := Lib.hid h
  clear h hI hw
  go_enter Try.func69, Try.ntmps69
  rw [h4]
  go_wp2
  go_loopw [5, 6] (fun o i wr => ∃ k : Nat, k ≤ l.length ∧ i = .int .i64 (k : Int) ∧ o = .string (txt (red (apL L (l.take k)))) ∧ Below w.heap.size w wr) (fun _ i _ => l.length - (intOf i).toNat)
  case atStart => exact ⟨0, Nat.zero_le _, rfl, rfl, Below.refl _ _⟩
  case round =>
    obtain ⟨k, hk, rfl, rfl, hB⟩ := hrel
    have HB := Lib.hid hB
    clear hB
    by_cases hlt : k < l.length
    · have hi := idx_txt l k hlt
      have t2 : decide ((k : Int) < (l.length : Int)) = true := by simp; omega
      have HK := Lib.hid hlt
      have hcL : isL l[k] = true := WL.out _ (List.getElem_mem hlt)
      have ST := Lib.hid (apL_step L l k hlt)
      have LT : ∀ x ∈ apL L (l.take k), isL x = true := apL_lets IB.out (fun c hc => WL.out c (List.mem_of_mem_take hc))
      have LE : (apL L (l.take k)).length ≤ 1600 := by
        have h1 := apL_len IB.out (l.take k) (fun c hc => WL.out c (List.mem_of_mem_take hc))
        rw [List.length_take] at h1
        omega
      have RC : Hid (∀ w, Calls Try.prog 89 #[.string (txt (red (apL L (l.take k))) ++ txt (imgC L l[k]))] w (StrPost (red (apL L (l.take (k + 1)))) w)) := Lib.hid fun w => by
        rw [← ST.out]
        exact reduce_cat _ _ (fun c hc => (List.mem_append.1 hc).elim (red_letters LT c) (imgC_lets IB.out hcL c)) (by
        have h1 := red_length (apL L (l.take k))
        have h2 := imgC_len IB.out hcL
        rw [List.length_append]
        omega) w
      have SO : ¬ (9223372036854775807 < (txt (red (apL L (l.take k)))).size + (txt (imgC L l[k])).size) := by
        have h1 := red_length (apL L (l.take k))
        have h2 := imgC_len IB.out hcL
        rw [txt_size, txt_size]
        omega
      have CL : Hid (∀ w, Calls Try.prog 63 #[.int .u8 ((l[k].toNat : Nat) : Int)] w fun e w' => e = .returned (.int .i64 (lnum l[k])) ∧ w = w') := Lib.hid fun w => letter_any _ w
      obtain ⟨j, hj, hjc⟩ := lnum_two hcL
      have hj4 : j < L.length := by omega
      obtain ⟨b, off, rfl, hb, hc⟩ := H.out.at hj4
      have c1 : wr.cell? ⟨b, off + j, none⟩ = some (.string (txt L[j])) := (HB.out.cell (p := ⟨b, off + j, none⟩) hb).trans hc
      have WJ : wordB L[j] = true := redB_word (imgB_at IB.out j hj4)
      have IV : Hid (∀ w, Calls Try.prog 100 #[.string (txt L[j])] w (StrPost (inv L[j]) w)) := Lib.hid fun w => inverse_any _ (wordB_lets WJ) (by have := wordB_len WJ; omega) w
      have IC0 : Hid (lnum l[k] = 2 * (j : Int) → imgC L l[k] = L[j]) := Lib.hid fun e => by
        unfold imgC
        rw [e, show (2 * (j : Int)).toNat = 2 * j by omega, if_pos (by omega), show 2 * j / 2 = j by omega, List.getElem?_eq_getElem hj4]
        rfl
      have IC1 : Hid (lnum l[k] = 2 * (j : Int) + 1 → imgC L l[k] = inv L[j]) := Lib.hid fun e => by
        unfold imgC
        rw [e, show (2 * (j : Int) + 1).toNat = 2 * j + 1 by omega, if_neg (by omega), show (2 * j + 1) / 2 = j by omega, List.getElem?_eq_getElem hj4]
        rfl
      generalize hO2 : red (apL L (l.take (k + 1))) = out2 at *
      have HO2 := Lib.hid hO2
      clear hO2
      generalize red (apL L (l.take k)) = out at *
      generalize imgC L l[k] = ic at *
      generalize L[j] = lj at *
      clear hc WJ LT LE hcL ST
      have j1 : (0 : Int) ≤ (j : Int) := by omega
      have j2 : (j : Int) < 4 := by omega
      rcases hjc with e | e
      · obtain rfl := IC0.out e
        have q1 : Int.tdiv (2 * (j : Int)) 2 = (j : Int) := by rw [Int.tdiv_eq_ediv_of_nonneg (by omega)]; omega
        have q2 : Int.tmod (2 * (j : Int)) 2 = 0 := by rw [Int.tmod_eq_emod_of_nonneg (by omega)]; omega
        rw [e] at CL
        clear IC0 IC1 IV e
        generalize l[k] = c at *
        go_wp2_with (first | (go_at_call 63; refine (CL.out _).mono ?_; rintro e w' ⟨rfl, rfl⟩) | (go_at_call 89; refine (RC.out _).mono ?_; rintro e w' ⟨rfl, hb2⟩))
        have B2 := Lib.hid (HB.out.trans (hb2.mono HB.out.size))
        clear hb2 SO
        go_roundw
        case rel => exact ⟨k + 1, HK.out, by go_num, by rw [HO2.out], B2.out⟩
        case measure => have := HK.out; simp [intOf]; omega
      · obtain rfl := IC1.out e
        have q1 : Int.tdiv (2 * (j : Int) + 1) 2 = (j : Int) := by rw [Int.tdiv_eq_ediv_of_nonneg (by omega)]; omega
        have q2 : Int.tmod (2 * (j : Int) + 1) 2 = 1 := by rw [Int.tmod_eq_emod_of_nonneg (by omega)]; omega
        rw [e] at CL
        clear IC0 IC1 e
        generalize l[k] = c at *
        generalize inv lj = iv at *
        go_wp2_with (first | (go_at_call 63; refine (CL.out _).mono ?_; rintro e w' ⟨rfl, rfl⟩) | (go_at_call 100; refine (IV.out _).mono ?_; rintro e w' ⟨rfl, hb3⟩) | (go_at_call 89; refine (RC.out _).mono ?_; rintro e w'' ⟨rfl, hb2⟩))
        have B3 := HB.out.trans (hb3.mono HB.out.size)
        have B2 := Lib.hid (B3.trans (hb2.mono B3.size))
        clear hb2 hb3 B3 SO
        go_roundw
        case rel => exact ⟨k + 1, HK.out, by go_num, by rw [HO2.out], B2.out⟩
        case measure => have := HK.out; simp [intOf]; omega
    · obtain rfl : k = l.length := by omega
      have R : Hid (StrPost (red (apL L l)) w (.returned (.string (txt (red (apL L (l.take l.length)))))) wr) := Lib.hid ⟨by rw [List.take_length], HB.out⟩
      clear hlt hk
      go_wp2
      go_ret
      exact R.out
end Go.Proofs.Ytdcphheeapmjcaa
