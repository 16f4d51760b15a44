/-
  CONTRACT: the program's NextWord.
-/
import Derived.Test.YtdcphheeapmjcaaInc
import Derived.Test.YtdcphheeapmjcaaIiw
import Derived.Test.YtdcphheeapmjcaaWdk
namespace Go.Proofs.Ytdcphheeapmjcaa
open Go.ChangeShapes Go.WideShapes Go.ChangeAt Go.RowKit Go.Shelf
open Wd
attribute [local go_sem] Oper.semAt_some
/-- n and f are the number of letters and the choices of the word behind the choices f₀ of m letters -/
def NextCh (g : Int) (m : Nat) (f₀ : Nat → Int) (n : Nat) (f : Nat → Int) : Prop :=
  (∃ j, j < m ∧ f₀ j + 1 < chN g j ∧ (∀ i, j < i → i < m → chN g i ≤ f₀ i + 1) ∧ n = m ∧ f = fun i => if i < j then f₀ i else if i = j then f₀ j + 1 else 0) ∨
  ((∀ i, i < m → chN g i ≤ f₀ i + 1) ∧ n = m + 1 ∧ f = fun _ => 0)
theorem NextCh.ok {g : Int} (h2 : g ≤ 4) {m n : Nat} {f₀ f : Nat → Int} (h : NextCh g m f₀ n f) (ho : OkCh f₀ m) : OkCh f n ∧ n ≤ m + 1 := by
  rcases h with ⟨j, hj, hlt, -, rfl, rfl⟩ | ⟨-, rfl, rfl⟩
  · refine ⟨fun k hk => ?_, by omega⟩
    obtain ⟨a, b, c⟩ := ho k hk
    by_cases h1 : k < j
    · simp only [if_pos h1]; exact ⟨a, b, c⟩
    · by_cases h3 : k = j
      · subst h3
        simp only [if_neg h1, if_true]
        unfold chN at hlt
        refine ⟨by omega, ?_, fun h0 => ?_⟩
        · split at hlt <;> omega
        · rw [if_neg (by omega)] at hlt; omega
      · simp only [if_neg h1, if_neg h3]; exact ⟨by omega, by omega, fun _ => by omega⟩
  · exact ⟨fun k hk => ⟨Int.le_refl _, by show (0 : Int) ≤ 7; decide, fun _ => by show (0 : Int) ≤ 6; decide⟩, Nat.le_refl _⟩
theorem nextch_any (g : Int) (h1g : 1 ≤ g) (h2g : g ≤ 4) (gb m : Nat) (f : Nat → Int) (hm : m ≤ 100) (hf : ∀ i, i < m → 0 ≤ f i ∧ f i ≤ 7) (w : World) (n₀ : Nat) (hn₀ : n₀ ≤ gb) (hn₁ : n₀ ≤ w.heap.size) (hgb : w.heap[gb]? = some (.cells (rowF f m) 2 (0, 0))) :
    Calls Try.prog 87 #[.int .i64 g, .slice (some ⟨gb, 0, none⟩) m m] w fun e w' =>
      ∃ (h n : Nat) (f' : Nat → Int), e = .returned (.slice (some ⟨h, 0, none⟩) n n) ∧ NextCh g m f n f' ∧ w'.heap[h]? = some (.cells (rowF f' n) 2 (0, 0)) ∧ Below n₀ w w' := by
  refine (callsIn_wide.1 (nextch_in Fence.wide 4 trivial trivial trivial trivial rfl (Nat.le_refl _) g h1g h2g gb m f hm hf w n₀ hn₀ hgb fun a len cap w => callsIn_wide.2 (iback_any a len cap w))).mono ?_
  rintro e w' ⟨⟨j, hj, hlt, hall, rfl, hw⟩ | ⟨hall, h, hh, rfl, hw⟩, B⟩
  · exact ⟨gb, m, _, rfl, .inl ⟨j, hj, hlt, hall, rfl, rfl⟩, hw, B⟩
  · exact ⟨h, m + 1, _, rfl, .inr ⟨hall, rfl, rfl⟩, hw, B⟩
/-- what NextWord of the program answers -/
def NwPost (g : Int) (l : List UInt8) (w : World) (e : Ending) (w' : World) : Prop :=
  (givenC g l ≠ 0 → TextPost [] (givenC g l) w e w') ∧
  (givenC g l = 0 → ∃ n f, NextCh g l.length (chAt l) n f ∧ OkCh f n ∧ TextPost (if n ≤ 40 then ofL f n else []) (if n ≤ 40 then 0 else 3) w e w')
set_option maxHeartbeats 2000000 in
theorem inext_any (g : Int) (l : List UInt8) (hm : l.length ≤ 4000000) (hok : givenC g l = 0 → OkCh (chAt l) l.length) (w : World) :
    Calls Try.prog 48 #[.int .i64 g, .string (txt l)] w (NwPost g l w) := by
  have hr := Lib.hid (readred_any g l hm)
  by_cases h : givenC g l = 0
  · obtain ⟨⟨h1, h2⟩, hb⟩ := given_zero h
    have HL := Lib.hid (wordB_lets hb)
    have HLEN := Lib.hid (wordB_len hb)
    have HC := Lib.hid h
    have HO := Lib.hid (hok h)
    have HP : Hid (∀ e w' n f, NextCh g l.length (chAt l) n f → OkCh f n → TextPost (if n ≤ 40 then ofL f n else []) (if n ≤ 40 then 0 else 3) w e w' → NwPost g l w e w') := Lib.hid fun e w' n f a b c => ⟨fun x => absurd HC.out x, fun _ => ⟨n, f, a, b, c⟩⟩
    have HN : Hid (∀ (gb : Nat) (w2 : World), w.heap.size ≤ gb → w.heap.size ≤ w2.heap.size → w2.heap[gb]? = some (.cells (rowF (chAt l) l.length) 2 (0, 0)) → _) := Lib.hid fun gb w2 a b c => nextch_any g h1 h2 gb l.length (chAt l) (by have := HLEN.out; omega) (fun i hi => ⟨(HO.out i hi).1, (HO.out i hi).2.1⟩) w2 w.heap.size a b c
    have H2 := Lib.hid h2
    clear hb h hok hm h1 h2
    generalize hN : NwPost g l w = P at HP ⊢
    clear hN
    go_enter Try.func48, Try.ntmps48
    go_wp2_with fail
    refine (hr.out _).mono ?_
    rintro e w1 ⟨v, rfl, hL, B⟩
    rw [HC.out]
    have hL' := hL HC.out
    obtain ⟨a0, cap0, rfl⟩ := hL'.len
    have B1 := Lib.hid B
    have hcs := Lib.hid (choices_l_any _ l HL.out (by have := HLEN.out; omega) w1 hL')
    clear hL hL' B hr
    go_wp2_with fail
    refine hcs.out.mono ?_
    rintro e w2 ⟨gb, rfl, hgb, hrow, B2⟩
    have BB : Hid (Below w.heap.size w w2) := Lib.hid (B1.out.trans (B2.mono B1.out.size))
    have hnc := Lib.hid (HN.out gb w2 (Nat.le_trans B1.out.size hgb) BB.out.size hrow)
    clear hrow B2 hcs B1 hgb
    go_wp2_with fail
    refine hnc.out.mono ?_
    rintro e w3 ⟨hb, n, f, rfl, hnx, hrow, B3⟩
    have hkk := hnx.ok H2.out HO.out
    have NX := Lib.hid hnx
    have OK := Lib.hid hkk.1
    have hn100 : n ≤ 100 := by have := hkk.2; have := HLEN.out; omega
    have hof := Lib.hid (ofch_any hb n f OK.out hn100 w3 (Array.getElem?_eq_some_iff.1 hrow).1 fun k hk => (Lib.cell_of_heap hrow k).trans (rowF_get _ _ _ hk))
    have B4 : Hid (Below w.heap.size w w3) := Lib.hid (BB.out.trans B3)
    clear hnc hrow B3 hnx hkk BB
    go_wp2_with fail
    refine hof.out.mono ?_
    rintro e w4 ⟨v, rfl, O, B5⟩
    have hlim := Lib.hid (ilimited_any v (ofL f n) (ofL_letters f n) (by rw [ofL_length]; omega) w4 O.row)
    have B6 : Hid (Below w.heap.size w w4) := Lib.hid (B4.out.trans (B5.mono B4.out.size))
    clear hof O B5
    go_wp2_with fail
    refine hlim.out.mono ?_
    rintro e w5 ⟨rfl, B7⟩
    rw [ofL_length]
    have B8 : Hid (Below w.heap.size w w5) := Lib.hid (B6.out.trans (B7.mono B6.out.size))
    clear B7 hlim
    have fin := Lib.hid (HP.out (.returned (.tuple #[.string (txt (if n ≤ 40 then ofL f n else [])), .int .i64 (if n ≤ 40 then 0 else 3)])) w5 n f NX.out OK.out ⟨rfl, B8.out⟩)
    by_cases h40 : n ≤ 40
    · have fin2 := fin.out
      rw [if_pos h40, if_pos h40] at fin2
      have fin3 := Lib.hid fin2
      rw [if_pos h40, if_pos h40]
      clear fin fin2 h40
      go_wp2
      exact fin3.out
    · have fin2 := fin.out
      rw [if_neg h40, if_neg h40] at fin2
      have fin3 := Lib.hid fin2
      rw [if_neg h40, if_neg h40]
      clear fin fin2 h40
      go_wp2
      exact fin3.out
  · have HP : Hid (∀ w', Below w.heap.size w w' → NwPost g l w (.returned (.tuple #[.string (txt []), .int .i64 (givenC g l)])) w') := Lib.hid fun w' b => ⟨fun _ => ⟨rfl, b⟩, fun x => absurd x h⟩
    generalize NwPost g l w = P at HP ⊢
    unfold RrPost at hr
    generalize givenC g l = c at h hr HP
    have t0 : ((c : Int) == 0) = false := by rw [beq_eq_false_iff_ne]; exact h
    clear h hok
    go_enter Try.func48, Try.ntmps48
    go_wp2_with fail
    refine (hr.out _).mono ?_
    rintro e w1 ⟨v, rfl, -, B⟩
    go_wp2
    exact HP.out _ B
end Go.Proofs.Ytdcphheeapmjcaa
