/-
  CONTRACTS: the program's generator, areOf, readReduced.
-/
import Derived.Test.YtdcphheeapmjcaaIlr
import Derived.Test.YtdcphheeapmjcaaIcr
import Derived.Test.YtdcphheeapmjcaaWdg
namespace Go.Proofs.Ytdcphheeapmjcaa
open Go.ChangeShapes Go.WideShapes Go.ChangeAt Go.RowKit
open Wd
/-- the place of a letter's small letter -/
def genN (c : UInt8) : Int := lnum c / 2
theorem gen_any (c : UInt8) (hc : isL c = true) (w : World) :
    Calls Try.prog 83 #[.int .u8 (lnum c)] w fun e w' => e = .returned (.int .i64 (genN c)) ∧ w = w' := by
  rcases lcases hc with rfl | rfl | rfl | rfl | rfl | rfl | rfl | rfl
  all_goals
    simp only [genN, show lnum 97 = 0 from rfl, show lnum 65 = 1 from rfl, show lnum 98 = 2 from rfl, show lnum 66 = 3 from rfl, show lnum 99 = 4 from rfl, show lnum 67 = 5 from rfl, show lnum 100 = 6 from rfl, show lnum 68 = 7 from rfl]
    go_enter Try.func83, Try.ntmps83
    go_wp2
    go_ret
    exact ⟨rfl, rfl⟩
set_option maxHeartbeats 1000000 in
theorem areof_any (v : Value) (l : List UInt8) (hl : ∀ c ∈ l, isL c = true) (hm : l.length ≤ 4000000) (g : Int) (w : World) (hI : LRow w.heap.size w v l) :
    Calls Try.prog 108 #[v, .int .i64 g] w fun e w' => e = .returned (.bool (gensB g l)) ∧ w = w' := by
  obtain ⟨a0, cap0, rfl⟩ := hI.len
  have HI := Lib.hid hI
  have HL := Lib.hid hl
  have hm' : (l.length : Int) ≤ 4000000 := by omega
  clear hI hl
  go_enter Try.func108, Try.ntmps108
  go_wp2
  go_loopw [9] (fun i wr => ∃ k : Nat, k ≤ l.length ∧ i = .int .i64 (k : Int) ∧ gensB g (l.take k) = true ∧ w = wr) (fun i _ => l.length - (intOf i).toNat)
  case atStart => exact ⟨0, Nat.zero_le _, rfl, rfl, rfl⟩
  case round =>
    obtain ⟨k, hk, rfl, hgk, rfl⟩ := hrel
    have HG := Lib.hid hgk
    clear hgk
    by_cases hlt : k < l.length
    · have t2 : decide (k < l.length) = true := by simpa using hlt
      obtain ⟨b, off, rfl, hcell⟩ : ∃ b o, a0 = some ⟨b, o, none⟩ ∧ w.cell? ⟨b, o + k, none⟩ = some (.int .u8 (lnum (l[k]'hlt))) := by
        rcases HI.out with ⟨h, h'⟩ | ⟨b, o, c, h, hb, hc⟩
        · subst h'; simp at hlt
        · cases h; exact ⟨b, o, rfl, hc k hlt⟩
      have IL : Hid (isL l[k] = true) := Lib.hid (HL.out _ (List.getElem_mem hlt))
      have hgn := Lib.hid (gen_any l[k] IL.out)
      obtain ⟨n0, n7⟩ := lnum_yes IL.out
      have GY : Hid (genN l[k] < g → gensB g (l.take (k + 1)) = true) := Lib.hid (by
        intro h
        have h1 := HG.out
        unfold genN at h
        unfold gensB at h1 ⊢
        rw [take_snoc l k hlt, List.all_append, h1]
        simp
        omega)
      have GN : Hid (g ≤ genN l[k] → gensB g l = false) := Lib.hid (by
        intro h
        unfold genN at h
        unfold gensB
        rw [List.all_eq_false]
        exact ⟨l[k], List.getElem_mem hlt, by simp; omega⟩)
      have HK := Lib.hid hlt
      clear n0 n7
      generalize l[k] = c at hcell IL hgn GY GN
      generalize genN c = y at hgn GY GN
      by_cases hy : g ≤ y
      · have hG := GN.out hy
        have t3 : decide (g ≤ y) = true := by simpa using hy
        clear GN GY hy
        go_wp2_with (go_at_call 83; with_reducible refine (hgn.out _).mono ?_; rintro e w' ⟨rfl, rfl⟩)
        go_ret
        exact ⟨by rw [hG]; rfl, rfl⟩
      · have hG := Lib.hid (GY.out (by omega))
        have t3 : decide (g ≤ y) = false := by simp; omega
        clear GN GY hy
        go_wp2_with (go_at_call 83; with_reducible refine (hgn.out _).mono ?_; rintro e w' ⟨rfl, rfl⟩)
        go_roundw
        case rel => exact ⟨k + 1, HK.out, by go_num, hG.out, trivial⟩
        case measure => have := HK.out; simp [intOf]; omega
    · obtain rfl : k = l.length := by omega
      have hG : gensB g l = true := by have := HG.out; rwa [List.take_length] at this
      clear HG
      go_wp2
      go_ret
      exact ⟨by rw [hG]; rfl, rfl⟩
/-- what readReduced answers -/
def RrPost (g : Int) (l : List UInt8) (w : World) (e : Ending) (w' : World) : Prop := ∃ v, e = .returned (.tuple #[v, .int .i64 (givenC g l)]) ∧ (givenC g l = 0 → LRow w'.heap.size w' v l) ∧ Below w.heap.size w w'
set_option maxHeartbeats 1000000 in
theorem readred_any (g : Int) (l : List UInt8) (hm : l.length ≤ 4000000) (w : World) :
    Calls Try.prog 85 #[.int .i64 g, .string (txt l)] w (RrPost g l w) := by
  cases hb : wordB l
  · have hr := Lib.hid (read_no l hm hb)
    have P : Hid (∀ w', Below w.heap.size w w' → RrPost g l w (.returned (.tuple #[.slice none 0 0, .int .i64 1])) w') := Lib.hid fun w' B => by
      have e : givenC g l = 1 := by unfold givenC; rw [hb]; rfl
      exact ⟨_, by rw [e], (fun h => by rw [e] at h; cases h), B⟩
    go_enter Try.func85, Try.ntmps85
    go_wp2_with (go_at_call 64; refine (hr.out _).mono ?_; rintro e w' ⟨rfl, B⟩)
    go_ret2
    exact P.out _ B
  · have hr := Lib.hid (read_yes l hb)
    have HL := Lib.hid (wordB_lets hb)
    by_cases hg : 1 ≤ g ∧ g ≤ 4
    · have hy : Hid (∀ w, Calls Try.prog 84 #[.int .i64 g] w fun e w' => e = .returned (.bool true) ∧ w = w') := Lib.hid (isgen_yes g hg.1 hg.2)
      cases hG : gensB g l
      · have P : Hid (∀ v w', Below w.heap.size w w' → RrPost g l w (.returned (.tuple #[v, .int .i64 2])) w') := Lib.hid fun v w' B => by
          have e : givenC g l = 2 := by unfold givenC; rw [hb, if_pos rfl, if_pos hg, hG]; rfl
          exact ⟨_, by rw [e], (fun h => by rw [e] at h; cases h), B⟩
        clear hb hg
        go_enter Try.func85, Try.ntmps85
        go_wp2_with fail
        refine (hr.out _).mono ?_
        rintro e w1 ⟨v, rfl, O, B⟩
        have ha := Lib.hid (areof_any v l HL.out hm g w1 O.row)
        rw [hG] at ha
        clear O
        go_wp2_with (first | (go_at_call 84; with_reducible refine (hy.out _).mono ?_; rintro e w' ⟨rfl, rfl⟩) | (go_at_call 108; refine ha.out.mono ?_; rintro e w' ⟨rfl, rfl⟩))
        go_ret2
        exact P.out _ _ B
      · by_cases hR : red l = l
        · have P : Hid (∀ v w', LRow w'.heap.size w' v l → Below w.heap.size w w' → RrPost g l w (.returned (.tuple #[v, .int .i64 0])) w') := Lib.hid fun v w' L B => by
            have e : givenC g l = 0 := by unfold givenC; rw [hb, if_pos rfl, if_pos hg, hG, if_pos rfl, if_pos hR]
            exact ⟨_, by rw [e], fun _ => L, B⟩
          have hd : Hid (decide (red l = l) = true) := Lib.hid (decide_eq_true hR)
          clear hb hg hR
          go_enter Try.func85, Try.ntmps85
          go_wp2_with fail
          refine (hr.out _).mono ?_
          rintro e w1 ⟨v, rfl, O, B⟩
          have ha := Lib.hid (areof_any v l HL.out hm g w1 O.row)
          rw [hG] at ha
          have hi := Lib.hid (lisred_any v l HL.out hm w1 O.row)
          rw [hd.out] at hi
          have R := Lib.hid O.row
          have BB := Lib.hid B
          clear O B
          go_wp2_with (first | (go_at_call 84; with_reducible refine (hy.out _).mono ?_; rintro e w' ⟨rfl, rfl⟩) | (go_at_call 108; refine ha.out.mono ?_; rintro e w' ⟨rfl, rfl⟩) | (go_at_call 80; refine hi.out.mono ?_; rintro e w2 ⟨rfl, B2⟩))
          go_ret2
          exact P.out _ _ ((R.out.below B2).up B2.size) (BB.out.trans (B2.mono BB.out.size))
        · have P : Hid (∀ v w', Below w.heap.size w w' → RrPost g l w (.returned (.tuple #[v, .int .i64 4])) w') := Lib.hid fun v w' B => by
            have e : givenC g l = 4 := by unfold givenC; rw [hb, if_pos rfl, if_pos hg, hG, if_pos rfl, if_neg hR]
            exact ⟨_, by rw [e], (fun h => by rw [e] at h; cases h), B⟩
          have hd : Hid (decide (red l = l) = false) := Lib.hid (decide_eq_false hR)
          clear hb hg hR
          go_enter Try.func85, Try.ntmps85
          go_wp2_with fail
          refine (hr.out _).mono ?_
          rintro e w1 ⟨v, rfl, O, B⟩
          have ha := Lib.hid (areof_any v l HL.out hm g w1 O.row)
          rw [hG] at ha
          have hi := Lib.hid (lisred_any v l HL.out hm w1 O.row)
          rw [hd.out] at hi
          have BB := Lib.hid B
          clear O B
          go_wp2_with (first | (go_at_call 84; with_reducible refine (hy.out _).mono ?_; rintro e w' ⟨rfl, rfl⟩) | (go_at_call 108; refine ha.out.mono ?_; rintro e w' ⟨rfl, rfl⟩) | (go_at_call 80; refine hi.out.mono ?_; rintro e w2 ⟨rfl, B2⟩))
          go_ret2
          exact P.out _ _ (BB.out.trans (B2.mono BB.out.size))
    · have hy : Hid (∀ w, Calls Try.prog 84 #[.int .i64 g] w fun e w' => e = .returned (.bool false) ∧ w = w') := Lib.hid (isgen_no g (by omega))
      have P : Hid (∀ v w', Below w.heap.size w w' → RrPost g l w (.returned (.tuple #[v, .int .i64 2])) w') := Lib.hid fun v w' B => by
        have e : givenC g l = 2 := by unfold givenC; rw [hb, if_pos rfl, if_neg hg]
        exact ⟨_, by rw [e], (fun h => by rw [e] at h; cases h), B⟩
      clear hb hg
      go_enter Try.func85, Try.ntmps85
      go_wp2_with (first | (go_at_call 64; refine (hr.out _).mono ?_; rintro e w' ⟨v, rfl, O, B⟩) | (go_at_call 84; with_reducible refine (hy.out _).mono ?_; rintro e w' ⟨rfl, rfl⟩))
      go_ret2
      exact P.out _ _ B
end Go.Proofs.Ytdcphheeapmjcaa
