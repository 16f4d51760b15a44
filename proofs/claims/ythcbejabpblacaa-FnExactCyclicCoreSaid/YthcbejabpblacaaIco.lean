/-
  CONTRACTS: the program's core, readCore, CyclicCore; CyclicCore of the specification; the law.
-/
import Derived.Test.YthcbejabpblacaaIlr
import Derived.Test.YthcbejabpblacaaWdb
import Derived.WalkMore
import Derived.ScopeJumps
namespace Go.Proofs.Ythcbejabpblacaa
open Go.ChangeShapes Go.WideShapes Go.ChangeAt Go.RowKit
open Wd
/-- a row whose length is at most its capacity -/
def FRw (n₀ : Nat) (W : World) (v : Value) (l : List UInt8) : Prop := LRow n₀ W v l ∧ ∃ a c, v = .slice a l.length c ∧ l.length ≤ c
theorem OwnL.fit {base : Nat} {v : Value} {l : List UInt8} {w : World} (h : OwnL base v l w) : ∃ a c, v = .slice a l.length c ∧ l.length ≤ c := by
  rcases h.2 with ⟨rfl, h0⟩ | ⟨g, cap, cur, rfl, h1, h2, h3, _⟩
  · exact ⟨none, 0, by rw [h0], by omega⟩
  · exact ⟨_, cap, rfl, h3⟩
theorem slice_mid (b off m c : Nat) (hm : 2 ≤ m) (hc : m ≤ c) (hk : m ≤ 4000000) (x : Int) (hx : x = (m : Int) - 1) (w : World) : (Instr.slice 53 (.slice (some ⟨b, off, none⟩) m c) (some (.int .i64 1)) (some (.int .i64 x)) none).run Try.prog w = .ok (.slice (some ⟨b, off + 1, none⟩) (m - 2) (c - 1)) w := by
  subst hx
  have hs : ∀ w, (sizeOf (Try.prog.elem 53)).run Try.prog w = .ok 1 w := fun w => by kernel_rfl
  rw [run_slice_lh (P := Try.prog) (w := w) 53 (some ⟨b, off, none⟩) m c (by kernel_rfl) .i64 .i64 1 ((m : Int) - 1) (by omega) (by omega) (by omega), hs]
  have e : ((m : Int) - 1).toNat - 1 = m - 2 := by omega
  simp only [Result.andThen_ok, sliced, Int.toNat_one, e]
  simp [show ¬ c = 1 by omega, addr_off]
theorem slice_toA (a : Option Addr) (n c p : Nat) (hc : p ≤ c) (ha : ∀ x, a = some x → ∃ b off, x = ⟨b, off, none⟩) (hp : p ≤ 4000000) (w : World) : (Instr.slice 53 (.slice a n c) none (some (.int .i64 (p : Int))) none).run Try.prog w = .ok (.slice a p c) w := by
  have hs : ∀ w, (sizeOf (Try.prog.elem 53)).run Try.prog w = .ok 1 w := fun w => by kernel_rfl
  rw [run_slice_h (P := Try.prog) (w := w) 53 a n c (by kernel_rfl) .i64 (p : Int) (by omega) (by omega), hs]
  cases a with
  | none => simp [Result.andThen_ok, sliced]
  | some x =>
    obtain ⟨b, off, rfl⟩ := ha x rfl
    simp [Result.andThen_ok, sliced, addr_off]
/-- how many a row has -/
def lenV : Value → Nat
  | .slice _ n _ => n
  | _ => 0
/-- two rows -/
def CorePost (l : List UInt8) (n₀ : Nat) (w : World) (e : Ending) (w' : World) : Prop :=
  ∃ v1 v2, e = .returned (.tuple #[v1, v2]) ∧ LRow n₀ w' v1 (coreL l) ∧ LRow n₀ w' v2 (frontL l) ∧ Below w.heap.size w w'
theorem cutN_le (v : List UInt8) : cutN v + cutN v ≤ v.length := by
  have H : ∀ f k, k + k ≤ v.length → cutF v f k + cutF v f k ≤ v.length := by
    intro f
    induction f with
    | zero => intro k h; exact h
    | succ f ih =>
      intro k h
      show (if coreC v k then _ else _) + (if coreC v k then _ else _) ≤ _
      cases hc : coreC v k
      · exact h
      · refine ih (k + 1) ?_
        unfold coreC at hc
        simp at hc
        omega
  exact H _ _ (Nat.zero_le _)
theorem oth_inj {c d : UInt8} (hc : isL c = true) (hd : isL d = true) : c = oth d ↔ d = oth c := by
  constructor
  · rintro rfl; exact (oth_oth hd).symm
  · rintro rfl; exact (oth_oth hc).symm
theorem lother_any' (c : UInt8) (hc : isL c = true) (w : World) :
    Calls Try.prog 73 #[.int .u8 (lnum c)] w fun e w' => e = .returned (.int .u8 (lnum (oth c))) ∧ w = w' :=
  (callsIn_wide.1 (lother_in Fence.wide 1 trivial rfl c hc w)).mono fun e w' h => ⟨h.1, h.2.symm⟩
set_option maxHeartbeats 2000000 in
theorem icore_any (v : Value) (l : List UInt8) (hl : ∀ c ∈ l, isL c = true) (hm : l.length ≤ 1000000) (n₀ : Nat) (w : World) (hn₀ : n₀ ≤ w.heap.size) (hI : LRow n₀ w v l) (hf : ∃ a c, v = .slice a l.length c ∧ l.length ≤ c) :
    Calls Try.prog 65 #[v] w (CorePost l n₀ w) := by
  obtain ⟨a0, cap0, rfl, hcap⟩ := hf
  have hm' : (l.length : Int) ≤ 1000000 := by omega
  have HL := Lib.hid hl
  have ha0 : Hid (∀ x, a0 = some x → ∃ b off, x = ⟨b, off, none⟩) := Lib.hid (by
    intro x hx
    rcases hI with ⟨h, _⟩ | ⟨b, o, c, h, hb, hc⟩
    · injection h with h1 h2 h3; rw [h1] at hx; cases hx
    · cases h; cases hx; exact ⟨b, o, rfl⟩)
  have HI := Lib.hid hI
  have P : Hid (∀ k a c nq, k = cutN l → (l.length - k - k = 0 ∨ ∃ b off, a = some ⟨b, off, none⟩ ∧ b < n₀ ∧ ∀ j (hj : j < l.length - k - k), w.cell? ⟨b, off + j, none⟩ = some (.int .u8 (lnum (l[k + j]'(by omega))))) → (∃ b off, a = some ⟨b, off, none⟩ ∧ b < n₀ ∨ (a = none ∧ c = 0)) → CorePost l n₀ w (.returned (.tuple #[.slice a (l.length - k - k) c, .slice a0 k cap0])) (w.drewN nq)) := Lib.hid (by
    intro k a c nq hk h1 h2
    have h2k := cutN_le l
    rw [← hk] at h2k
    have e1 : coreL l = (l.drop k).take (l.length - k - k) := by unfold coreL; rw [← hk]
    have e2 : frontL l = l.take k := by unfold frontL; rw [← hk]
    have el : (coreL l).length = l.length - k - k := by rw [e1, List.length_take, List.length_drop]; omega
    refine ⟨_, _, rfl, ?_, ?_, below_drewN (Below.refl _ _) nq⟩
    · obtain ⟨b, off, ⟨rfl, hb⟩ | ⟨rfl, rfl⟩⟩ := h2
      · refine .inr ⟨b, off, c, by rw [el], hb, ?_⟩
        intro j hj
        rcases h1 with h1 | ⟨b', off', h1, _, hcs⟩
        · omega
        · cases h1
          have := hcs j (by omega)
          refine (show (w.drewN nq).cell? _ = _ from this).trans ?_
          simp [e1]
      · rcases h1 with h1 | ⟨b', off', h1, _⟩
        · exact .inl ⟨by rw [h1], List.eq_nil_of_length_eq_zero (by omega)⟩
        · cases h1
    · rw [e2]
      have ek : (l.take k).length = k := by rw [List.length_take]; omega
      rcases hI with ⟨h, h'⟩ | ⟨b, o, c2, h, hb, hc⟩
      · injection h with e3 e4 e5
        subst h'
        simp at h2k
        subst h2k
        exact .inl ⟨by rw [e3, e5], rfl⟩
      · cases h
        refine .inr ⟨b, o, cap0, by rw [ek], hb, ?_⟩
        intro j hj
        refine (show (w.drewN nq).cell? _ = _ from hc j (by omega)).trans ?_
        simp)
  clear hI hl
  go_enter Try.func65, Try.ntmps65
  go_wp2
  go_step3
  go_wp2
  go_step3
  go_wp2
  go_loopw [4] (fun i wr => ∃ (k m : Nat) (a : Option Addr) (c : Nat), m + k + k = l.length ∧ i = .slice a m c ∧ m ≤ c ∧ cutF l (l.length - k) k = cutN l ∧
      (m = 0 ∨ ∃ b off, a = some ⟨b, off, none⟩ ∧ b < n₀ ∧ ∀ j (hj : j < m), w.cell? ⟨b, off + j, none⟩ = some (.int .u8 (lnum (l[k + j]?.getD 97)))) ∧ (∃ b off, a = some ⟨b, off, none⟩ ∧ b < n₀ ∨ (a = none ∧ c = 0)) ∧ w = wr)
    (fun i _ => lenV i)
  case atStart =>
    refine ⟨0, l.length, a0, cap0, by omega, rfl, hcap, rfl, ?_, ?_, rfl⟩
    · rcases HI.out with ⟨h, h'⟩ | ⟨b, o, c, h, hb, hc⟩
      · subst h'; exact .inl rfl
      · injection h with e1 e2 e3
        refine .inr ⟨b, o, e1, hb, fun j hj => ?_⟩
        rw [hc j hj, Nat.zero_add, List.getElem?_eq_getElem hj]; rfl
    · rcases HI.out with ⟨h, h'⟩ | ⟨b, o, c, h, hb, hc⟩
      · injection h with e1 e2 e3; exact ⟨0, 0, .inr ⟨e1, e3⟩⟩
      · injection h with e1 e2 e3; exact ⟨b, o, .inl ⟨e1, hb⟩⟩
  case round =>
    obtain ⟨k, m, a, c, hmk, rfl, hmc, hcut, hrow, hshape, rfl⟩ := hrel
    have CUT := Lib.hid hcut
    have SH := Lib.hid hshape
    have ROW := Lib.hid hrow
    clear hcut hshape hrow
    have DONE : Hid (cutN l = k → ∀ nq, CorePost l n₀ w (.returned (.tuple #[.slice a m c, .slice a0 k cap0])) (w.drewN nq)) := Lib.hid (by
      intro hk nq
      have e : m = l.length - k - k := by omega
      rw [e]
      refine P.out k a c nq hk.symm ?_ SH.out
      rcases ROW.out with h | ⟨b, off, h1, h2, h3⟩
      · exact .inl (by omega)
      · refine .inr ⟨b, off, h1, h2, fun j hj => ?_⟩
        rw [h3 j (by omega), List.getElem?_eq_getElem (by omega)]; rfl)
    have hst := slice_toA a0 l.length cap0 k (by omega) ha0.out (by omega)
    have hkI : (k : Int) ≤ 1000000 := by omega
    have hmI : (m : Int) ≤ 1000000 := by omega
    by_cases h2 : 2 ≤ m
    · obtain ⟨q, rfl⟩ : ∃ q, m = q + 1 + 1 := ⟨m - 2, by omega⟩
      obtain ⟨b, off, rfl, hbn, hcs⟩ : ∃ b off, a = some ⟨b, off, none⟩ ∧ b < n₀ ∧ ∀ j (hj : j < q + 1 + 1), w.cell? ⟨b, off + j, none⟩ = some (.int .u8 (lnum (l[k + j]?.getD 97))) := by
        rcases ROW.out with h | h
        · omega
        · exact h
      have hkl : k < l.length := by omega
      have hql : k + (q + 1) < l.length := by omega
      have c0 : w.cell? ⟨b, off, none⟩ = some (.int .u8 (lnum (l[k]'hkl))) := by
        have := hcs 0 (by omega)
        rwa [Nat.add_zero, Nat.add_zero, List.getElem?_eq_getElem hkl] at this
      have c1 : w.cell? ⟨b, off + (q + 1), none⟩ = some (.int .u8 (lnum (l[k + (q + 1)]'hql))) := by
        have := hcs (q + 1) (by omega)
        rwa [List.getElem?_eq_getElem hql] at this
      have I0 : Hid (isL l[k] = true) := Lib.hid (HL.out _ (List.getElem_mem hkl))
      have I1 : Hid (isL l[k + (q + 1)] = true) := Lib.hid (HL.out _ (List.getElem_mem hql))
      have hot := Lib.hid (lother_any' l[k] I0.out)
      have CC : Hid (coreC l k = decide (l[k + (q + 1)] = oth l[k])) := Lib.hid (by
        unfold coreC
        rw [decide_eq_true (show k + k + 2 ≤ l.length by omega), Bool.true_and, show l.length - 1 - k = k + (q + 1) by omega, List.getElem?_eq_getElem hkl, List.getElem?_eq_getElem hql]
        simp [oth_inj I0.out I1.out])
      have hmn : ∀ w, (Instr.slice 53 (.slice (some ⟨b, off, none⟩) (q + 1 + 1) c) (some (.int .i64 1)) (some (.int .i64 ((q : Int) + 1))) none).run Try.prog w = .ok (.slice (some ⟨b, off + 1, none⟩) q (c - 1)) w := fun w => by
        have := slice_mid b off (q + 1 + 1) c (by omega) hmc (by omega) ((q : Int) + 1) (by omega) w
        rwa [show q + 1 + 1 - 2 = q by omega] at this
      have HM := Lib.hid hmk
      have HMC := Lib.hid hmc
      have HCS := Lib.hid hcs
      have hqI : (q : Int) ≤ 999998 := by omega
      have hqn : (l.length : Int) - ((q : Int) + 1 + 1) = 2 * (k : Int) := by omega
      have HB := Lib.hid hbn
      clear hcs hmk hmc hmI hbn h2
      generalize l[k] = x at c0 I0 hot CC
      generalize l[k + (q + 1)] = y at c1 I1 CC
      clear hkl hql
      by_cases hq : y = oth x
      · have t3 : (lnum y == lnum (oth x)) = true := by rw [hq]; simp
        have CS : Hid (cutF l (l.length - (k + 1)) (k + 1) = cutN l) := Lib.hid (by rw [← CUT.out]; exact (cut_step (by rw [CC.out]; exact decide_eq_true hq)).symm)
        clear hq CC CUT
        go_wp2_with (go_at_call 73; with_reducible refine (hot.out _).mono ?_; rintro e w' ⟨rfl, rfl⟩)
        go_roundw
        case rel =>
          have hM := HM.out
          have hMC := HMC.out
          refine ⟨k + 1, q, _, _, by omega, rfl, by omega, CS.out, .inr ⟨b, off + 1, rfl, HB.out, fun j hj => ?_⟩, ⟨b, off + 1, .inl ⟨rfl, HB.out⟩⟩, trivial⟩
          have := HCS.out (j + 1) (by omega)
          rwa [show off + (j + 1) = off + 1 + j by omega, show k + (j + 1) = k + 1 + j by omega] at this
        case measure => simp [lenV]; omega
      · have t3 : (lnum y == lnum (oth x)) = false := by
          rw [beq_eq_false_iff_ne]
          exact fun h => hq (lnum_inj I1.out (oth_isL I0.out) h)
        have CS : Hid (cutN l = k) := Lib.hid (by rw [← CUT.out]; exact cut_stop (by rw [CC.out]; exact decide_eq_false hq) _)
        have D := Lib.hid (DONE.out CS.out)
        clear hq CC CUT
        go_wp2_with (go_at_call 73; with_reducible refine (hot.out _).mono ?_; rintro e w' ⟨rfl, rfl⟩)
        have hA : IntKind.i64.wrap ((l.length : Int) - ((q : Int) + 1 + 1)) = 2 * (k : Int) := by rw [IntKind.wrap_i64]; omega
        have hB : Int.tdiv (2 * (k : Int)) 2 = (k : Int) := by rw [Int.tdiv_eq_ediv_of_nonneg (by omega)]; omega
        go_quiet (fail)
        go_wp2
        rw [Exit.noGoto_ret]
        go_ret2
        exact D.out nq
    · have t1 : decide ((2 : Int) ≤ (m : Int)) = false := by simp; omega
      have CS : Hid (cutN l = k) := Lib.hid (by
        rw [← CUT.out]
        exact cut_stop (by unfold coreC; rw [decide_eq_false (show ¬ k + k + 2 ≤ l.length by omega)]; rfl) _)
      have D := Lib.hid (DONE.out CS.out)
      have hqn : (l.length : Int) - (m : Int) = 2 * (k : Int) := by omega
      have hA : IntKind.i64.wrap ((l.length : Int) - (m : Int)) = 2 * (k : Int) := by rw [IntKind.wrap_i64]; omega
      have hB : Int.tdiv (2 * (k : Int)) 2 = (k : Int) := by rw [Int.tdiv_eq_ediv_of_nonneg (by omega)]; omega
      clear CUT h2
      go_wp2
      go_quiet (fail)
      go_wp2
      rw [Exit.noGoto_ret]
      go_ret2
      exact D.out nq
theorem coreL_letters {v : List UInt8} (h : ∀ c ∈ v, isL c = true) : ∀ c ∈ coreL v, isL c = true := fun c hc => h c (List.mem_of_mem_drop (List.mem_of_mem_take hc))
theorem frontL_letters {v : List UInt8} (h : ∀ c ∈ v, isL c = true) : ∀ c ∈ frontL v, isL c = true := fun c hc => h c (List.mem_of_mem_take hc)
theorem coreL_len (v : List UInt8) : (coreL v).length ≤ v.length := by unfold coreL; rw [List.length_take, List.length_drop]; omega
theorem frontL_len (v : List UInt8) : (frontL v).length ≤ v.length := by unfold frontL; rw [List.length_take]; omega
/-- what readCore answers where the text is a word -/
def RcPost (l : List UInt8) (w : World) (e : Ending) (w' : World) : Prop :=
  ∃ v1 v2, e = .returned (.tuple #[v1, v2, .int .i64 0]) ∧ LRow w'.heap.size w' v1 (coreL (red l)) ∧ LRow w'.heap.size w' v2 (frontL (red l)) ∧ Below w.heap.size w w'
theorem readcore_no (l : List UInt8) (hm : l.length ≤ 4000000) (h : wordB l = false) (w : World) :
    Calls Try.prog 47 #[.string (txt l)] w fun e w' => e = .returned (.tuple #[.slice none 0 0, .slice none 0 0, .int .i64 1]) ∧ Below w.heap.size w w' := by
  have hr := Lib.hid (read_no l hm h)
  go_enter Try.func47, Try.ntmps47
  go_wp2_with (go_at_call 40; refine (hr.out _).mono ?_; rintro e w' ⟨rfl, B⟩)
  go_ret3
  exact ⟨rfl, B⟩
theorem readcore_yes (l : List UInt8) (h : wordB l = true) (w : World) :
    Calls Try.prog 47 #[.string (txt l)] w (RcPost l w) := by
  have hr := Lib.hid (read_yes l h)
  have HL := Lib.hid (wordB_lets h)
  have hn := wordB_len h
  have hrl := red_length l
  go_enter Try.func47, Try.ntmps47
  go_wp2_with fail
  refine (hr.out _).mono ?_
  rintro e w1 ⟨v, rfl, O, B⟩
  have B1 := Lib.hid B
  have hi := Lib.hid (lreduced_any v l HL.out (by omega) w1 O.row)
  clear O B hr
  go_wp2_with fail
  refine hi.out.mono ?_
  rintro e w2 ⟨v2, rfl, O2, B2⟩
  have C2 : Hid (Below w.heap.size w w2) := Lib.hid (B1.out.trans (B2.mono B1.out.size))
  have hc := Lib.hid (icore_any v2 (red l) (red_letters HL.out) (by omega) w2.heap.size w2 (Nat.le_refl _) O2.row O2.fit)
  clear O2 B2 B1 hi
  go_wp2_with fail
  refine hc.out.mono ?_
  rintro e w3 ⟨v3, v4, rfl, R3, R4, B3⟩
  have P : RcPost l w (.returned (.tuple #[v3, v4, .int .i64 0])) w3 := ⟨v3, v4, rfl, R3.up B3.size, R4.up B3.size, C2.out.trans (B3.mono C2.out.size)⟩
  have PP := Lib.hid P
  clear R3 R4 B3 P hc
  go_wp2
  go_ret3
  exact PP.out
/-- two texts and a code -/
def Text2Post (r s : List UInt8) (c : Int) (w : World) (e : Ending) (w' : World) : Prop := e = .returned (.tuple #[.string (txt r), .string (txt s), .int .i64 c]) ∧ Below w.heap.size w w'
theorem icyc_any (l : List UInt8) (hm : l.length ≤ 4000000) (w : World) :
    Calls Try.prog 22 #[.string (txt l)] w (Text2Post (if wordB l then coreL (red l) else []) (if wordB l then frontL (red l) else []) (if wordB l then 0 else 1) w) := by
  cases h : wordB l
  · have hr := Lib.hid (readcore_no l hm h)
    go_enter Try.func22, Try.ntmps22
    go_wp2_with (go_at_call 47; refine (hr.out _).mono ?_; rintro e w' ⟨rfl, B⟩)
    go_ret3
    exact ⟨rfl, B⟩
  · have hr := Lib.hid (readcore_yes l h)
    have HR := Lib.hid (red_letters (wordB_lets h))
    have hrl : (red l).length ≤ 40 := by have := red_length l; have := wordB_len h; omega
    have k1 := coreL_len (red l)
    have k2 := frontL_len (red l)
    go_enter Try.func22, Try.ntmps22
    go_wp2_with fail
    refine (hr.out _).mono ?_
    rintro e w1 ⟨v1, v2, rfl, R1, R2, B⟩
    have B1 := Lib.hid B
    have ht := Lib.hid (itext_any v1 _ (coreL_letters HR.out) (by omega) w1 R1)
    have RR2 := Lib.hid R2
    clear R1 R2 B hr
    go_wp2_with fail
    refine ht.out.mono ?_
    rintro e w2 ⟨rfl, B2⟩
    have C2 : Hid (Below w.heap.size w w2) := Lib.hid (B1.out.trans (B2.mono B1.out.size))
    have ht2 := Lib.hid (itext_any v2 _ (frontL_letters HR.out) (by omega) w2 ((RR2.out.below B2).up B2.size))
    clear B2 ht
    go_wp2_with fail
    refine ht2.out.mono ?_
    rintro e w3 ⟨rfl, B3⟩
    go_wp2
    go_ret3
    exact ⟨rfl, C2.out.trans (B3.mono C2.out.size)⟩
theorem cyc_any (l : List UInt8) (hm : l.length ≤ 4000000) (w : World) :
    Calls Try.prog 21 #[.string (txt l)] w (Text2Post (if wordB l then coreL (red l) else []) (if wordB l then frontL (red l) else []) (if wordB l then 0 else 1) w) := by
  cases hb : wordB l
  · go_enter Try.func21, Try.ntmps21
    go_wp2_with (go_at_call 38; refine (ok_any _ hm _).mono ?_; rintro e w' ⟨rfl, rfl⟩; rw [hb])
    go_ret3
    exact ⟨rfl, Below.refl _ _⟩
  · have HC := Lib.hid (core_any l (wordB_lets hb) hm)
    go_enter Try.func21, Try.ntmps21
    go_wp2_with (first | (go_at_call 38; refine (ok_any _ hm _).mono ?_; rintro e w' ⟨rfl, rfl⟩; rw [hb]) | (go_at_call 46; refine (HC.out _).mono ?_; rintro e w' ⟨rfl, B⟩))
    go_ret3
    exact ⟨rfl, B⟩
theorem law_CyclicCore (hI : ∀ (l : List UInt8), l.length ≤ 4000000 → ∀ w, Calls Try.prog 22 #[.string (txt l)] w (Text2Post (if wordB l then coreL (red l) else []) (if wordB l then frontL (red l) else []) (if wordB l then 0 else 1) w)) (l : List UInt8) (w : World) :
    Calls Try.prog 6 #[.string (txt l)] w fun e w' => e = .returned (.bool true) ∧ Below w.heap.size w w' := by
  have hs := txt_size l
  by_cases hm : l.length ≤ 1048576
  · have hm' : (l.length : Int) ≤ 1048576 := by omega
    have t1 : decide ((1048576 : Int) < (l.length : Int)) = false := by simp; omega
    have hSp : Hid (∃ (R S : List UInt8) (C : Int), ∀ w, Calls Try.prog 21 #[.string (txt l)] w (Text2Post R S C w) ∧ Calls Try.prog 22 #[.string (txt l)] w (Text2Post R S C w)) := Lib.hid ⟨_, _, _, fun w => ⟨cyc_any l (by omega) w, hI l (by omega) w⟩⟩
    obtain ⟨R, T, C, hRC⟩ := hSp.out
    have HRC := Lib.hid hRC
    clear hRC hSp hI
    go_enter Try.func6, Try.ntmps6
    go_wp2_with (first | (go_at_call 21; refine (HRC.out _).1.mono ?_; rintro e w1 ⟨rfl, B1⟩) | (go_at_call 22; refine (HRC.out _).2.mono ?_; rintro e w2 ⟨rfl, B2⟩))
    go_ret
    exact ⟨rfl, B1.trans (B2.mono B1.size)⟩
  · have t1 : decide ((1048576 : Int) < (l.length : Int)) = true := by simp; omega
    clear hI
    go_enter Try.func6, Try.ntmps6
    go_wp2
    go_ret
    exact ⟨rfl, Below.refl _ _⟩
end Go.Proofs.Ythcbejabpblacaa
