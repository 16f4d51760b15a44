/-
  CONTRACT: ApplyImages of the program.
-/
import Derived.Test.YtdcphheeapmjcaaIin
import Derived.Test.YtdcphheeapmjcaaWapa
import Derived.Test.YtdcphheeapmjcaaIlr
namespace Go.Proofs.Ytdcphheeapmjcaa
open Go.ChangeShapes Go.WideShapes Go.ChangeAt Go.RowKit Go.Shelf
open Wd
set_option maxRecDepth 100000 in
set_option maxHeartbeats 4000000 in
theorem imgs_nil_in (F : Fence) (n : Nat) (h7 : F.fn 101) (hro : F.round = none) (ll Bs Bf : Nat) (J : List Lt → World → Prop)
    (W : World) (hBs : W.cell? ⟨Bs, 0, none⟩ = some (.slice none 0 0)) (h0 : J [] W) :
    CallsIn F n Try.prog 101 #[.func (.yield ll) #[] #[], .pointer (some ⟨Bs, 0, none⟩), .pointer (some ⟨Bf, 0, none⟩)] W fun e W' => (∃ v, e = .returned v) ∧ J [] W' := by
  refine callsIn_of_wp Try.func101 rfl h7 ?_ hro
  simp only [Try.ntmps101, List.size_toArray, List.length_cons, List.length_nil, Nat.reduceAdd, Nat.reduceSub, Array.replicate_succ, Array.replicate_zero, List.push_toArray, List.append_toArray, List.nil_append, List.cons_append]
  gi_wp2
  gi_loopw [10] (fun i wr => i = .int .i64 0 ∧ J [] wr) (fun _ _ => 0)
  case atStart => exact ⟨rfl, h0⟩
  case round =>
    obtain ⟨rfl, hJs⟩ := hrel
    gi_wp2
    go_end0
    exact ⟨⟨_, rfl⟩, hJs⟩
theorem imgs_stops (F : Fence) (n : Nat) (h7 : F.fn 101) (h9 : F.fn 99) (hro : F.round = none) (hn : 1 ≤ n) (Bs Bf n₀ T : Nat) (sv : Value) (L : List (List UInt8)) (hI : imgB L = true) (l : List UInt8) (hw : wordB l = true) (w : World) (hBs : Bs < w.heap.size) (hf : Bf < n₀) (hn₀ : n₀ ≤ w.heap.size)
    (hc : w.cell? ⟨Bs, 0, none⟩ = some sv) (hcf : w.cell? ⟨Bf, 0, none⟩ = some (.func (.func 99) #[] #[.pointer (some ⟨T, 0, none⟩)])) (hR : LRow n₀ w sv l) (hT : TabR n₀ w T L) :
    SeqStopsK F n Try.prog 101 #[.pointer (some ⟨Bs, 0, none⟩), .pointer (some ⟨Bf, 0, none⟩)] (fun x : Lt => #[Value.int .u8 (lnum x.1)]) (Below n₀) (fun ys => vals ys = apL L l) (fun _ => True) (apL L l).length w := fun ll J Jx W hW _ _ hY h0 => by
  have hc' := (hW.cell (p := ⟨Bs, 0, none⟩) hBs).trans hc
  have hcf' := (hW.cell (p := ⟨Bf, 0, none⟩) (Nat.lt_of_lt_of_le hf hn₀)).trans hcf
  have hT' := hT.below (hW.mono hn₀)
  rcases hR.below (hW.mono hn₀) with ⟨rfl, rfl⟩ | ⟨b, off, cap, rfl, hb, hcs⟩
  · exact (imgs_nil_in F n h7 hro ll Bs Bf J W hc' h0).mono fun e W' ⟨he, hj⟩ => ⟨he, .inl ⟨_, rfl, hj⟩⟩
  · refine (imgs_in F n h7 h9 hro hn ll Bs Bf n₀ T b off cap L hI l hw hb hf J Jx hY W hc' hcf' hT' hcs h0).mono ?_
    rintro e W' ⟨he, ⟨ys, h1, hj⟩ | ⟨pre, hj⟩⟩
    · exact ⟨he, .inl ⟨_, h1, hj⟩⟩
    · exact ⟨he, .inr ⟨_, trivial, hj⟩⟩
theorem imagesIn_any (a : Option Addr) (len cap T : Nat) (w : World) :
    Calls Try.prog 71 #[.slice a len cap, .func (.func 99) #[] #[.pointer (some ⟨T, 0, none⟩)]] w fun e w' => e = .returned (.func (.func 101) #[] #[.pointer (some ⟨w.heap.size, 0, none⟩), .pointer (some ⟨w.heap.size + 1, 0, none⟩)]) ∧ w'.heap.size = w.heap.size + 2 ∧ Below w.heap.size w w' ∧ w'.cell? ⟨w.heap.size, 0, none⟩ = some (.slice a len cap) ∧ w'.cell? ⟨w.heap.size + 1, 0, none⟩ = some (.func (.func 99) #[] #[.pointer (some ⟨T, 0, none⟩)]) := by
  go_enter Try.func71, Try.ntmps71
  go_wp2
  go_ret
  refine ⟨rfl, by simp, ((Below.refl _ w).alloc (Nat.le_refl _) _).alloc (by simp) _, ?_, ?_⟩
  · simp
  · have e : w.heap.size + 1 = (w.alloc (.cells #[.slice a len cap] 71)).heap.size := by simp
    rw [e]
    simp
/-- all images of a word's letters, reduced -/
theorem redimgs_any (Bs Bf T : Nat) (sv : Value) (L : List (List UInt8)) (hI : imgB L = true) (l : List UInt8) (hw : wordB l = true) (w : World) (hBs : Bs < w.heap.size) (hf : Bf < w.heap.size)
    (hc : w.cell? ⟨Bs, 0, none⟩ = some sv) (hcf : w.cell? ⟨Bf, 0, none⟩ = some (.func (.func 99) #[] #[.pointer (some ⟨T, 0, none⟩)])) (hR : LRow w.heap.size w sv l) (hT : TabR w.heap.size w T L) :
    Calls Try.prog 70 #[.func (.func 101) #[] #[.pointer (some ⟨Bs, 0, none⟩), .pointer (some ⟨Bf, 0, none⟩)]] w (LetPost (red (apL L l)) w) := by
  have hlen : (apL L l).length ≤ 4000000 := by
    have h1 := apL_len hI l (wordB_lets hw)
    have h2 := wordB_len hw
    omega
  have hseq := imgs_stops Fence.wide 2 trivial trivial rfl (by omega) Bs Bf w.heap.size T sv L hI l hw w hBs hf (Nat.le_refl _) hc hcf hR hT
  exact callsIn_wide.1 (ireduced_in Fence.wide 3 trivial trivial rfl (by omega) 101 #[.pointer (some ⟨Bs, 0, none⟩), .pointer (some ⟨Bf, 0, none⟩)] trivial (enters_of Try.func101 (by kernel_rfl) rfl) (apL L l) hlen w hseq)
set_option maxRecDepth 20000 in
set_option maxHeartbeats 800000 in
theorem iapply_any (a : Option Addr) (cap : Nat) (L : List (List UInt8)) (hL : SFew L) (l : List UInt8) (hm : l.length ≤ 4000000) (w : World) (h : SRow w.heap.size w a L) :
    Calls Try.prog 32 #[.slice a L.length cap, .string (txt l)] w (TextPost (apT L l) (apK L l) w) := by
  have HI := Lib.hid (ireadimg_any a cap L hL w h)
  cases hb : imgB L
  · have e1 : apT L l = [] := by unfold apT; rw [hb, if_neg (by simp)]
    have e2 : apK L l = 1 := by unfold apK; rw [hb, if_neg (by simp)]
    rw [e1, e2]
    have HB := Lib.hid hb
    clear e1 e2 h hL hb
    cases hw : wordB l
    all_goals
      first | have RW := Lib.hid (read_no l hm hw) | have RW := Lib.hid (read_yes l hw)
      clear hw
      go_enter Try.func32, Try.ntmps32
      go_wp2_with fail
      refine HI.out.mono ?_
      rintro e w1 ⟨⟨hb, v, rfl⟩ | ⟨hb, T, rfl, hT, hTab⟩, b⟩
      · have B1 := Lib.hid b
        clear b hb
        go_wp2_with fail
        refine (RW.out _).mono ?_
        first | rintro e w2 ⟨rfl, b2⟩ | rintro e w2 ⟨v2, rfl, O2, b2⟩
        have B2 := Lib.hid (B1.out.trans (b2.mono B1.out.size))
        clear b2
        have OR := Lib.hid (fun (c : Int) => or64_any w2.heap.size 1 c (w2.alloc (.cells #[.int .i64 1, .int .i64 c] 2)) (by simp) (by simp))
        go_wp2_with (go_at_call 62; refine (OR.out _).mono ?_; rintro e w' ⟨rfl, rfl⟩)
        go_ret2
        exact ⟨rfl, B2.out.alloc B2.out.size _⟩
      · rw [HB.out] at hb
        cases hb
  · have HB := Lib.hid hb
    cases hw : wordB l
    · have e1 : apT L l = [] := by unfold apT; rw [hw, if_neg (by simp)]
      have e2 : apK L l = 1 := by unfold apK; rw [hw, if_neg (by simp)]
      rw [e1, e2]
      have RW := Lib.hid (read_no l hm hw)
      clear e1 e2 h hL hb hw
      go_enter Try.func32, Try.ntmps32
      go_wp2_with fail
      refine HI.out.mono ?_
      rintro e w1 ⟨⟨hb, v, rfl⟩ | ⟨hb, T, rfl, hT, hTab⟩, b⟩
      · rw [HB.out] at hb
        cases hb
      · have B1 := Lib.hid b
        clear b hb hTab
        go_wp2_with fail
        refine (RW.out _).mono ?_
        rintro e w2 ⟨rfl, b2⟩
        have B2 := Lib.hid (B1.out.trans (b2.mono B1.out.size))
        clear b2
        have OR := Lib.hid (or64_any w2.heap.size 0 1 (w2.alloc (.cells #[.int .i64 0, .int .i64 1] 2)) (by simp) (by simp))
        go_wp2_with (go_at_call 62; refine OR.out.mono ?_; rintro e w' ⟨rfl, rfl⟩)
        go_ret2
        exact ⟨rfl, B2.out.alloc B2.out.size _⟩
    · have e1 : apT L l = if (red (apL L l)).length ≤ 40 then red (apL L l) else [] := by unfold apT; rw [if_pos ⟨hb, hw⟩]
      have e2 : apK L l = if (red (apL L l)).length ≤ 40 then 0 else 3 := by unfold apK; rw [if_pos ⟨hb, hw⟩]
      rw [e1, e2]
      have RW := Lib.hid (read_yes l hw)
      have hlim : Hid (∀ v3 w, LRow w.heap.size w v3 (red (apL L l)) → Calls Try.prog 72 #[v3] w (TextPost (if (red (apL L l)).length ≤ 40 then red (apL L l) else []) (if (red (apL L l)).length ≤ 40 then 0 else 3) w)) := Lib.hid fun v3 w h => ilimited_any v3 (red (apL L l)) (red_letters (apL_lets hb (wordB_lets hw))) (by have := apR_len hb hw; omega) w h
      have RI := Lib.hid (fun Bs Bf T sv w h1 h2 h3 h4 h5 h6 => redimgs_any Bs Bf T sv L hb l hw w h1 h2 h3 h4 h5 h6)
      generalize (if (red (apL L l)).length ≤ 40 then red (apL L l) else []) = R at hlim ⊢
      generalize (if (red (apL L l)).length ≤ 40 then (0 : Int) else 3) = C at hlim ⊢
      generalize red (apL L l) = r at hlim RI
      clear e1 e2 h hL hb hw
      go_enter Try.func32, Try.ntmps32
      go_wp2_with fail
      refine HI.out.mono ?_
      rintro e w1 ⟨⟨hb, v, rfl⟩ | ⟨hb, T, rfl, hT, hTab⟩, b⟩
      · rw [HB.out] at hb
        cases hb
      · have B1 := Lib.hid b
        have TB := Lib.hid hTab
        clear b hb hTab
        go_wp2_with fail
        refine (RW.out _).mono ?_
        rintro e w2 ⟨v2, rfl, O2, b2⟩
        have B2 := Lib.hid (B1.out.trans (b2.mono B1.out.size))
        have TB2 := Lib.hid (TB.out.keep b2)
        obtain ⟨x2, y2, rfl⟩ := O2.row.len
        have OR := Lib.hid (or64_any w2.heap.size 0 0 (w2.alloc (.cells #[.int .i64 0, .int .i64 0] 2)) (by simp) (by simp))
        obtain ⟨w3, hw3⟩ : ∃ w3, w3 = w2.alloc (.cells #[.int .i64 0, .int .i64 0] 2) := ⟨_, rfl⟩
        have b3 : Below w2.heap.size w2 w3 := by rw [hw3]; exact (Below.refl _ _).alloc (Nat.le_refl _) _
        have R3 := Lib.hid ((O2.row.below b3).up b3.size)
        have TB3 := Lib.hid (TB2.out.keep b3)
        have B3 := Lib.hid (B2.out.trans (b3.mono B2.out.size))
        have II := Lib.hid (imagesIn_any x2 l.length y2 T w3)
        rw [← hw3] at OR
        clear b2 O2 b3 TB TB2
        go_wp2_with (go_at_call 62; rw [← hw3]; refine OR.out.mono ?_; rintro e w' ⟨rfl, rfl⟩)
        rw [← hw3]
        refine II.out.mono ?_
        rintro e w4 ⟨rfl, hs4, b4, c4, f4⟩
        have RD := Lib.hid (RI.out w3.heap.size (w3.heap.size + 1) T (.slice x2 l.length y2) w4 (by omega) (by omega) c4 f4 ((R3.out.below b4).up b4.size) ((TB3.out.keep b4).tabR))
        have B4 := Lib.hid (B3.out.trans (b4.mono B3.out.size))
        clear b4 c4 f4 hs4 hw3 II OR R3 TB3 HI RW
        go_wp2_with fail
        have RD' := RD.out
        refine Calls.mono RD' ?_
        rintro e w5 ⟨v5, rfl, O5, b5⟩
        have B5 := Lib.hid (B4.out.trans (b5.mono B4.out.size))
        have LM := Lib.hid (hlim.out v5 w5 O5.row)
        clear O5 b5
        go_wp2_with fail
        refine LM.out.mono ?_
        rintro e w6 ⟨rfl, b6⟩
        have B6 := Lib.hid (B5.out.trans (b6.mono B5.out.size))
        clear b6
        go_wp2
        go_ret2
        exact ⟨rfl, B6.out⟩
end Go.Proofs.Ytdcphheeapmjcaa
