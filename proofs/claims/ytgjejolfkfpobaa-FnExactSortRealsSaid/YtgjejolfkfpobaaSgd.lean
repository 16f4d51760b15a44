/-
  CONTRACTS: the specification's exact sum: begun, a product added, its sign.
-/
import Derived.Test.YtgjejolfkfpobaaSgc
namespace Go.Proofs.Ytgjejolfkfpobaa
open Go.ChangeShapes Go.WideShapes Go.ChangeAt Go.RowKit Go.Deep
open Fl
structure ExactAt (w : World) (be bp bm : Nat) (g h : Nat → Nat) : Prop where
  row : w.heap[be]? = some (.cells #[.slice (some ⟨bp, 0, none⟩) 24 24, .slice (some ⟨bm, 0, none⟩) 24 24] 137 (0, 0))
  plus : LimbAt w bp g
  minus : LimbAt w bm h
  pm : bp ≠ bm
  ep : be ≠ bp
  em : be ≠ bm
structure SpecAcc (B be bp bm : Nat) (bs cs : List Nat) (k : Nat) (w : World) : Prop where
  le : B ≤ be
  lp : B ≤ bp
  lm : B ≤ bm
  at' : ∃ g h, ExactAt w be bp bm g h ∧ (∀ i, g i < B32) ∧ (∀ i, h i < B32) ∧ pw g 24 = PS true bs cs k ∧ pw h 24 = PS false bs cs k
theorem Off.belowB {b B : Nat} {w w' : World} (h : Off b w w') (hb : B ≤ b) : Below B w w' := by
  obtain ⟨h1, h2, h3, h4, h5⟩ := h
  exact ⟨h1, h2, h3, by omega, fun k hk => h5 k (by omega)⟩
theorem ExactAt.plus' {w w' : World} {be bp bm : Nat} {g h g' : Nat → Nat} (he : ExactAt w be bp bm g h) (ho : Off bp w w') (hl : LimbAt w' bp g') : ExactAt w' be bp bm g' h :=
  ⟨by rw [ho.2.2.2.2 be he.ep]; exact he.row, hl, he.minus.other ho (fun e => he.pm e.symm), he.pm, he.ep, he.em⟩
theorem ExactAt.minus' {w w' : World} {be bp bm : Nat} {g h h' : Nat → Nat} (he : ExactAt w be bp bm g h) (ho : Off bm w w') (hl : LimbAt w' bm h') : ExactAt w' be bp bm g h' :=
  ⟨by rw [ho.2.2.2.2 be he.em]; exact he.row, he.plus.other ho he.pm, hl, he.pm, he.ep, he.em⟩
def AddPost (B be bp bm : Nat) (bs cs : List Nat) (k : Nat) (w : World) (e : Ending) (w' : World) : Prop := e = .returned (.tuple #[]) ∧ SpecAcc B be bp bm bs cs k w' ∧ Below B w w'
def x768 : Nat := 768
theorem PS_b32 {bs cs : List Nat} {len k : Nat} (s : Bool) (hb : AllFin bs len) (hc : AllFin cs len) (hl : len ≤ 256) (h : k ≤ len) : PS s bs cs k < B32 ^ 24 := by
  have h1 := PS_lt s hb hc hl h
  have h2 : B32 ^ 24 = 2 ^ x768 := by rw [B32_pow, show 32 * 24 = x768 from by decide]
  have h3 : 2 ^ x562 < 2 ^ x768 := Nat.pow_lt_pow_right (by omega) (by unfold x562 x768; omega)
  rw [h2]
  exact Nat.lt_of_le_of_lt h1 h3
theorem tfr_int (bs cs : List Nat) (k : Nat) : ((frac (bs[k]?.getD 0) : Nat) : Int) * ((frac (cs[k]?.getD 0) : Nat) : Int) = ((tfr bs cs k : Nat) : Int) := by
  unfold tfr; rw [Int.natCast_mul]
theorem put_at (b n sh : Nat) (x y : Int) (g : Nat → Nat) (w : World) (hx : x = (n : Int)) (hy : y = (sh : Int)) (hg : ∀ i, g i < B32) (hn : n < 281474976710656) (hs : sh ≤ 506) (hT : pw g 24 + n * 2 ^ sh < B32 ^ 24) (hL : LimbAt w b g) :
    Calls Try.prog 123 #[.slice (some ⟨b, 0, none⟩) 24 24, .int .u64 x, .int .i64 y] w (CarryPost b (pw g 24 + n * 2 ^ sh) w) := by
  subst hx; subst hy
  exact put_any b n sh g w hg hn hs hT hL
set_option maxRecDepth 8000 in
theorem add_any (B be bp bm len k : Nat) (bs cs : List Nat) (w : World) (hb : AllFin bs len) (hc : AllFin cs len) (hl : len ≤ 256) (hk : k < len)
    (wb : W32 (bs[k]?.getD 0)) (wc : W32 (cs[k]?.getD 0)) (hS : SpecAcc B be bp bm bs cs k w) :
    Calls Try.prog 92 #[.pointer (some ⟨be, 0, none⟩), .float .f32 (bs[k]?.getD 0), .float .f32 (cs[k]?.getD 0)] w (AddPost B be bp bm bs cs (k + 1) w) := by
  obtain ⟨q1, q2, q3, g, h, hE, hg, hh, hp, hm⟩ := hS
  have hlt := PS_b32 (k := k + 1) (tsm bs cs k) hb hc hl (by omega)
  have e1 : PS (tsm bs cs k) bs cs (k + 1) = PS (tsm bs cs k) bs cs k + tfr bs cs k * 2 ^ tsh bs cs k := by show PS _ bs cs k + _ = _; rw [if_pos rfl]
  have hsh := tsh_le hb hc hk
  have hfr := tfr_lt bs cs k
  have hti := tfr_int bs cs k
  have hte := tsh_eq bs cs k
  have x1 := expo_ge (bs[k]?.getD 0)
  have x2 := expo_ge (cs[k]?.getD 0)
  have x3 := expo_le (hb k hk)
  have x4 := expo_le (hc k hk)
  have y1 := frac_lt (bs[k]?.getD 0)
  have y2 := frac_lt (cs[k]?.getD 0)
  have c0 : w.cell? ⟨be, 0, none⟩ = some (.slice (some ⟨bp, 0, none⟩) 24 24) := by simp [World.cell?, hE.row]
  have c1 : w.cell? ⟨be, 1, none⟩ = some (.slice (some ⟨bm, 0, none⟩) 24 24) := by simp [World.cell?, hE.row]
  cases hs : tsm bs cs k
  · rw [hs] at e1 hlt
    have ht : (neg (bs[k]?.getD 0) == neg (cs[k]?.getD 0)) = false := hs
    have R : Hid (∀ e w', CarryPost bm (pw h 24 + tfr bs cs k * 2 ^ tsh bs cs k) w e w' → AddPost B be bp bm bs cs (k + 1) w e w') := Lib.hid (by
      rintro e w' ⟨rfl, ⟨h', hh', hv, hL⟩, hO⟩
      refine ⟨rfl, ⟨q1, q2, q3, g, h', hE.minus' hO hL, hg, hh', ?_, ?_⟩, hO.belowB q3⟩
      · rw [hp]; show _ = PS true bs cs k + _; rw [if_neg (by rw [hs]; decide)]; omega
      · rw [hv, hm, e1])
    have M : Hid (LimbAt w bm h) := Lib.hid hE.minus
    have HH := Lib.hid hh
    have T : Hid (pw h 24 + tfr bs cs k * 2 ^ tsh bs cs k < B32 ^ 24) := Lib.hid (by rw [hm, ← e1]; exact hlt)
    have HS := Lib.hid hsh
    have HF := Lib.hid hfr
    have HI := Lib.hid hti
    have HE := Lib.hid hte
    have b1 : 0 ≤ ((frac (bs[k]?.getD 0) : Nat) : Int) * ((frac (cs[k]?.getD 0) : Nat) : Int) := by rw [hti]; omega
    have b2 : ((frac (bs[k]?.getD 0) : Nat) : Int) * ((frac (cs[k]?.getD 0) : Nat) : Int) ≤ 281474976710655 := by rw [hti]; omega
    clear hE hg hh hp hm hb hc e1 hlt hs hsh hfr hti hte q1 q2 q3 hk
    go_enter Try.func92, Try.ntmps92
    go_wp2_with (go_at_call 122; first | ((with_reducible refine (l01Parts_any _ wb _).mono ?_); rintro e w' ⟨rfl, rfl⟩) | ((with_reducible refine (l01Parts_any _ wc _).mono ?_); rintro e w' ⟨rfl, rfl⟩))
    refine (put_at bm (tfr bs cs k) (tsh bs cs k) _ _ h _ HI.out HE.out.symm HH.out HF.out HS.out T.out M.out).mono ?_
    intro e w' hpost
    obtain rfl := hpost.1
    have Q := Lib.hid (R.out _ _ hpost)
    clear hpost
    go_wp2
    go_end0
    exact Q.out
  · rw [hs] at e1 hlt
    have ht : (neg (bs[k]?.getD 0) == neg (cs[k]?.getD 0)) = true := hs
    have R : Hid (∀ e w', CarryPost bp (pw g 24 + tfr bs cs k * 2 ^ tsh bs cs k) w e w' → AddPost B be bp bm bs cs (k + 1) w e w') := Lib.hid (by
      rintro e w' ⟨rfl, ⟨h', hh', hv, hL⟩, hO⟩
      refine ⟨rfl, ⟨q1, q2, q3, h', h, hE.plus' hO hL, hh', hh, ?_, ?_⟩, hO.belowB q2⟩
      · rw [hv, hp, e1]
      · rw [hm]; show _ = PS false bs cs k + _; rw [if_neg (by rw [hs]; decide)]; omega)
    have M : Hid (LimbAt w bp g) := Lib.hid hE.plus
    have HH := Lib.hid hg
    have T : Hid (pw g 24 + tfr bs cs k * 2 ^ tsh bs cs k < B32 ^ 24) := Lib.hid (by rw [hp, ← e1]; exact hlt)
    have HS := Lib.hid hsh
    have HF := Lib.hid hfr
    have HI := Lib.hid hti
    have HE := Lib.hid hte
    have b1 : 0 ≤ ((frac (bs[k]?.getD 0) : Nat) : Int) * ((frac (cs[k]?.getD 0) : Nat) : Int) := by rw [hti]; omega
    have b2 : ((frac (bs[k]?.getD 0) : Nat) : Int) * ((frac (cs[k]?.getD 0) : Nat) : Int) ≤ 281474976710655 := by rw [hti]; omega
    clear hE hg hh hp hm hb hc e1 hlt hs hsh hfr hti hte q1 q2 q3 hk
    go_enter Try.func92, Try.ntmps92
    go_wp2_with (go_at_call 122; first | ((with_reducible refine (l01Parts_any _ wb _).mono ?_); rintro e w' ⟨rfl, rfl⟩) | ((with_reducible refine (l01Parts_any _ wc _).mono ?_); rintro e w' ⟨rfl, rfl⟩))
    refine (put_at bp (tfr bs cs k) (tsh bs cs k) _ _ g _ HI.out HE.out.symm HH.out HF.out HS.out T.out M.out).mono ?_
    intro e w' hpost
    obtain rfl := hpost.1
    have Q := Lib.hid (R.out _ _ hpost)
    clear hpost
    go_wp2
    go_end0
    exact Q.out
/-- where two sums are held against each other, from the highest limb down -/
theorem pw_eq_of {g h : Nat → Nat} (he : ∀ j, j < 24 → g j = h j) : pw g 24 = pw h 24 := pw_congr 24 he
theorem sg_gt {x y : Nat} (h : y < x) : sg x y = 1 := by unfold sg; rw [if_neg (by omega), if_neg (by omega)]
theorem sg_lt {x y : Nat} (h : x < y) : sg x y = -1 := by unfold sg; rw [if_neg (by omega), if_pos h]
theorem sg_eq {x y : Nat} (h : x = y) : sg x y = 0 := by unfold sg; rw [if_pos h]
def DrewSame (w w' : World) : Prop := ∃ n, w' = w.drewN n
theorem DrewSame.refl (w : World) : DrewSame w w := ⟨0, rfl⟩
theorem DrewSame.n {w w1 : World} (h : DrewSame w w1) (k : Nat) : DrewSame w (w1.drewN k) := by
  obtain ⟨m, rfl⟩ := h
  exact ⟨m + k, by rw [World.drewN_drewN]⟩
theorem DrewSame.trans {w w1 w2 : World} (h : DrewSame w w1) (k : DrewSame w1 w2) : DrewSame w w2 := by
  obtain ⟨m, rfl⟩ := k
  exact h.n m
theorem DrewSame.below {w w1 : World} {B : Nat} (h : DrewSame w w1) : Below B w w1 := by
  obtain ⟨m, rfl⟩ := h
  exact ⟨rfl, rfl, rfl, Nat.le_refl _, fun _ _ => rfl⟩
theorem compare_any (bp bm : Nat) (g h : Nat → Nat) (w : World) (hg : ∀ i, g i < B32) (hh : ∀ i, h i < B32) (hp : LimbAt w bp g) (hm : LimbAt w bm h) :
    Calls Try.prog 124 #[.slice (some ⟨bp, 0, none⟩) 24 24, .slice (some ⟨bm, 0, none⟩) 24 24] w fun e w' => e = .returned (.int .i64 (sg (pw g 24) (pw h 24))) ∧ DrewSame w w' := by
  have HG := Lib.hid hg
  have HH := Lib.hid hh
  have HP := Lib.hid hp
  have HM := Lib.hid hm
  clear hg hh hp hm
  go_enter Try.func124, Try.ntmps124
  go_wp2
  go_loopw [5] (fun i wr => ∃ k m : Nat, k ≤ 24 ∧ i = .int .i64 ((k : Int) - 1) ∧ (∀ j, k ≤ j → j < 24 → g j = h j) ∧ wr = w.drewN m) (fun i _ => (intOf i + 1).toNat)
  case atStart => exact ⟨24, 0, Nat.le_refl _, rfl, fun j h1 h2 => absurd h2 (by omega), rfl⟩
  case round =>
    obtain ⟨k, m, hk, rfl, he, hw⟩ := hrel
    have E := Lib.hid he
    have W := Lib.hid hw
    clear he
    by_cases h0 : k = 0
    · subst h0
      have R : Hid (sg (pw g 24) (pw h 24) = 0) := Lib.hid (sg_eq (pw_eq_of fun j hj => E.out j (by omega) hj))
      clear hw
      go_wp2
      go_ret
      exact ⟨ret_int (by rw [R.out]), m, W.out⟩
    · obtain ⟨n, rfl⟩ : ∃ n, k = n + 1 := ⟨k - 1, by omega⟩
      have e : ((n + 1 : Nat) : Int) - 1 = (n : Int) := by omega
      rw [e]
      have c1 : wr.cell? ⟨bp, n, none⟩ = some (.int .u64 (g n : Nat)) := by rw [hw]; exact HP.out.cell n (by omega)
      have c2 : wr.cell? ⟨bm, n, none⟩ = some (.int .u64 (h n : Nat)) := by rw [hw]; exact HM.out.cell n (by omega)
      have hn : (n : Int) ≤ 23 := by omega
      clear e h0 hw hk
      rcases Nat.lt_trichotomy (h n) (g n) with hlt | heq | hgt
      · have t1 : decide (h n < g n) = true := by simpa using hlt
        have R : Hid (sg (pw g 24) (pw h 24) = 1) := Lib.hid (sg_gt (by
          have := pw_gt HH.out n hlt (23 - n) (fun j h1 h2 => E.out j (by omega) (by omega))
          rw [show n + 1 + (23 - n) = 24 from by omega] at this
          exact this))
        clear hlt
        go_wp2
        go_quiet (fail)
        go_wp2
        go_ret
        exact ⟨ret_int (by rw [R.out]), m + nq, by rw [W.out, World.drewN_drewN]⟩
      · have t1 : decide (h n < g n) = false := by simp; omega
        have t2 : decide (g n < h n) = false := by simp; omega
        have HEQ := Lib.hid heq
        clear heq
        go_wp2
        go_quiet (fail)
        go_wp2
        go_quiet (fail)
        go_wp2
        go_roundw
        case rel => exact ⟨n, _, by omega, rfl, fun j h1 h2 => by
          by_cases hj : j = n
          · rw [hj]; exact HEQ.out.symm
          · exact E.out j (by omega) h2, by rw [W.out, World.drewN_drewN]⟩
        case measure => simp [intOf]
      · have t1 : decide (h n < g n) = false := by simp; omega
        have t2 : decide (g n < h n) = true := by simpa using hgt
        have R : Hid (sg (pw g 24) (pw h 24) = -1) := Lib.hid (sg_lt (by
          have := pw_gt HG.out n hgt (23 - n) (fun j h1 h2 => (E.out j (by omega) (by omega)).symm)
          rw [show n + 1 + (23 - n) = 24 from by omega] at this
          exact this))
        clear hgt
        go_wp2
        go_quiet (fail)
        go_wp2
        go_quiet (fail)
        go_wp2
        go_ret
        first | exact ⟨ret_int (by rw [R.out]), _, by rw [W.out, World.drewN_drewN]⟩ | exact ⟨ret_int (by rw [R.out]), DrewSame.n (DrewSame.n ⟨m, W.out⟩ _) _⟩ | exact ⟨ret_int (by rw [R.out]), by rw [W.out]; exact DrewSame.n (DrewSame.n ⟨m, rfl⟩ _) _⟩ | exact ⟨ret_int (by rw [R.out]), DrewSame.n ⟨m, W.out⟩ _⟩
end Go.Proofs.Ytgjejolfkfpobaa
