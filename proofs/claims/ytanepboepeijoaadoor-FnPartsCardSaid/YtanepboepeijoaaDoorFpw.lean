import Derived.Test.YtanepboepeijoaaDoorFp
import Derived.Test.YtanepboepeijoaaDoorKs
namespace Go.Proofs.YtanepboepeijoaaDoor
set_option linter.unusedVariables false
set_option linter.unusedSimpArgs false
open Go.ChangeShapes Go.WideShapes Go.ChangeAt Go.RowKit Go.Deep
open Fl
theorem place_key (a : Nat) (hk : kd a ≠ 4) : Place (key a) := by
  have := kd_le a hk
  unfold Place key
  cases neg a <;> simp only [Bool.false_eq_true, ↓reduceIte] <;> omega
theorem kd_cases (a : Nat) (hf : kd a < 3) (h0 : kd a ≠ 0) : kd a = 1 ∨ kd a = 2 := by
  unfold kd at *
  repeat (split at * <;> try omega)
theorem same_self (a : Nat) : same a a = true := by
  unfold same
  split <;> simp [*]
theorem text_read (a : Nat) (ha : W32 a) (hk : kd a ≠ 4) : ∃ t : ByteArray,
    (∀ w, Amb w → Calls Tryd.prog 8 #[.float .f32 a] w fun e w' => e = .returned (.string t) ∧ Below w.heap.size w w') ∧
    (∀ w, Amb w → Calls Tryd.prog 10 #[.string t] w fun e w' => e = .returned (outR (some a)) ∧ Below w.heap.size w w') := by
  refine ⟨⟨(hexT a 8).toArray⟩, fun w h => implText_num a ha hk w h.tab h.tablt, fun w h => ?_⟩
  rw [← readE_text a ha hk]
  exact implReadE _ (by show (hexT a 8).toArray.size ≤ 1048576; simp [hexT_len]) w h
attribute [local irreducible] above below key flush frac expo
set_option maxRecDepth 8000 in
set_option maxHeartbeats 40000000 in
theorem parts_big (len cap : Nat) (c : Option Addr) (hl : 4096 < len) (w : World) :
    Calls Tryd.prog 6 #[.slice c len cap] w fun e w' => e = .returned (.bool true) ∧ Below w.heap.size w w' := by
  have hd : decide ((4096 : Int) < (len : Int)) = true := decide_eq_true (by omega)
  have H := Lib.hid (big_any len cap c)
  clear hl
  go_enter Tryd.func6, Tryd.ntmps6
  go_wp2_with (go_at_call 15; refine (H.out _).mono ?_; rintro e w' ⟨rfl, rfl⟩; rw [hd])
  go_ret
  exact ⟨rfl, Below.refl _ _⟩
set_option maxRecDepth 8000 in
set_option maxHeartbeats 40000000 in
theorem parts_walk (len cap : Nat) (c : Option Addr) (hl : len ≤ 4096) (w : World) (h : BRow w.heap.size w c len) (hA : Amb w) :
    Calls Tryd.prog 6 #[.slice c len cap] w fun e w' => e = .returned (.bool true) ∧ Below w.heap.size w w' := by
  have hd : decide ((4096 : Int) < (len : Int)) = false := decide_eq_false (by omega)
  have H := Lib.hid (big_any len cap c)
  have HP := Lib.hid (p6Any len cap c hl w h)
  have HA := Lib.hid hA
  clear h hA
  go_enter Tryd.func6, Tryd.ntmps6
  go_wp2_with (go_at_call 15; refine (H.out _).mono ?_; rintro e w' ⟨rfl, rfl⟩; rw [hd])
  refine HP.out.mono ?_
  rintro e w1 ⟨⟨a, ha, rfl⟩, b1⟩
  have BB := Lib.hid b1
  clear b1 hl hd H HP
  by_cases hk4 : kd a = 4
  · have HT := Lib.hid (implText_nan a ha hk4)
    have HR := Lib.hid implRead_nan
    have q4 : (kd a == 4) = true := by simpa using hk4
    have ho := neq_self a
    rw [show decide (kd a = 4) = true from by simpa using hk4] at ho
    have hs : same 2143289344 a = true := by unfold same; rw [if_pos (by decide)]; simpa using hk4
    have hsa := same_self a
    have hu := neq_self (above a)
    rw [show decide (kd (above a) = 4) = true from decide_eq_true ((kd_above a).2 hk4)] at hu
    have hb := neq_self (below a)
    rw [show decide (kd (below a) = 4) = true from decide_eq_true ((kd_below a).2 hk4)] at hb
    go_wp2_with fail
    refine (HT.out _).mono ?_
    rintro e w2 ⟨rfl, b2⟩
    have BB := Lib.hid (BB.out.trans (b2.mono BB.out.size))
    clear b2
    go_wp2_with fail
    refine (HR.out _).mono ?_
    rintro e w3 ⟨rfl, b3⟩
    have BB := Lib.hid (BB.out.trans (b3.mono BB.out.size))
    clear b3
    simp only [outR]
    go_wp2_with (first | (go_at_call 17; refine (implKindOf_any a ha _).mono ?_; rintro e w' ⟨rfl, rfl⟩) | (go_at_call 18; refine (specSame_any 2143289344 a (by unfold W32; omega) ha _).mono ?_; rintro e w' ⟨rfl, rfl⟩; rw [hs]) | (go_at_call 19; refine (specKindB a ha _).mono ?_; rintro e w' ⟨rfl, b'⟩; have BB := Lib.hid (BB.out.trans (b'.mono BB.out.size)); clear b') | (go_at_call 20; refine (implSame_any a a ha ha _).mono ?_; rintro e w' ⟨rfl, rfl⟩; rw [hsa]) | (go_at_call 21; refine (implOrderKey_nan a ha hk4 _).mono ?_; rintro e w' ⟨rfl, rfl⟩) | (go_at_call 22; refine (NextAbove_any a ha _).mono ?_; rintro e w' ⟨rfl, rfl⟩) | (go_at_call 23; refine (implNextBelow_any a ha _).mono ?_; rintro e w' ⟨rfl, rfl⟩))
    go_ret
    exact ⟨rfl, BB.out⟩
  · obtain ⟨t, HT, HR⟩ := text_read a ha hk4
    have HT := Lib.hid HT
    have HR := Lib.hid HR
    have hsa := same_self a
    have hpl := Lib.hid (place_key a hk4)
    have hfk := Lib.hid (fromKey_key a ha)
    by_cases hk3 : kd a = 3
    · have hs3 := kd_inf hk3
      have hoa : FloatKind.f32.format.order a a = some .eq := order32_self (b := a) (by rw [nan_kd]; simpa using hk4)
      cases hn : neg a
      · have hab := above_inf a hk3 hn
        have hzo : FloatKind.f32.format.order a 0 = some .gt := by rw [show FloatKind.f32.format.order a 0 = _ from order_zero a ha hk4, show ks a = 2139095040 from by unfold ks; rw [hn, hs3]; rfl]; rfl
        go_wp2_with fail
        refine (HT.out _ (HA.out.below BB.out)).mono ?_
        rintro e w2 ⟨rfl, b2⟩
        have BB := Lib.hid (BB.out.trans (b2.mono BB.out.size))
        clear b2
        go_wp2_with fail
        refine (HR.out _ (HA.out.below BB.out)).mono ?_
        rintro e w3 ⟨rfl, b3⟩
        have BB := Lib.hid (BB.out.trans (b3.mono BB.out.size))
        clear b3
        simp only [outR]
        go_wp2_with (first | (go_at_call 17; refine (implKindOf_any a ha _).mono ?_; rintro e w' ⟨rfl, rfl⟩) | (go_at_call 18; refine (specSame_any a a ha ha _).mono ?_; rintro e w' ⟨rfl, rfl⟩; rw [hsa]) | (go_at_call 19; refine (specKindB a ha _).mono ?_; rintro e w' ⟨rfl, b'⟩; have BB := Lib.hid (BB.out.trans (b'.mono BB.out.size)); clear b') | (go_at_call 20; refine (implSame_any a a ha ha _).mono ?_; rintro e w' ⟨rfl, rfl⟩; rw [hsa]) | (go_at_call 22; refine (NextAbove_any a ha _).mono ?_; rintro e w' ⟨rfl, rfl⟩) | (go_at_call 23; refine (implNextBelow_any a ha _).mono ?_; rintro e w' ⟨rfl, rfl⟩) | (go_at_call 24; refine (implFromOrderKey_yes (key a) hpl.out _).mono ?_; rintro e w' ⟨rfl, rfl⟩; rw [hfk.out]) | (go_at_call 21; refine (implOrderKey_num a ha hk4 _).mono ?_; rintro e w' ⟨rfl, rfl⟩) | (go_at_call 25; refine (implSplit_odd a ha (by omega) _).mono ?_; rintro e w' ⟨rfl, rfl⟩))
        go_ret
        exact ⟨rfl, BB.out⟩
      · have hbe := below_inf a ha hk3 hn
        have hzo : FloatKind.f32.format.order a 0 = some .lt := by rw [show FloatKind.f32.format.order a 0 = _ from order_zero a ha hk4, show ks a = -2139095040 from by unfold ks; rw [hn, hs3]; rfl]; rfl
        go_wp2_with fail
        refine (HT.out _ (HA.out.below BB.out)).mono ?_
        rintro e w2 ⟨rfl, b2⟩
        have BB := Lib.hid (BB.out.trans (b2.mono BB.out.size))
        clear b2
        go_wp2_with fail
        refine (HR.out _ (HA.out.below BB.out)).mono ?_
        rintro e w3 ⟨rfl, b3⟩
        have BB := Lib.hid (BB.out.trans (b3.mono BB.out.size))
        clear b3
        simp only [outR]
        go_wp2_with (first | (go_at_call 17; refine (implKindOf_any a ha _).mono ?_; rintro e w' ⟨rfl, rfl⟩) | (go_at_call 18; refine (specSame_any a a ha ha _).mono ?_; rintro e w' ⟨rfl, rfl⟩; rw [hsa]) | (go_at_call 19; refine (specKindB a ha _).mono ?_; rintro e w' ⟨rfl, b'⟩; have BB := Lib.hid (BB.out.trans (b'.mono BB.out.size)); clear b') | (go_at_call 20; refine (implSame_any a a ha ha _).mono ?_; rintro e w' ⟨rfl, rfl⟩; rw [hsa]) | (go_at_call 22; refine (NextAbove_any a ha _).mono ?_; rintro e w' ⟨rfl, rfl⟩) | (go_at_call 23; refine (implNextBelow_any a ha _).mono ?_; rintro e w' ⟨rfl, rfl⟩) | (go_at_call 24; refine (implFromOrderKey_yes (key a) hpl.out _).mono ?_; rintro e w' ⟨rfl, rfl⟩; rw [hfk.out]) | (go_at_call 21; refine (implOrderKey_num a ha hk4 _).mono ?_; rintro e w' ⟨rfl, rfl⟩) | (go_at_call 25; refine (implSplit_odd a ha (by omega) _).mono ?_; rintro e w' ⟨rfl, rfl⟩))
        go_ret
        exact ⟨rfl, BB.out⟩
    · have hf : kd a < 3 := by unfold kd at hk3 hk4 ⊢; repeat (split at hk3 <;> try omega)
      obtain ⟨p, hp⟩ : ∃ p : Nat, expo a + 640 = p := ⟨(expo a + 640).toNat, by have := expo_range a hf; omega⟩
      have hJ := implJoin a p ha hf hp
      have hU := implUnit_fin a p ha hf hp
      have hSp := implSplit_fin a ha hf
      have hUk := kd_unit p hp (expo_range a hf).1 (expo_range a hf).2
      have hsub : ∀ (hn : neg a = false) (hs : sz a + 1 < 2139095040), Ieee.single.sub (above a) a = some (wordE (1 * 2 ^ p)) := by
        intro hn hs
        have e := above_pos a ha hf hn
        have ha2 : a = sz a := by unfold neg at hn; unfold sz; unfold W32 at ha; simp at hn; omega
        rw [e]
        exact sub_next a p (by omega) hp
      generalize wordE (1 * 2 ^ p) = U at hU hUk hsub
      clear hp
      have hUU : FloatKind.f32.format.order U U = some .eq := order32_self (b := U) (by rw [nan_kd]; simpa using hUk)
      have hua : FloatKind.f32.format.order (above a) a = some .gt := order_above a ha hf
      have hda : FloatKind.f32.format.order (below a) a = some .lt := order_below a ha hf
      have hoU := implOrderKey_num (above a) (above_W32 a ha) (by rw [Ne, kd_above]; exact hk4)
      have hoD := implOrderKey_num (below a) (below_W32 a) (by rw [Ne, kd_below]; exact hk4)
      have hoA := implOrderKey_num a ha hk4
      have hFr := implFromOrderKey_yes (key a) hpl.out
      rw [hfk.out] at hFr
      have hKr := kd_fin_key a hf
      have hO := order_zero a ha hk4
      rw [ks_key] at hO
      have hUs := Lib.hid (above_W32 a ha)
      have h00 : FloatKind.f32.format.order 0 0 = some .eq := by decide
      have hm0 : FloatKind.f32.format.order 2147483648 0 = some .eq := by decide
      have hF := implFlush_any a ha
      clear hpl hfk
      cases hn : neg a
      · rw [hn] at hJ hSp
        by_cases hk : kd a = 0
        · have hz := (kd_zero_sz a).1 hk
          have hkz : key a = 0 := by rw [key_zero a hk, hn]; rfl
          have hZ : FloatKind.f32.format.order a 0 = some .eq := by rw [show FloatKind.f32.format.order a 0 = _ from hO, hkz]; rfl
          have hs1 : sz a + 1 < 2139095040 := by omega
          have hop1 : ∀ t w, (binOp .sub t (.float .f32 (above a)) (.float .f32 (above a))).run Tryd.prog w = .ok (.float .f32 0) w := fun t w => run_float_arith w .sub t .f32 _ _ 0 (sub_self_fin (by unfold fin32; have e := above_pos a ha hf hn; unfold neg at hn; unfold sz at hs1; unfold W32 at ha; simp at hn; simp; omega))
          have hop2 : ∀ t w, (binOp .sub t (.float .f32 (above a)) (.float .f32 a)).run Tryd.prog w = .ok (.float .f32 U) w := fun t w => run_float_arith w .sub t .f32 _ _ U (hsub hn hs1)
          rw [hkz] at hoA hFr
          rw [key_above0 a hk] at hoU
          rw [key_below0 a hk] at hoD
          have hfl : flush a = a := by unfold flush; rw [if_neg (by omega)]
          rw [hfl] at hF
          clear hfl
          have hF := Lib.hid hF
          have hJ := Lib.hid hJ
          have hU := Lib.hid hU
          have hSp := Lib.hid hSp
          have hoU := Lib.hid hoU
          have hoD := Lib.hid hoD
          have hoA := Lib.hid hoA
          have hFr := Lib.hid hFr
          clear hO hsub hUk hKr hk3
          go_wp2_with fail
          refine (HT.out _ (HA.out.below BB.out)).mono ?_
          rintro e w2 ⟨rfl, b2⟩
          have BB := Lib.hid (BB.out.trans (b2.mono BB.out.size))
          clear b2
          go_wp2_with fail
          refine (HR.out _ (HA.out.below BB.out)).mono ?_
          rintro e w3 ⟨rfl, b3⟩
          have BB := Lib.hid (BB.out.trans (b3.mono BB.out.size))
          clear b3
          simp only [outR]
          go_wp2_with (first | (go_at_call 17; refine (implKindOf_any a ha _).mono ?_; rintro e w' ⟨rfl, rfl⟩) | (go_at_call 18; refine (specSame_any a a ha ha _).mono ?_; rintro e w' ⟨rfl, rfl⟩; rw [hsa]) | (go_at_call 19; refine (specKindB a ha _).mono ?_; rintro e w' ⟨rfl, b'⟩; have BB := Lib.hid (BB.out.trans (b'.mono BB.out.size)); clear b') | (go_at_call 20; refine (implSame_any a a ha ha _).mono ?_; rintro e w' ⟨rfl, rfl⟩; rw [hsa]) | (go_at_call 22; refine (NextAbove_any a ha _).mono ?_; rintro e w' ⟨rfl, rfl⟩) | (go_at_call 23; refine (implNextBelow_any a ha _).mono ?_; rintro e w' ⟨rfl, rfl⟩) | (go_at_call 24; refine (hFr.out _).mono ?_; rintro e w' ⟨rfl, rfl⟩) | (go_at_call 25; refine (hSp.out _).mono ?_; rintro e w' ⟨rfl, rfl⟩) | (go_at_call 26; refine (hJ.out _).mono ?_; rintro e w' ⟨rfl, b'⟩; have BB := Lib.hid (BB.out.trans (b'.mono BB.out.size)); clear b') | (go_at_call 27; refine (hU.out _).mono ?_; rintro e w' ⟨rfl, b'⟩; have BB := Lib.hid (BB.out.trans (b'.mono BB.out.size)); clear b') | (go_at_call 21; with_reducible refine (hoA.out _).mono ?_; rintro e w' ⟨rfl, rfl⟩) | (go_at_call 21; with_reducible refine (hoU.out _).mono ?_; rintro e w' ⟨rfl, rfl⟩) | (go_at_call 21; with_reducible refine (hoD.out _).mono ?_; rintro e w' ⟨rfl, rfl⟩) | (go_at_call 28; refine (hF.out _).mono ?_; rintro e w' ⟨rfl, rfl⟩))
          go_ret
          exact ⟨rfl, BB.out⟩
        · have hkn := key_not a hk
          have hku := key_above a hf hk
          have hkd := key_below a hf hk
          have hkk : key a = (sz a : Int) := by unfold key; rw [hn]; rfl
          have hZ : FloatKind.f32.format.order a 0 = some .gt := by rw [show FloatKind.f32.format.order a 0 = _ from hO, Int.compare_eq_gt.2 (by split <;> omega)]
          rw [hku] at hoU
          rw [hkd] at hoD
          have hK0 : 0 < key a := by omega
          have hK1 := hKr.1
          have hK2 := hKr.2
          by_cases hs1 : sz a + 1 < 2139095040
          · have hop1 : ∀ t w, (binOp .sub t (.float .f32 (above a)) (.float .f32 (above a))).run Tryd.prog w = .ok (.float .f32 0) w := fun t w => run_float_arith w .sub t .f32 _ _ 0 (sub_self_fin (by unfold fin32; have e := above_pos a ha hf hn; unfold neg at hn; unfold sz at hs1; unfold W32 at ha; simp at hn; simp; omega))
            have hop2 : ∀ t w, (binOp .sub t (.float .f32 (above a)) (.float .f32 a)).run Tryd.prog w = .ok (.float .f32 U) w := fun t w => run_float_arith w .sub t .f32 _ _ U (hsub hn hs1)
            rcases (kd_cases a hf hk) with hk1 | hk1
            · clear hk
              have hk := hk1
              generalize key a = K at hoA hFr hoU hoD hK0 hK1 hK2
              clear hku hkd hkk hkn hs1
              have hfl : flush a = 0 := by unfold flush; rw [if_pos hk, hn]; rfl
              have hX := specText_num 0 (by unfold W32; omega) (by decide)
              rw [show (hexT 0 8).toArray = #[48, 48, 48, 48, 48, 48, 48, 48] from by decide] at hX
              have hX := Lib.hid hX
              rw [hfl] at hF
              clear hfl
              have hF := Lib.hid hF
              have hJ := Lib.hid hJ
              have hU := Lib.hid hU
              have hSp := Lib.hid hSp
              have hoU := Lib.hid hoU
              have hoD := Lib.hid hoD
              have hoA := Lib.hid hoA
              have hFr := Lib.hid hFr
              clear hO hsub hUk hKr hk3
              go_wp2_with fail
              refine (HT.out _ (HA.out.below BB.out)).mono ?_
              rintro e w2 ⟨rfl, b2⟩
              have BB := Lib.hid (BB.out.trans (b2.mono BB.out.size))
              clear b2
              go_wp2_with fail
              refine (HR.out _ (HA.out.below BB.out)).mono ?_
              rintro e w3 ⟨rfl, b3⟩
              have BB := Lib.hid (BB.out.trans (b3.mono BB.out.size))
              clear b3
              simp only [outR]
              go_wp2_with (first | (go_at_call 17; refine (implKindOf_any a ha _).mono ?_; rintro e w' ⟨rfl, rfl⟩) | (go_at_call 18; refine (specSame_any a a ha ha _).mono ?_; rintro e w' ⟨rfl, rfl⟩; rw [hsa]) | (go_at_call 19; refine (specKindB a ha _).mono ?_; rintro e w' ⟨rfl, b'⟩; have BB := Lib.hid (BB.out.trans (b'.mono BB.out.size)); clear b') | (go_at_call 20; refine (implSame_any a a ha ha _).mono ?_; rintro e w' ⟨rfl, rfl⟩; rw [hsa]) | (go_at_call 22; refine (NextAbove_any a ha _).mono ?_; rintro e w' ⟨rfl, rfl⟩) | (go_at_call 23; refine (implNextBelow_any a ha _).mono ?_; rintro e w' ⟨rfl, rfl⟩) | (go_at_call 24; refine (hFr.out _).mono ?_; rintro e w' ⟨rfl, rfl⟩) | (go_at_call 25; refine (hSp.out _).mono ?_; rintro e w' ⟨rfl, rfl⟩) | (go_at_call 26; refine (hJ.out _).mono ?_; rintro e w' ⟨rfl, b'⟩; have BB := Lib.hid (BB.out.trans (b'.mono BB.out.size)); clear b') | (go_at_call 27; refine (hU.out _).mono ?_; rintro e w' ⟨rfl, b'⟩; have BB := Lib.hid (BB.out.trans (b'.mono BB.out.size)); clear b') | (go_at_call 21; with_reducible refine (hoA.out _).mono ?_; rintro e w' ⟨rfl, rfl⟩) | (go_at_call 21; with_reducible refine (hoU.out _).mono ?_; rintro e w' ⟨rfl, rfl⟩) | (go_at_call 21; with_reducible refine (hoD.out _).mono ?_; rintro e w' ⟨rfl, rfl⟩) | (go_at_call 28; refine (hF.out _).mono ?_; rintro e w' ⟨rfl, rfl⟩) | (go_at_call 7; refine (hX.out _).mono ?_; rintro e w' ⟨rfl, b'⟩; have BB := Lib.hid (BB.out.trans (b'.mono BB.out.size)); clear b'))
              go_ret
              first | exact ⟨rfl, BB.out⟩ | exact ⟨by show Ending.returned (.bool (!(FloatKind.f32.format.order a 0 == some .lt))) = _; rw [hZ]; rfl, BB.out⟩
            · clear hk
              have hk := hk1
              generalize key a = K at hoA hFr hoU hoD hK0 hK1 hK2
              clear hku hkd hkk hkn hs1
              have hfl : flush a = a := by unfold flush; rw [if_neg (by omega)]
              rw [hfl] at hF
              clear hfl
              have hF := Lib.hid hF
              have hJ := Lib.hid hJ
              have hU := Lib.hid hU
              have hSp := Lib.hid hSp
              have hoU := Lib.hid hoU
              have hoD := Lib.hid hoD
              have hoA := Lib.hid hoA
              have hFr := Lib.hid hFr
              clear hO hsub hUk hKr hk3
              go_wp2_with fail
              refine (HT.out _ (HA.out.below BB.out)).mono ?_
              rintro e w2 ⟨rfl, b2⟩
              have BB := Lib.hid (BB.out.trans (b2.mono BB.out.size))
              clear b2
              go_wp2_with fail
              refine (HR.out _ (HA.out.below BB.out)).mono ?_
              rintro e w3 ⟨rfl, b3⟩
              have BB := Lib.hid (BB.out.trans (b3.mono BB.out.size))
              clear b3
              simp only [outR]
              go_wp2_with (first | (go_at_call 17; refine (implKindOf_any a ha _).mono ?_; rintro e w' ⟨rfl, rfl⟩) | (go_at_call 18; refine (specSame_any a a ha ha _).mono ?_; rintro e w' ⟨rfl, rfl⟩; rw [hsa]) | (go_at_call 19; refine (specKindB a ha _).mono ?_; rintro e w' ⟨rfl, b'⟩; have BB := Lib.hid (BB.out.trans (b'.mono BB.out.size)); clear b') | (go_at_call 20; refine (implSame_any a a ha ha _).mono ?_; rintro e w' ⟨rfl, rfl⟩; rw [hsa]) | (go_at_call 22; refine (NextAbove_any a ha _).mono ?_; rintro e w' ⟨rfl, rfl⟩) | (go_at_call 23; refine (implNextBelow_any a ha _).mono ?_; rintro e w' ⟨rfl, rfl⟩) | (go_at_call 24; refine (hFr.out _).mono ?_; rintro e w' ⟨rfl, rfl⟩) | (go_at_call 25; refine (hSp.out _).mono ?_; rintro e w' ⟨rfl, rfl⟩) | (go_at_call 26; refine (hJ.out _).mono ?_; rintro e w' ⟨rfl, b'⟩; have BB := Lib.hid (BB.out.trans (b'.mono BB.out.size)); clear b') | (go_at_call 27; refine (hU.out _).mono ?_; rintro e w' ⟨rfl, b'⟩; have BB := Lib.hid (BB.out.trans (b'.mono BB.out.size)); clear b') | (go_at_call 21; with_reducible refine (hoA.out _).mono ?_; rintro e w' ⟨rfl, rfl⟩) | (go_at_call 21; with_reducible refine (hoU.out _).mono ?_; rintro e w' ⟨rfl, rfl⟩) | (go_at_call 21; with_reducible refine (hoD.out _).mono ?_; rintro e w' ⟨rfl, rfl⟩) | (go_at_call 28; refine (hF.out _).mono ?_; rintro e w' ⟨rfl, rfl⟩))
              go_ret
              exact ⟨rfl, BB.out⟩
          · have hk1 : kd a = 2 := by
              have h1 := hKr
              unfold kd at hf hk ⊢
              repeat (split <;> try omega)
            clear hk
            have hk := hk1
            have hop1 : ∀ t w, (binOp .sub t (.float .f32 (above a)) (.float .f32 (above a))).run Tryd.prog w = .ok (.float .f32 (nanS (above a) (above a) w)) w.drew := fun t w => run_arith_nan32 w .sub t _ _ (by simp) (sub_self_odd (by unfold fin32; have e := above_pos a ha hf hn; have hq := fin_sz hf; unfold sz at hq; unfold neg at hn; unfold sz at hs1; unfold W32 at ha; simp at hn; simp; omega))
            have h0 : ∀ w, (FloatKind.f32.format.order (nanS (above a) (above a) w) 0 == some .eq) = false := fun w => by rw [show FloatKind.f32.format.order (nanS (above a) (above a) w) 0 = none from order32_nanL 0 (nanS_nan _ _ w)]; rfl
            generalize key a = K at hoA hFr hoU hoD hK0 hK1 hK2
            clear hku hkd hkk hkn hs1
            have hfl : flush a = a := by unfold flush; rw [if_neg (by omega)]
            rw [hfl] at hF
            clear hfl
            have hF := Lib.hid hF
            have hJ := Lib.hid hJ
            have hU := Lib.hid hU
            have hSp := Lib.hid hSp
            have hoU := Lib.hid hoU
            have hoD := Lib.hid hoD
            have hoA := Lib.hid hoA
            have hFr := Lib.hid hFr
            clear hO hsub hUk hKr hk3
            go_wp2_with fail
            refine (HT.out _ (HA.out.below BB.out)).mono ?_
            rintro e w2 ⟨rfl, b2⟩
            have BB := Lib.hid (BB.out.trans (b2.mono BB.out.size))
            clear b2
            go_wp2_with fail
            refine (HR.out _ (HA.out.below BB.out)).mono ?_
            rintro e w3 ⟨rfl, b3⟩
            have BB := Lib.hid (BB.out.trans (b3.mono BB.out.size))
            clear b3
            simp only [outR]
            go_wp2_with (first | (go_at_call 17; refine (implKindOf_any a ha _).mono ?_; rintro e w' ⟨rfl, rfl⟩) | (go_at_call 18; refine (specSame_any a a ha ha _).mono ?_; rintro e w' ⟨rfl, rfl⟩; rw [hsa]) | (go_at_call 19; refine (specKindB a ha _).mono ?_; rintro e w' ⟨rfl, b'⟩; have BB := Lib.hid (BB.out.trans (b'.mono BB.out.size)); clear b') | (go_at_call 20; refine (implSame_any a a ha ha _).mono ?_; rintro e w' ⟨rfl, rfl⟩; rw [hsa]) | (go_at_call 22; refine (NextAbove_any a ha _).mono ?_; rintro e w' ⟨rfl, rfl⟩) | (go_at_call 23; refine (implNextBelow_any a ha _).mono ?_; rintro e w' ⟨rfl, rfl⟩) | (go_at_call 24; refine (hFr.out _).mono ?_; rintro e w' ⟨rfl, rfl⟩) | (go_at_call 25; refine (hSp.out _).mono ?_; rintro e w' ⟨rfl, rfl⟩) | (go_at_call 26; refine (hJ.out _).mono ?_; rintro e w' ⟨rfl, b'⟩; have BB := Lib.hid (BB.out.trans (b'.mono BB.out.size)); clear b') | (go_at_call 27; refine (hU.out _).mono ?_; rintro e w' ⟨rfl, b'⟩; have BB := Lib.hid (BB.out.trans (b'.mono BB.out.size)); clear b') | (go_at_call 21; with_reducible refine (hoA.out _).mono ?_; rintro e w' ⟨rfl, rfl⟩) | (go_at_call 21; with_reducible refine (hoU.out _).mono ?_; rintro e w' ⟨rfl, rfl⟩) | (go_at_call 21; with_reducible refine (hoD.out _).mono ?_; rintro e w' ⟨rfl, rfl⟩) | (go_at_call 28; refine (hF.out _).mono ?_; rintro e w' ⟨rfl, rfl⟩))
            go_ret
            exact ⟨rfl, BB.out.drew⟩
      · rw [hn] at hJ hSp
        by_cases hk : kd a = 0
        · have hkz : key a = -1 := by rw [key_zero a hk, hn]; rfl
          have hZ : FloatKind.f32.format.order a 0 = some .eq := by rw [show FloatKind.f32.format.order a 0 = _ from hO, hkz]; rfl
          rw [hkz] at hoA hFr
          rw [key_above0 a hk] at hoU
          rw [key_below0 a hk] at hoD
          have hfl : flush a = a := by unfold flush; rw [if_neg (by omega)]
          rw [hfl] at hF
          clear hfl
          have hF := Lib.hid hF
          have hJ := Lib.hid hJ
          have hU := Lib.hid hU
          have hSp := Lib.hid hSp
          have hoU := Lib.hid hoU
          have hoD := Lib.hid hoD
          have hoA := Lib.hid hoA
          have hFr := Lib.hid hFr
          clear hO hsub hUk hKr hk3
          go_wp2_with fail
          refine (HT.out _ (HA.out.below BB.out)).mono ?_
          rintro e w2 ⟨rfl, b2⟩
          have BB := Lib.hid (BB.out.trans (b2.mono BB.out.size))
          clear b2
          go_wp2_with fail
          refine (HR.out _ (HA.out.below BB.out)).mono ?_
          rintro e w3 ⟨rfl, b3⟩
          have BB := Lib.hid (BB.out.trans (b3.mono BB.out.size))
          clear b3
          simp only [outR]
          go_wp2_with (first | (go_at_call 17; refine (implKindOf_any a ha _).mono ?_; rintro e w' ⟨rfl, rfl⟩) | (go_at_call 18; refine (specSame_any a a ha ha _).mono ?_; rintro e w' ⟨rfl, rfl⟩; rw [hsa]) | (go_at_call 19; refine (specKindB a ha _).mono ?_; rintro e w' ⟨rfl, b'⟩; have BB := Lib.hid (BB.out.trans (b'.mono BB.out.size)); clear b') | (go_at_call 20; refine (implSame_any a a ha ha _).mono ?_; rintro e w' ⟨rfl, rfl⟩; rw [hsa]) | (go_at_call 22; refine (NextAbove_any a ha _).mono ?_; rintro e w' ⟨rfl, rfl⟩) | (go_at_call 23; refine (implNextBelow_any a ha _).mono ?_; rintro e w' ⟨rfl, rfl⟩) | (go_at_call 24; refine (hFr.out _).mono ?_; rintro e w' ⟨rfl, rfl⟩) | (go_at_call 25; refine (hSp.out _).mono ?_; rintro e w' ⟨rfl, rfl⟩) | (go_at_call 26; refine (hJ.out _).mono ?_; rintro e w' ⟨rfl, b'⟩; have BB := Lib.hid (BB.out.trans (b'.mono BB.out.size)); clear b') | (go_at_call 27; refine (hU.out _).mono ?_; rintro e w' ⟨rfl, b'⟩; have BB := Lib.hid (BB.out.trans (b'.mono BB.out.size)); clear b') | (go_at_call 21; with_reducible refine (hoA.out _).mono ?_; rintro e w' ⟨rfl, rfl⟩) | (go_at_call 21; with_reducible refine (hoU.out _).mono ?_; rintro e w' ⟨rfl, rfl⟩) | (go_at_call 21; with_reducible refine (hoD.out _).mono ?_; rintro e w' ⟨rfl, rfl⟩) | (go_at_call 28; refine (hF.out _).mono ?_; rintro e w' ⟨rfl, rfl⟩))
          go_ret
          exact ⟨rfl, BB.out⟩
        · have hkn := key_not a hk
          have hku := key_above a hf hk
          have hkd := key_below a hf hk
          have hkk : key a = -1 - (sz a : Int) := by unfold key; rw [hn]; rfl
          have hZ : FloatKind.f32.format.order a 0 = some .lt := by rw [show FloatKind.f32.format.order a 0 = _ from hO, Int.compare_eq_lt.2 (by split <;> omega)]
          rw [hku] at hoU
          rw [hkd] at hoD
          have hK0 : key a < -1 := by omega
          have hK1 := hKr.1
          have hK2 := hKr.2
          rcases (kd_cases a hf hk) with hk1 | hk1
          · clear hk
            have hk := hk1
            generalize key a = K at hoA hFr hoU hoD hK0 hK1 hK2
            clear hku hkd hkk hkn
            have hfl : flush a = 2147483648 := by unfold flush; rw [if_pos hk, hn]; rfl
            have hX := specText_num 2147483648 (by unfold W32; omega) (by decide)
            rw [show (hexT 2147483648 8).toArray = #[56, 48, 48, 48, 48, 48, 48, 48] from by decide] at hX
            have hX := Lib.hid hX
            rw [hfl] at hF
            clear hfl
            have hF := Lib.hid hF
            have hJ := Lib.hid hJ
            have hU := Lib.hid hU
            have hSp := Lib.hid hSp
            have hoU := Lib.hid hoU
            have hoD := Lib.hid hoD
            have hoA := Lib.hid hoA
            have hFr := Lib.hid hFr
            clear hO hsub hUk hKr hk3
            go_wp2_with fail
            refine (HT.out _ (HA.out.below BB.out)).mono ?_
            rintro e w2 ⟨rfl, b2⟩
            have BB := Lib.hid (BB.out.trans (b2.mono BB.out.size))
            clear b2
            go_wp2_with fail
            refine (HR.out _ (HA.out.below BB.out)).mono ?_
            rintro e w3 ⟨rfl, b3⟩
            have BB := Lib.hid (BB.out.trans (b3.mono BB.out.size))
            clear b3
            simp only [outR]
            go_wp2_with (first | (go_at_call 17; refine (implKindOf_any a ha _).mono ?_; rintro e w' ⟨rfl, rfl⟩) | (go_at_call 18; refine (specSame_any a a ha ha _).mono ?_; rintro e w' ⟨rfl, rfl⟩; rw [hsa]) | (go_at_call 19; refine (specKindB a ha _).mono ?_; rintro e w' ⟨rfl, b'⟩; have BB := Lib.hid (BB.out.trans (b'.mono BB.out.size)); clear b') | (go_at_call 20; refine (implSame_any a a ha ha _).mono ?_; rintro e w' ⟨rfl, rfl⟩; rw [hsa]) | (go_at_call 22; refine (NextAbove_any a ha _).mono ?_; rintro e w' ⟨rfl, rfl⟩) | (go_at_call 23; refine (implNextBelow_any a ha _).mono ?_; rintro e w' ⟨rfl, rfl⟩) | (go_at_call 24; refine (hFr.out _).mono ?_; rintro e w' ⟨rfl, rfl⟩) | (go_at_call 25; refine (hSp.out _).mono ?_; rintro e w' ⟨rfl, rfl⟩) | (go_at_call 26; refine (hJ.out _).mono ?_; rintro e w' ⟨rfl, b'⟩; have BB := Lib.hid (BB.out.trans (b'.mono BB.out.size)); clear b') | (go_at_call 27; refine (hU.out _).mono ?_; rintro e w' ⟨rfl, b'⟩; have BB := Lib.hid (BB.out.trans (b'.mono BB.out.size)); clear b') | (go_at_call 21; with_reducible refine (hoA.out _).mono ?_; rintro e w' ⟨rfl, rfl⟩) | (go_at_call 21; with_reducible refine (hoU.out _).mono ?_; rintro e w' ⟨rfl, rfl⟩) | (go_at_call 21; with_reducible refine (hoD.out _).mono ?_; rintro e w' ⟨rfl, rfl⟩) | (go_at_call 28; refine (hF.out _).mono ?_; rintro e w' ⟨rfl, rfl⟩) | (go_at_call 7; refine (hX.out _).mono ?_; rintro e w' ⟨rfl, b'⟩; have BB := Lib.hid (BB.out.trans (b'.mono BB.out.size)); clear b'))
            go_ret
            first | exact ⟨rfl, BB.out⟩ | exact ⟨by show Ending.returned (.bool (FloatKind.f32.format.order a 0 == some .lt)) = _; rw [hZ]; rfl, BB.out⟩
          · clear hk
            have hk := hk1
            generalize key a = K at hoA hFr hoU hoD hK0 hK1 hK2
            clear hku hkd hkk hkn
            have hfl : flush a = a := by unfold flush; rw [if_neg (by omega)]
            rw [hfl] at hF
            clear hfl
            have hF := Lib.hid hF
            have hJ := Lib.hid hJ
            have hU := Lib.hid hU
            have hSp := Lib.hid hSp
            have hoU := Lib.hid hoU
            have hoD := Lib.hid hoD
            have hoA := Lib.hid hoA
            have hFr := Lib.hid hFr
            clear hO hsub hUk hKr hk3
            go_wp2_with fail
            refine (HT.out _ (HA.out.below BB.out)).mono ?_
            rintro e w2 ⟨rfl, b2⟩
            have BB := Lib.hid (BB.out.trans (b2.mono BB.out.size))
            clear b2
            go_wp2_with fail
            refine (HR.out _ (HA.out.below BB.out)).mono ?_
            rintro e w3 ⟨rfl, b3⟩
            have BB := Lib.hid (BB.out.trans (b3.mono BB.out.size))
            clear b3
            simp only [outR]
            go_wp2_with (first | (go_at_call 17; refine (implKindOf_any a ha _).mono ?_; rintro e w' ⟨rfl, rfl⟩) | (go_at_call 18; refine (specSame_any a a ha ha _).mono ?_; rintro e w' ⟨rfl, rfl⟩; rw [hsa]) | (go_at_call 19; refine (specKindB a ha _).mono ?_; rintro e w' ⟨rfl, b'⟩; have BB := Lib.hid (BB.out.trans (b'.mono BB.out.size)); clear b') | (go_at_call 20; refine (implSame_any a a ha ha _).mono ?_; rintro e w' ⟨rfl, rfl⟩; rw [hsa]) | (go_at_call 22; refine (NextAbove_any a ha _).mono ?_; rintro e w' ⟨rfl, rfl⟩) | (go_at_call 23; refine (implNextBelow_any a ha _).mono ?_; rintro e w' ⟨rfl, rfl⟩) | (go_at_call 24; refine (hFr.out _).mono ?_; rintro e w' ⟨rfl, rfl⟩) | (go_at_call 25; refine (hSp.out _).mono ?_; rintro e w' ⟨rfl, rfl⟩) | (go_at_call 26; refine (hJ.out _).mono ?_; rintro e w' ⟨rfl, b'⟩; have BB := Lib.hid (BB.out.trans (b'.mono BB.out.size)); clear b') | (go_at_call 27; refine (hU.out _).mono ?_; rintro e w' ⟨rfl, b'⟩; have BB := Lib.hid (BB.out.trans (b'.mono BB.out.size)); clear b') | (go_at_call 21; with_reducible refine (hoA.out _).mono ?_; rintro e w' ⟨rfl, rfl⟩) | (go_at_call 21; with_reducible refine (hoU.out _).mono ?_; rintro e w' ⟨rfl, rfl⟩) | (go_at_call 21; with_reducible refine (hoD.out _).mono ?_; rintro e w' ⟨rfl, rfl⟩) | (go_at_call 28; refine (hF.out _).mono ?_; rintro e w' ⟨rfl, rfl⟩))
            go_ret
            exact ⟨rfl, BB.out⟩
end Go.Proofs.YtanepboepeijoaaDoor
