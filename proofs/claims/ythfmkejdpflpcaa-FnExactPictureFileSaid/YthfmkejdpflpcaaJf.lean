/-
  CONTRACT: l07Cells by the specification.
-/
import Derived.Test.YthfmkejdpflpcaaJe
import Derived.Test.YthfmkejdpflpcaaVd
import Derived.Deep.RegionHeld3
import Derived.Deep.AppendLies
import Derived.BigQuiet
namespace Go.Proofs.Ythfmkejdpflpcaa
open Go.ChangeShapes Go.WideShapes Go.ChangeAt Go.RowKit
def OW (B : Nat) (v : Value) (L : List (Int × Int)) (w : World) : Prop := w.ownsRow B 45 2 v L.length (ptsV L)
theorem info_p2 : (Try.prog.info? 45).map (fun i => (i.zero, i.size, i.bytes)) = some (some (.agg #[.int .i32 0, .int .i32 0]), 2, 8) := by kernel_rfl
theorem i32_natJ {x : Nat} (h : x < 16) : IntKind.i32.wrap (x : Int) = (x : Int) := by simp [IntKind.wrap, IntKind.bits, IntKind.signed]; omega
theorem ow_drewN {B : Nat} {v : Value} {L : List (Int × Int)} {w : World} (h : OW B v L w) (n : Nat) : OW B v L (w.drewN n) := h
theorem rwL_step {f : Nat → Int} {i y k : Nat} (h : i ≤ k) : rwL f i y (k + 1 - i) = rwL f i y (k - i) ++ pxL f k y 16 := by
  obtain ⟨j, rfl⟩ : ∃ j, k = i + j := ⟨k - i, by omega⟩
  rw [show i + j + 1 - i = j + 1 by omega, show i + j - i = j by omega]
  rfl
theorem GL.step {f : Nat → Int} {n i e : Nat} {A : List (Int × Int)} (h : GL f n i A) (hi : i < e) (he : e ≤ n) (hs : ∀ k, i ≤ k → k < e → f (k * 18 + 1) = f (i * 18 + 1)) (hz : e = n ∨ f (e * 18 + 1) ≠ f (i * 18 + 1)) : GL f n e (A ++ gpL f i (e - i) 16) := by
  have := GL.next (d := e - i) h (by omega) (by omega) (fun k hk => hs (i + k) (by omega) (by omega)) (by rw [show i + (e - i) = e by omega]; exact hz)
  rwa [show i + (e - i) = e by omega] at this
theorem ow_far {B : Nat} {v : Value} {L : List (Int × Int)} {w : World} (h : OW B v L w) {g : Nat} (hg : g < B) : v.ownBlock ≠ some g := fun e => by
  have := (World.ownsRow.lt h g e).1
  omega
set_option maxRecDepth 100000 in
set_option maxHeartbeats 16000000 in
theorem cells_any (a : Option Addr) (n cap : Nat) (f : Nat → Int) (w : World) (hv : validP f n = true) (h : BlR w.heap.size w a n f) (hf : BlF n f) :
    Calls Try.prog 62 #[.slice a n cap] w fun e w' => ∃ v L, e = .returned v ∧ GL f n n L ∧ OW w.heap.size v L w' ∧ Below w.heap.size w w' := by
  have HR := Lib.hid h
  have HBF := Lib.hid hf
  have HV := Lib.hid hv
  have hn := validP_le hv
  have HN := Lib.hid hn
  have nI : (n : Int) ≤ 64 := by omega
  have SO : (w.alloc (.cells #[] 45)).ownsRow w.heap.size 45 2 (.slice (some ⟨w.heap.size, 0, none⟩) 0 0) 0 [] := World.ownsRow_made (base := w.heap.size) (size := 2) (e := 45) w #[] 0 (by simp) (by unfold maxLen; omega) rfl
  have SB : Below w.heap.size w (w.alloc (.cells #[] 45)) := (Below.refl _ w).alloc (Nat.le_refl _) _
  have HO := Lib.hid SO
  have HB := Lib.hid SB
  clear h hf hv SO SB
  go_enter Try.func62, Try.ntmps62
  go_wp2
  generalize w.alloc (.cells #[] 45) = w1 at HB HO ⊢
  go_loopw [3, 4] (fun v vi wr => ∃ i A, i ≤ n ∧ vi = .int .i64 ((i : Nat) : Int) ∧ Hid (GL f n i A) ∧ Hid (OW w.heap.size v A wr) ∧ Hid (Below w.heap.size w wr)) (fun _ vi _ => n - (intOf vi).toNat)
  case atStart => exact ⟨0, [], by omega, rfl, Lib.hid .zero, HO, HB⟩
  case round =>
    obtain ⟨i, A, hi, rfl, G1, O1, B1⟩ := hrel
    clear HO HB
    by_cases hlt : i < n
    · obtain ⟨g, o, rfl, hg, hc⟩ : ∃ g off, a = some ⟨g, off, none⟩ ∧ g < w.heap.size ∧ ∀ j, j < 18 * n → w.cell? ⟨g, off + j, none⟩ = some (bcell f j) := by
        rcases HR.out with h | h
        · omega
        · exact h
      have ti : (i : Int) < (n : Int) := by omega
      have CP : Hid (∀ W, Below w.heap.size w W → ∀ k, k < n → W.cell? ⟨g, o + k * 18, none⟩ = some (.int .i32 (f (k * 18)))) := Lib.hid fun W hW k hk => by
        rw [hW.cell (p := ⟨g, o + k * 18, none⟩) hg, hc (k * 18) (by omega)]
        unfold bcell
        rw [if_pos (by omega)]
      have CQ : Hid (∀ W, Below w.heap.size w W → ∀ k, k < n → W.cell? ⟨g, o + k * 18 + 1, none⟩ = some (.int .i32 (f (k * 18 + 1)))) := Lib.hid fun W hW k hk => by
        rw [hW.cell (p := ⟨g, o + k * 18 + 1, none⟩) hg, Nat.add_assoc, hc (k * 18 + 1) (by omega)]
        unfold bcell
        rw [if_pos (by omega)]
      have CM : Hid (∀ W, Below w.heap.size w W → ∀ k y, k < n → y < 16 → W.cell? ⟨g, o + k * 18 + 2 + y, none⟩ = some (.int .u16 (mkF f k y))) := Lib.hid fun W hW k y hk hy => by
        rw [hW.cell (p := ⟨g, o + k * 18 + 2 + y, none⟩) hg, Nat.add_assoc, Nat.add_assoc, hc (k * 18 + (2 + y)) (by omega)]
        unfold bcell mkF
        rw [if_neg (by omega), ← Nat.add_assoc]
      have HGW := Lib.hid hg
      have HI := Lib.hid hlt
      clear hc hg hlt hi
      go_wp2
      go_loopw [5] (fun ve wr => ∃ e : Nat, e ≤ n ∧ i ≤ e ∧ ve = .int .i64 (e : Int) ∧ Hid (OW w.heap.size u3 A wr) ∧ Hid (Below w.heap.size w wr) ∧ Hid (∀ k, i ≤ k → k < e → f (k * 18 + 1) = f (i * 18 + 1))) (fun ve _ => n - (intOf ve).toNat)
      case atStart => exact ⟨i, Nat.le_of_lt HI.out, Nat.le_refl _, by simp, O1, B1, Lib.hid fun k h h2 => absurd h (by omega)⟩
      case round =>
        obtain ⟨e, he, hie, rfl, O2, B2, EQ⟩ := hrel
        clear O1 B1
        have ci := CQ.out wr B2.out i HI.out
        have HIE := Lib.hid hie
        by_cases hle : e < n
        · have te : (e : Int) < (n : Int) := by omega
          have ce := CQ.out wr B2.out e hle
          have HE := Lib.hid hle
          clear hle he hie
          by_cases hq : f (e * 18 + 1) = f (i * 18 + 1)
          · rw [hq] at ce
            have HQ := Lib.hid hq
            clear hq
            go_wp2
            go_quiet (fail)
            go_wp2
            go_roundw
            case rel => exact ⟨e + 1, HE.out, by have := HIE.out; omega, by go_num, Lib.hid (ow_drewN O2.out nq), Lib.hid (belowN (n := nq) B2.out), Lib.hid fun k h1 h2 => by
              rcases Nat.lt_or_ge k e with h | h
              · exact EQ.out k h1 h
              · obtain rfl : k = e := by omega
                exact HQ.out⟩
            case measure => have := HE.out; simp [intOf]; omega
          · have HIE2 : Hid (i < e) := Lib.hid (by
              rcases Nat.lt_or_ge i e with h | h
              · exact h
              · have : e = i := by have := HIE.out; omega
                subst this
                exact absurd rfl hq)
            have EN : Hid (e = n ∨ f (e * 18 + 1) ≠ f (i * 18 + 1)) := Lib.hid (.inr hq)
            have HEN : Hid (e ≤ n) := Lib.hid (Nat.le_of_lt HE.out)
            obtain ⟨qe, hqe⟩ : ∃ z, f (e * 18 + 1) = z := ⟨_, rfl⟩
            obtain ⟨qi, hqi⟩ : ∃ z, f (i * 18 + 1) = z := ⟨_, rfl⟩
            rw [hqe] at ce hq
            rw [hqi] at ci hq
            have hq2 : (qe == qi) = false := by simpa using hq
            clear hqe hqi hq
            go_wp2
            go_quiet (fail)
            go_wp2
            clear hq2 ce
            have O3 : Hid (OW w.heap.size u3 A (wr.drewN nq)) := Lib.hid (ow_drewN O2.out nq)
            have B3 : Hid (Below w.heap.size w (wr.drewN nq)) := Lib.hid (belowN (n := nq) B2.out)
            generalize wr.drewN nq = w2 at O3 B3 ⊢
            clear O2 B2 ci
            go_loopw [3, 6] (fun v vy wr => ∃ y : Nat, y ≤ 16 ∧ vy = .int .i64 (y : Int) ∧ Hid (OW w.heap.size v (A ++ gpL f i (e - i) y) wr) ∧ Hid (Below w.heap.size w wr)) (fun _ vy _ => 16 - (intOf vy).toNat)
            case atStart => exact ⟨0, by omega, rfl, by rw [show (A ++ gpL f i (e - i) 0) = A from List.append_nil _]; exact O3, B3⟩
            case round =>
              obtain ⟨y, hy, rfl, O4, B4⟩ := hrel
              clear O3 B3
              by_cases hly : y < 16
              · have ty : (y : Int) < 16 := by omega
                have HY := Lib.hid hly
                clear hly hy
                go_wp2
                go_loopw [3, 7] (fun v vk wr => ∃ k : Nat, i ≤ k ∧ k ≤ e ∧ vk = .int .i64 (k : Int) ∧ Hid (OW w.heap.size v ((A ++ gpL f i (e - i) y) ++ rwL f i y (k - i)) wr) ∧ Hid (Below w.heap.size w wr)) (fun _ vk _ => e - (intOf vk).toNat)
                case atStart => exact ⟨i, Nat.le_refl _, Nat.le_of_lt HIE2.out, rfl, by rw [Nat.sub_self, show ((A ++ gpL f i (e - i) y) ++ rwL f i y 0) = (A ++ gpL f i (e - i) y) from List.append_nil _]; exact O4, B4⟩
                case round =>
                  obtain ⟨k, hik, hk, rfl, O5, B5⟩ := hrel
                  clear O4 B4
                  have HIK := Lib.hid hik
                  by_cases hlk : k < e
                  · have tk : (k : Int) < (e : Int) := by omega
                    have HK := Lib.hid hlk
                    have HKN : Hid (k < n) := Lib.hid (Nat.lt_of_lt_of_le hlk HEN.out)
                    clear hlk hk hik
                    go_wp2
                    go_loopw [3, 8] (fun v vx wr => ∃ x : Nat, x ≤ 16 ∧ vx = .int .i64 (x : Int) ∧ Hid (OW w.heap.size v ((A ++ gpL f i (e - i) y) ++ rwL f i y (k - i) ++ pxL f k y x) wr) ∧ Hid (Below w.heap.size w wr)) (fun _ vx _ => 16 - (intOf vx).toNat)
                    case atStart => exact ⟨0, by omega, rfl, by rw [show ((A ++ gpL f i (e - i) y) ++ rwL f i y (k - i) ++ pxL f k y 0) = ((A ++ gpL f i (e - i) y) ++ rwL f i y (k - i)) from List.append_nil _]; exact O5, B5⟩
                    case round =>
                      obtain ⟨x, hx, rfl, O6, B6⟩ := hrel
                      clear O5 B5
                      by_cases hlx : x < 16
                      · have tx : (x : Int) < 16 := by omega
                        have MH := Lib.hid (l07Has_off g (o + k * 18 + 2) (mkF f k) (blf_mk HBF.out HKN.out) x y hlx HY.out wr (CM.out wr B6.out k y HKN.out HY.out))
                        cases hc : hasF (mkF f k) x y with
                        | false =>
                          have NX := Lib.hid (pxL_no hc)
                          rw [hc] at MH
                          have HX := Lib.hid hlx
                          clear hc hlx hx
                          go_wp2_with ((with_reducible refine MH.out.mono ?_); rintro e w' ⟨rfl, rfl⟩)
                          go_roundw
                          case rel => exact ⟨x + 1, HX.out, by go_num, by rw [NX.out]; exact O6, B6⟩
                          case measure => have := HX.out; simp [intOf]; omega
                        | true =>
                          have NX := Lib.hid (pxL_yes hc)
                          rw [hc] at MH
                          have NB := has_col HV.out HKN.out hlx HY.out hc
                          have p0 := CP.out wr B6.out k HKN.out
                          have q0 := CQ.out wr B6.out k HKN.out
                          have wx := i32_natJ hlx
                          have wy := i32_natJ HY.out
                          have ne := ow_far O6.out HGW.out
                          have gl : g < wr.heap.size := Nat.lt_of_lt_of_le HGW.out B6.out.size
                          have LL : Hid (((A ++ gpL f i (e - i) y) ++ rwL f i y (k - i) ++ pxL f k y x).length ≤ 1000000) := Lib.hid (by
                            have l1 := G1.out.len
                            have l2 := gpL_len f i (e - i) y
                            have l3 := rwL_len f i y (k - i)
                            have l4 := pxL_len f k y x
                            have l5 : y * (16 * (e - i)) ≤ 16 * (16 * (e - i)) := Nat.mul_le_mul (Nat.le_of_lt HY.out) (Nat.le_refl _)
                            have := HEN.out
                            have := HN.out
                            have := HK.out
                            simp only [List.length_append]
                            omega)
                          have LA : Hid (((A ++ gpL f i (e - i) y) ++ rwL f i y (k - i) ++ pxL f k y (x + 1)) = ((A ++ gpL f i (e - i) y) ++ rwL f i y (k - i) ++ pxL f k y x) ++ [(16 * f (k * 18) + (x : Int), 16 * f (k * 18 + 1) + (y : Int))]) := Lib.hid (by rw [NX.out, ← List.append_assoc])
                          have OO : Hid (wr.ownsRow w.heap.size 45 2 u3 ((A ++ gpL f i (e - i) y) ++ rwL f i y (k - i) ++ pxL f k y x).length (ptsV ((A ++ gpL f i (e - i) y) ++ rwL f i y (k - i) ++ pxL f k y x))) := Lib.hid O6.out
                          have OZ : Hid (∀ v' W, W.ownsRow w.heap.size 45 2 v' (((A ++ gpL f i (e - i) y) ++ rwL f i y (k - i) ++ pxL f k y x).length + 1) (ptsV ((A ++ gpL f i (e - i) y) ++ rwL f i y (k - i) ++ pxL f k y x) ++ [.int .i32 (16 * f (k * 18) + (x : Int)), .int .i32 (16 * f (k * 18 + 1) + (y : Int))]) → OW w.heap.size v' ((A ++ gpL f i (e - i) y) ++ rwL f i y (k - i) ++ pxL f k y (x + 1)) W) := Lib.hid fun v' W hW => by
                            unfold OW
                            rw [LA.out, ptsV_snoc, List.length_append]
                            exact hW
                          clear LA NX
                          obtain ⟨len, hlen⟩ : ∃ z, ((A ++ gpL f i (e - i) y) ++ rwL f i y (k - i) ++ pxL f k y x).length = z := ⟨_, rfl⟩
                          obtain ⟨xs, hxs⟩ : ∃ z, ptsV ((A ++ gpL f i (e - i) y) ++ rwL f i y (k - i) ++ pxL f k y x) = z := ⟨_, rfl⟩
                          rw [hlen] at LL OO OZ
                          rw [hxs] at OO OZ
                          obtain ⟨P, hP⟩ : ∃ z, f (k * 18) = z := ⟨_, rfl⟩
                          obtain ⟨Q, hQ⟩ : ∃ z, f (k * 18 + 1) = z := ⟨_, rfl⟩
                          rw [hP] at p0 NB OZ
                          rw [hQ] at q0 NB OZ
                          obtain ⟨⟨n1, n2⟩, n3, n4⟩ := NB
                          have tx : (x : Int) < 16 := by omega
                          have tkn : (k : Int) < (n : Int) := by have := HKN.out; omega
                          have m1 : -1000015 ≤ 16 * P := by omega
                          have m2 : 16 * P ≤ 1000000 := by omega
                          have m3 : -1000015 ≤ 16 * Q := by omega
                          have m4 : 16 * Q ≤ 1000000 := by omega
                          have e1 : IntKind.i32.wrap (16 * P) = 16 * P := by simp [IntKind.wrap, IntKind.bits, IntKind.signed]; omega
                          have e2 : IntKind.i32.wrap (16 * Q) = 16 * Q := by simp [IntKind.wrap, IntKind.bits, IntKind.signed]; omega
                          have e3 : IntKind.i32.wrap (16 * P + (x : Int)) = 16 * P + (x : Int) := by simp [IntKind.wrap, IntKind.bits, IntKind.signed]; omega
                          have e4 : IntKind.i32.wrap (16 * Q + (y : Int)) = 16 * Q + (y : Int) := by simp [IntKind.wrap, IntKind.bits, IntKind.signed]; omega
                          clear hlen hxs hP hQ hc O6
                          obtain ⟨i0, hi0, hz0, hz1, hz2⟩ := info_parts info_p2
                          have HX := Lib.hid hlx
                          have tk' : (k : Int) < (e : Int) := tk
                          clear hlx hx
                          have B6b := B6.out
                          clear CP CQ CM
                          go_wp2_with ((with_reducible refine MH.out.mono ?_); rintro e w' ⟨rfl, rfl⟩)
                          clear MH

                          go_region_held3 (fun w' => w'.cell? ⟨g, o + k * 18, none⟩ = some (.int .i32 P) ∧ w'.cell? ⟨g, o + k * 18 + 1, none⟩ = some (.int .i32 Q))
                            (first
                              | go_keep
                              | (go_split_ands
                                 refine ⟨?_, ?_⟩
                                 · (rw [hgrow.cell_far _ (by simp; omega) (Ne.symm ne)]; assumption)
                                 · (rw [hgrow.cell_far _ (by simp; omega) (Ne.symm ne)]; assumption)))
                            ((refine step_append_lies _ (by rfl) _ _ _ (by rfl) w.heap.size 45 i0 _ 2 8 Try.underlying22 hi0 hz0 hz1 hz2 rfl (by omega) u3 len xs (by rfl) ((OO.out.alloc _).drew)
                                ⟨wr.heap.size, 0, none⟩ 1 1 [.int .i32 (16 * P + (x : Int)), .int .i32 (16 * Q + (y : Int))] (by rfl) (by rfl) (World.news_of_block (cs := #[.int .i32 (16 * P + (x : Int)), .int .i32 (16 * Q + (y : Int))]) (t := 45) (fr := (0, 0)) (heap_alloc_new wr _)) (by simp [Value.oneCell'])
                                (by omega) (by have := LL.out; unfold maxLen; omega) (by have := LL.out; omega) (by simp; have := B6.out.size; omega) (wr.heap.size + 1) (by simp) ?_; intro gg cap' w9 hown1 hgrow hat hlt))
                          have O9 := Lib.hid (OZ.out _ _ hown1)
                          have B9 : Hid (Below w.heap.size w w9) := Lib.hid (((B6.out.alloc B6.out.size _).drew).grown hgrow (by simp; have := B6.out.size; omega) (fun k hk => (OO.out.lt k hk).1))
                          clear hgrow hat hlt hown1 OO
                          go_wp2
                          go_roundw
                          case rel => exact ⟨x + 1, HX.out, by go_num, O9, B9⟩
                          case measure => have := HX.out; simp [intOf]; omega
                      · have OX : Hid (OW w.heap.size u3 ((A ++ gpL f i (e - i) y) ++ rwL f i y (k + 1 - i)) wr) := Lib.hid (by
                          have : x = 16 := by omega
                          subst this
                          rw [rwL_step HIK.out, ← List.append_assoc]
                          exact O6.out)
                        have tx : ¬ (x : Int) < 16 := by omega
                        clear hlx hx O6
                        go_wp2
                        go_roundw
                        case rel => exact ⟨k + 1, by have := HIK.out; omega, HK.out, by go_num, OX, B6⟩
                        case measure => have := HK.out; simp [intOf]; omega
                  · have OX : Hid (OW w.heap.size u3 (A ++ gpL f i (e - i) (y + 1)) wr) := Lib.hid (by
                      have : k = e := by omega
                      subst this
                      show OW _ _ (A ++ (gpL f i (k - i) y ++ rwL f i y (k - i))) _
                      rw [← List.append_assoc]
                      exact O5.out)
                    have tk : ¬ (k : Int) < (e : Int) := by omega
                    clear hlk hk hik O5
                    go_wp2
                    go_roundw
                    case rel => exact ⟨y + 1, HY.out, by go_num, OX, B5⟩
                    case measure => have := HY.out; simp [intOf]; omega
              · have OX : Hid (OW w.heap.size u3 (A ++ gpL f i (e - i) 16) wr) := Lib.hid (by
                  have : y = 16 := by omega
                  subst this
                  exact O4.out)
                have ty : ¬ (y : Int) < 16 := by omega
                have GX : Hid (GL f n e (A ++ gpL f i (e - i) 16)) := Lib.hid (G1.out.step HIE2.out HEN.out EQ.out EN.out)
                clear hly hy O4
                go_wp2
                go_roundw
                case rel => exact ⟨e, _, HEN.out, rfl, GX, OX, B4⟩
                case measure => have := HIE2.out; have := HEN.out; simp [intOf]; omega
        · have te : decide (e < n) = false := decide_eq_false hle
          have HIE2 : Hid (i < e) := Lib.hid (by have := HI.out; omega)
          have EN : Hid (e = n ∨ f (e * 18 + 1) ≠ f (i * 18 + 1)) := Lib.hid (.inl (by omega))
          have HEN : Hid (e ≤ n) := Lib.hid he
          have e64 : (e : Int) ≤ 64 := by omega
          clear hle he hie
          go_wp2
          go_quiet (fail)
          go_wp2
          have O3 : Hid (OW w.heap.size u3 A (wr.drewN nq)) := Lib.hid (ow_drewN O2.out nq)
          have B3 : Hid (Below w.heap.size w (wr.drewN nq)) := Lib.hid (belowN (n := nq) B2.out)
          generalize wr.drewN nq = w2 at O3 B3 ⊢
          clear O2 B2 ci
          go_loopw [3, 6] (fun v vy wr => ∃ y : Nat, y ≤ 16 ∧ vy = .int .i64 (y : Int) ∧ Hid (OW w.heap.size v (A ++ gpL f i (e - i) y) wr) ∧ Hid (Below w.heap.size w wr)) (fun _ vy _ => 16 - (intOf vy).toNat)
          case atStart => exact ⟨0, by omega, rfl, by rw [show (A ++ gpL f i (e - i) 0) = A from List.append_nil _]; exact O3, B3⟩
          case round =>
            obtain ⟨y, hy, rfl, O4, B4⟩ := hrel
            clear O3 B3
            by_cases hly : y < 16
            · have ty : (y : Int) < 16 := by omega
              have HY := Lib.hid hly
              clear hly hy
              go_wp2
              go_loopw [3, 7] (fun v vk wr => ∃ k : Nat, i ≤ k ∧ k ≤ e ∧ vk = .int .i64 (k : Int) ∧ Hid (OW w.heap.size v ((A ++ gpL f i (e - i) y) ++ rwL f i y (k - i)) wr) ∧ Hid (Below w.heap.size w wr)) (fun _ vk _ => e - (intOf vk).toNat)
              case atStart => exact ⟨i, Nat.le_refl _, Nat.le_of_lt HIE2.out, rfl, by rw [Nat.sub_self, show ((A ++ gpL f i (e - i) y) ++ rwL f i y 0) = (A ++ gpL f i (e - i) y) from List.append_nil _]; exact O4, B4⟩
              case round =>
                obtain ⟨k, hik, hk, rfl, O5, B5⟩ := hrel
                clear O4 B4
                have HIK := Lib.hid hik
                by_cases hlk : k < e
                · have tk : (k : Int) < (e : Int) := by omega
                  have HK := Lib.hid hlk
                  have HKN : Hid (k < n) := Lib.hid (Nat.lt_of_lt_of_le hlk HEN.out)
                  clear hlk hk hik
                  go_wp2
                  go_loopw [3, 8] (fun v vx wr => ∃ x : Nat, x ≤ 16 ∧ vx = .int .i64 (x : Int) ∧ Hid (OW w.heap.size v ((A ++ gpL f i (e - i) y) ++ rwL f i y (k - i) ++ pxL f k y x) wr) ∧ Hid (Below w.heap.size w wr)) (fun _ vx _ => 16 - (intOf vx).toNat)
                  case atStart => exact ⟨0, by omega, rfl, by rw [show ((A ++ gpL f i (e - i) y) ++ rwL f i y (k - i) ++ pxL f k y 0) = ((A ++ gpL f i (e - i) y) ++ rwL f i y (k - i)) from List.append_nil _]; exact O5, B5⟩
                  case round =>
                    obtain ⟨x, hx, rfl, O6, B6⟩ := hrel
                    clear O5 B5
                    by_cases hlx : x < 16
                    · have tx : (x : Int) < 16 := by omega
                      have MH := Lib.hid (l07Has_off g (o + k * 18 + 2) (mkF f k) (blf_mk HBF.out HKN.out) x y hlx HY.out wr (CM.out wr B6.out k y HKN.out HY.out))
                      cases hc : hasF (mkF f k) x y with
                      | false =>
                        have NX := Lib.hid (pxL_no hc)
                        rw [hc] at MH
                        have HX := Lib.hid hlx
                        clear hc hlx hx
                        go_wp2_with ((with_reducible refine MH.out.mono ?_); rintro e w' ⟨rfl, rfl⟩)
                        go_roundw
                        case rel => exact ⟨x + 1, HX.out, by go_num, by rw [NX.out]; exact O6, B6⟩
                        case measure => have := HX.out; simp [intOf]; omega
                      | true =>
                        have NX := Lib.hid (pxL_yes hc)
                        rw [hc] at MH
                        have NB := has_col HV.out HKN.out hlx HY.out hc
                        have p0 := CP.out wr B6.out k HKN.out
                        have q0 := CQ.out wr B6.out k HKN.out
                        have wx := i32_natJ hlx
                        have wy := i32_natJ HY.out
                        have ne := ow_far O6.out HGW.out
                        have gl : g < wr.heap.size := Nat.lt_of_lt_of_le HGW.out B6.out.size
                        have LL : Hid (((A ++ gpL f i (e - i) y) ++ rwL f i y (k - i) ++ pxL f k y x).length ≤ 1000000) := Lib.hid (by
                          have l1 := G1.out.len
                          have l2 := gpL_len f i (e - i) y
                          have l3 := rwL_len f i y (k - i)
                          have l4 := pxL_len f k y x
                          have l5 : y * (16 * (e - i)) ≤ 16 * (16 * (e - i)) := Nat.mul_le_mul (Nat.le_of_lt HY.out) (Nat.le_refl _)
                          have := HEN.out
                          have := HN.out
                          have := HK.out
                          simp only [List.length_append]
                          omega)
                        have LA : Hid (((A ++ gpL f i (e - i) y) ++ rwL f i y (k - i) ++ pxL f k y (x + 1)) = ((A ++ gpL f i (e - i) y) ++ rwL f i y (k - i) ++ pxL f k y x) ++ [(16 * f (k * 18) + (x : Int), 16 * f (k * 18 + 1) + (y : Int))]) := Lib.hid (by rw [NX.out, ← List.append_assoc])
                        have OO : Hid (wr.ownsRow w.heap.size 45 2 u3 ((A ++ gpL f i (e - i) y) ++ rwL f i y (k - i) ++ pxL f k y x).length (ptsV ((A ++ gpL f i (e - i) y) ++ rwL f i y (k - i) ++ pxL f k y x))) := Lib.hid O6.out
                        have OZ : Hid (∀ v' W, W.ownsRow w.heap.size 45 2 v' (((A ++ gpL f i (e - i) y) ++ rwL f i y (k - i) ++ pxL f k y x).length + 1) (ptsV ((A ++ gpL f i (e - i) y) ++ rwL f i y (k - i) ++ pxL f k y x) ++ [.int .i32 (16 * f (k * 18) + (x : Int)), .int .i32 (16 * f (k * 18 + 1) + (y : Int))]) → OW w.heap.size v' ((A ++ gpL f i (e - i) y) ++ rwL f i y (k - i) ++ pxL f k y (x + 1)) W) := Lib.hid fun v' W hW => by
                          unfold OW
                          rw [LA.out, ptsV_snoc, List.length_append]
                          exact hW
                        clear LA NX
                        obtain ⟨len, hlen⟩ : ∃ z, ((A ++ gpL f i (e - i) y) ++ rwL f i y (k - i) ++ pxL f k y x).length = z := ⟨_, rfl⟩
                        obtain ⟨xs, hxs⟩ : ∃ z, ptsV ((A ++ gpL f i (e - i) y) ++ rwL f i y (k - i) ++ pxL f k y x) = z := ⟨_, rfl⟩
                        rw [hlen] at LL OO OZ
                        rw [hxs] at OO OZ
                        obtain ⟨P, hP⟩ : ∃ z, f (k * 18) = z := ⟨_, rfl⟩
                        obtain ⟨Q, hQ⟩ : ∃ z, f (k * 18 + 1) = z := ⟨_, rfl⟩
                        rw [hP] at p0 NB OZ
                        rw [hQ] at q0 NB OZ
                        obtain ⟨⟨n1, n2⟩, n3, n4⟩ := NB
                        have tx : (x : Int) < 16 := by omega
                        have tkn : (k : Int) < (n : Int) := by have := HKN.out; omega
                        have m1 : -1000015 ≤ 16 * P := by omega
                        have m2 : 16 * P ≤ 1000000 := by omega
                        have m3 : -1000015 ≤ 16 * Q := by omega
                        have m4 : 16 * Q ≤ 1000000 := by omega
                        have e1 : IntKind.i32.wrap (16 * P) = 16 * P := by simp [IntKind.wrap, IntKind.bits, IntKind.signed]; omega
                        have e2 : IntKind.i32.wrap (16 * Q) = 16 * Q := by simp [IntKind.wrap, IntKind.bits, IntKind.signed]; omega
                        have e3 : IntKind.i32.wrap (16 * P + (x : Int)) = 16 * P + (x : Int) := by simp [IntKind.wrap, IntKind.bits, IntKind.signed]; omega
                        have e4 : IntKind.i32.wrap (16 * Q + (y : Int)) = 16 * Q + (y : Int) := by simp [IntKind.wrap, IntKind.bits, IntKind.signed]; omega
                        clear hlen hxs hP hQ hc O6
                        obtain ⟨i0, hi0, hz0, hz1, hz2⟩ := info_parts info_p2
                        have HX := Lib.hid hlx
                        have tk' : (k : Int) < (e : Int) := tk
                        clear hlx hx
                        have B6b := B6.out
                        clear CP CQ CM
                        go_wp2_with ((with_reducible refine MH.out.mono ?_); rintro e w' ⟨rfl, rfl⟩)
                        clear MH

                        go_region_held3 (fun w' => w'.cell? ⟨g, o + k * 18, none⟩ = some (.int .i32 P) ∧ w'.cell? ⟨g, o + k * 18 + 1, none⟩ = some (.int .i32 Q))
                          (first
                            | go_keep
                            | (go_split_ands
                               refine ⟨?_, ?_⟩
                               · (rw [hgrow.cell_far _ (by simp; omega) (Ne.symm ne)]; assumption)
                               · (rw [hgrow.cell_far _ (by simp; omega) (Ne.symm ne)]; assumption)))
                          ((refine step_append_lies _ (by rfl) _ _ _ (by rfl) w.heap.size 45 i0 _ 2 8 Try.underlying22 hi0 hz0 hz1 hz2 rfl (by omega) u3 len xs (by rfl) ((OO.out.alloc _).drew)
                              ⟨wr.heap.size, 0, none⟩ 1 1 [.int .i32 (16 * P + (x : Int)), .int .i32 (16 * Q + (y : Int))] (by rfl) (by rfl) (World.news_of_block (cs := #[.int .i32 (16 * P + (x : Int)), .int .i32 (16 * Q + (y : Int))]) (t := 45) (fr := (0, 0)) (heap_alloc_new wr _)) (by simp [Value.oneCell'])
                              (by omega) (by have := LL.out; unfold maxLen; omega) (by have := LL.out; omega) (by simp; have := B6.out.size; omega) (wr.heap.size + 1) (by simp) ?_; intro gg cap' w9 hown1 hgrow hat hlt))
                        have O9 := Lib.hid (OZ.out _ _ hown1)
                        have B9 : Hid (Below w.heap.size w w9) := Lib.hid (((B6.out.alloc B6.out.size _).drew).grown hgrow (by simp; have := B6.out.size; omega) (fun k hk => (OO.out.lt k hk).1))
                        clear hgrow hat hlt hown1 OO
                        go_wp2
                        go_roundw
                        case rel => exact ⟨x + 1, HX.out, by go_num, O9, B9⟩
                        case measure => have := HX.out; simp [intOf]; omega
                    · have OX : Hid (OW w.heap.size u3 ((A ++ gpL f i (e - i) y) ++ rwL f i y (k + 1 - i)) wr) := Lib.hid (by
                        have : x = 16 := by omega
                        subst this
                        rw [rwL_step HIK.out, ← List.append_assoc]
                        exact O6.out)
                      have tx : ¬ (x : Int) < 16 := by omega
                      clear hlx hx O6
                      go_wp2
                      go_roundw
                      case rel => exact ⟨k + 1, by have := HIK.out; omega, HK.out, by go_num, OX, B6⟩
                      case measure => have := HK.out; simp [intOf]; omega
                · have OX : Hid (OW w.heap.size u3 (A ++ gpL f i (e - i) (y + 1)) wr) := Lib.hid (by
                    have : k = e := by omega
                    subst this
                    show OW _ _ (A ++ (gpL f i (k - i) y ++ rwL f i y (k - i))) _
                    rw [← List.append_assoc]
                    exact O5.out)
                  have tk : ¬ (k : Int) < (e : Int) := by omega
                  clear hlk hk hik O5
                  go_wp2
                  go_roundw
                  case rel => exact ⟨y + 1, HY.out, by go_num, OX, B5⟩
                  case measure => have := HY.out; simp [intOf]; omega
            · have OX : Hid (OW w.heap.size u3 (A ++ gpL f i (e - i) 16) wr) := Lib.hid (by
                have : y = 16 := by omega
                subst this
                exact O4.out)
              have ty : ¬ (y : Int) < 16 := by omega
              have GX : Hid (GL f n e (A ++ gpL f i (e - i) 16)) := Lib.hid (G1.out.step HIE2.out HEN.out EQ.out EN.out)
              clear hly hy O4
              go_wp2
              go_roundw
              case rel => exact ⟨e, _, HEN.out, rfl, GX, OX, B4⟩
              case measure => have := HIE2.out; have := HEN.out; simp [intOf]; omega
    · have GX : Hid (GL f n n A) := Lib.hid (by
        have : i = n := by omega
        subst this
        exact G1.out)
      have ti : ¬ (i : Int) < (n : Int) := by omega
      clear hlt hi
      go_wp2
      exact bodyPost_ret (v := u3) (by simp [results, Try.results62, go_sem]) rfl ⟨u3, rfl, A, GX.out, O1.out, B1.out⟩
end Go.Proofs.Ythfmkejdpflpcaa
