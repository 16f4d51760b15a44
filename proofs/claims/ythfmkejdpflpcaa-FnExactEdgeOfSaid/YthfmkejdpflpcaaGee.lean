/-
  SEVERAL TEXTS IN ONE: XEc,XEd
-/
import Derived.Test.YthfmkejdpflpcaaGdd
import Derived.Test.YthfmkejdpflpcaaNd
/-
  CONTRACT: EdgeOf by the program, given its sorts.
-/
namespace Go.Proofs.Ythfmkejdpflpcaa
open Go.ChangeShapes Go.WideShapes Go.ChangeAt Go.RowKit Go.Maps Go.WideMaps
set_option maxRecDepth 100000 in
set_option maxHeartbeats 8000000 in
theorem iEdge_any (SF : SortsP) (SB : SortsB) (a : Option Addr) (n cap : Nat) (f : Nat → Int) (K0 : List (Int × Int)) (w : World) (hn : n ≤ 1048576) (h : BlR w.heap.size w a n f) (hf : BlF n f) (hK : validP f n = true → PicK (shL (edL f n)) K0) :
    Calls Try.prog 42 #[.slice a n cap] w (EdPost f n K0 w) := by
  unfold EdPost
  cases hv : validP f n with
  | false =>
    have NO : Hid (∀ W, Below w.heap.size w W → Calls Try.prog 64 #[.slice a n cap] W fun e w' => e = .returned (.tuple #[.agg #[.slice none 0 0, .map none], .int .i64 1]) ∧ Below W.heap.size W w') := Lib.hid fun W hW => readP_no a n cap f W hn (h.below hW hW.size) hf hv
    have E2 : edC f n = 1 := by unfold edC; rw [hv]; exact if_neg (by decide)
    have E3 : edK f n K0 = [] := by unfold edK; rw [hv]; exact if_neg (by decide)
    rw [E2, E3]
    clear hv E2 E3 h hf hn SF SB hK
    go_enter Try.func42, Try.ntmps42
    go_wp2_with fail
    refine (NO.out _ (Below.refl _ _)).mono ?_
    rintro e w2 ⟨rfl, b⟩
    have B2 := Lib.hid b
    clear b NO
    obtain ⟨w4, hw4⟩ : ∃ x, w2.alloc (.cells #[.slice none 0 0, .map none] 82) = x := ⟨_, rfl⟩
    have R4 : Hid (w4.heap[w2.heap.size]? = some (.cells #[.slice none 0 0, .map none] 82 (0, 0))) := Lib.hid (by rw [← hw4]; exact World.alloc_heap_new w2 _)
    have SR : Hid (w4.setRow w2.heap.size #[.slice none 0 0, .map none] = w4) := Lib.hid (setRow_self _ _ _ _ _ R4.out)
    have b4 : Below w2.heap.size w2 w4 := by rw [← hw4]; exact (Below.refl _ _).alloc (Nat.le_refl _) _
    have B4 : Hid (Below w.heap.size w w4) := Lib.hid (B2.out.trans (b4.mono B2.out.size))
    clear B2 b4
    go_wp2_with (refine wpList_store_row rfl 82 _ _ rfl w2.heap.size #[.slice none 0 0, .map none] rfl rfl 82 _ R4.out (pic_info _ rfl) rfl (row2_one _ _ _ _) ?_; rw [SR.out])
    exact bodyPost_ret (v := .tuple #[.slice none 0 0, .int .i64 1]) (by simp [results, Try.results42, go_sem]) rfl ⟨_, rfl, World.ownsRow_nil _ _ _ _, B4.out⟩
  | true =>
    have YES : Hid (∀ W, Below w.heap.size w W → Calls Try.prog 64 #[.slice a n cap] W fun e w' => ∃ b, e = .returned (.tuple #[.agg #[.slice a n cap, .map (some b)], .int .i64 0]) ∧ MapM b n (shF f n) w' ∧ Below W.heap.size W w') := Lib.hid fun W hW => readP_yes a n cap f W hn (h.below hW hW.size) hf hv
    have CE : Hid (∀ W, Below w.heap.size w W → Calls Try.prog 66 #[.slice a n cap] W fun e w' => ∃ a2 c2 L, e = .returned (.slice a2 (cntF f n) c2) ∧ IsC f n L ∧ OW W.heap.size (.slice a2 (cntF f n) c2) L w' ∧ Below W.heap.size W w') := Lib.hid fun W hW => (callsIn_wide.1 (icellsP_in Fence.wide rfl 3 (Nat.le_refl _) a n cap f W hv (h.below hW hW.size) hf SF)).mono fun e w' ⟨v, L, he, h1, h2, h3, h4⟩ => by
      obtain ⟨a2, c2, rfl⟩ := ow_len h3
      have hl : L.length = cntF f n := (show IsC f n L from ⟨h1, h2⟩).len
      rw [hl] at he h3
      exact ⟨a2, c2, L, he, ⟨h1, h2⟩, by unfold OW; rw [hl]; exact h3, h4⟩
    have HC := cntF_le f n
    have h64 := validP_le hv
    have cB : (cntF f n : Int) ≤ 16384 := by omega
    have cN : Hid (cntF f n ≤ 16384) := Lib.hid (by omega)
    have E2 : edC f n = 0 := by unfold edC; rw [hv]; exact if_pos rfl
    have E3 : edK f n K0 = K0 := by unfold edK; rw [hv]; exact if_pos rfl
    have PK0 := hK hv
    have KL : K0.length ≤ 64 := Nat.le_trans (ed_len hv PK0) h64
    have e4 : ioC K0 = 0 := if_pos KL
    have e5 : ioK K0 = K0 := if_pos KL
    have EL : Hid ((edL f n).length ≤ 16384) := Lib.hid (Nat.le_trans (List.length_filter_le _ _) (by rw [(icL_is f n).len]; omega))
    have SH : Hid (∀ B v W, B ≤ W.heap.size → OW B v (edL f n) W → Calls Try.prog 57 #[v] W fun e w' => e = .returned (.map (some W.heap.size)) ∧ MapM W.heap.size (edL f n).length (shL (edL f n)) w' ∧ Below W.heap.size W w') := Lib.hid fun B v W hW ho => by
      obtain ⟨a3, c3, rfl⟩ := ow_len ho
      have := isheetOf_any a3 (edL f n).length c3 (flL (edL f n)) W (by have := EL.out; omega) (ow_pt ho rfl) (flL_P32 fun c hc => (ed_mem hv hc).1)
      rw [pc_flL] at this
      exact this
    have IO : Hid (∀ (b : Nat) (W : World), MapM b (edL f n).length (shL (edL f n)) W → Calls Try.prog 58 #[.map (some b)] W fun e w' => ∃ v, e = .returned (.tuple #[v, .int .i64 0]) ∧ OB W.heap.size v (shL (edL f n)) K0 w' ∧ Below W.heap.size W w') := Lib.hid fun b W hm => by
      have := iInOrder_any SB b (edL f n).length (shL (edL f n)) K0 PK0 W (by have := EL.out; omega) hm
      rw [e4, e5] at this
      exact this
    have IN : Hid (∀ (b : Nat) (W : World) (c : Int × Int), MapM b n (shF f n) W → colB c.1 = true ∧ colB c.2 = true → Calls Try.prog 78 #[.map (some b), .agg #[.int .i32 c.1, .int .i32 c.2]] W fun e w' => e = .returned (.bool (!edB f n c)) ∧ Below W.heap.size W w') := Lib.hid fun b W c hm hc => by
      have := iInside_any b n (shF f n) c.1 c.2 W hm (shF_MB hf n (Nat.le_refl _)) (by have := colB_yes hc.1; omega) (by have := colB_yes hc.2; omega)
      rw [ins_ed hv c] at this
      exact this
    have HL : Hid (∀ L, IsC f n L → L.length = cntF f n) := Lib.hid fun L h => h.len
    have IM : Hid (∀ L, IsC f n L → ∀ c ∈ L, colB c.1 = true ∧ colB c.2 = true) := Lib.hid fun L h c hc => (ic_mem hv h hc).1
    have EA : Hid (∀ L, IsC f n L → edT f n L L.length = edL f n) := Lib.hid fun L h => edT_all h
    rw [E2, E3]
    clear hv h hf hn HC h64 E2 E3 SF SB hK PK0 KL e4 e5 EL
    generalize edL f n = EE at SH IO EA ⊢
    generalize cntF f n = c at CE HL cB cN ⊢
    go_enter Try.func42, Try.ntmps42
    go_wp2_with fail
    refine (YES.out _ (Below.refl _ _)).mono ?_
    rintro e w2 ⟨b0, rfl, hm, b⟩
    have B2 := Lib.hid b
    obtain ⟨w3, hw3⟩ : ∃ x, w2.alloc (.cells #[.slice none 0 0, .map none] 82) = x := ⟨_, rfl⟩
    have R3 : Hid (w3.heap[w2.heap.size]? = some (.cells #[.slice none 0 0, .map none] 82 (0, 0))) := Lib.hid (by rw [← hw3]; exact World.alloc_heap_new w2 _)
    obtain ⟨w4, hw4⟩ : ∃ x, w3.setRow w2.heap.size #[.slice a n cap, .map (some b0)] = x := ⟨_, rfl⟩
    have R4 : Hid (w4.heap[w2.heap.size]? = some (.cells #[.slice a n cap, .map (some b0)] 82 (0, 0))) := Lib.hid (by rw [← hw4]; exact setRow_heap _ _ _ _ _ _ R3.out)
    have b4 : Below w2.heap.size w2 w4 := by rw [← hw4, ← hw3]; exact below_setRow ((Below.refl _ _).alloc (Nat.le_refl _) _) (Nat.le_refl _) _
    have B4 := Lib.hid (B2.out.trans (b4.mono B2.out.size))
    have M4 := Lib.hid (hm.later b4)
    have cp : w4.cell? ⟨w2.heap.size, 0, none⟩ = some (.slice a n cap) := Lib.cell_of_heap R4.out 0
    have l4 : w2.heap.size < w4.heap.size := (Array.getElem?_eq_some_iff.1 R4.out).1
    clear b YES b4 B2 hm
    go_wp2_with (refine wpList_store_row rfl 82 _ _ rfl w2.heap.size #[.slice a n cap, .map (some b0)] rfl rfl 82 _ R3.out (pic_info _ rfl) rfl (row2_one _ _ _ _) ?_; rw [hw4])
    refine (CE.out _ B4.out).mono ?_
    rintro e w5 ⟨a2, c2, L, rfl, hL, ho, b⟩
    have B5 := Lib.hid (B4.out.trans (b.mono B4.out.size))
    have O5 := Lib.hid ho
    have L5 := Lib.hid hL
    have M5 := Lib.hid (M4.out.later b)
    have CM : Hid (w5.cell? ⟨w2.heap.size, 1, none⟩ = some (.map (some b0))) := Lib.hid ((b.cell (p := ⟨w2.heap.size, 1, none⟩) l4).trans (Lib.cell_of_heap R4.out 1))
    have l5 : w2.heap.size < w5.heap.size := Nat.lt_of_lt_of_le l4 b.size
    have LN := Lib.hid (HL.out L hL)
    have EA2 := Lib.hid (EA.out L hL)
    have IM2 := Lib.hid (IM.out L hL)
    clear b CE ho hL R3 R4 cp hw3 hw4 HL EA IM M4 B4 l4
    go_wp2
    go_loopw [6, 21] (fun v vi wr => ∃ i : Nat, i ≤ c ∧ vi = .int .i64 (i : Int) ∧ Hid (OW w5.heap.size v (edT f n L i) wr) ∧ Hid (Below w5.heap.size w5 wr)) (fun _ vi _ => c - (intOf vi).toNat)
    case atStart => exact ⟨0, Nat.zero_le _, rfl, Lib.hid (World.ownsRow_nil _ _ _ _), Lib.hid (Below.refl _ _)⟩
    case round =>
      obtain ⟨i, hi, rfl, O6, B6⟩ := hrel
      by_cases hlt : i < c
      · have ti : (i : Int) < (c : Int) := by omega
        have HI := Lib.hid hlt
        have l6 : i < L.length := by rw [LN.out]; exact hlt
        obtain ⟨g, rfl, hg, hcell⟩ := ow_cell O5.out LN.out.symm (by omega)
        have cx0 : wr.cell? ⟨g, i * 2, none⟩ = some (.int .i32 (pk L[i]! 0)) := (B6.out.cell (p := ⟨g, i * 2, none⟩) hg).trans (hcell i 0 hlt (by omega))
        have cx1 : wr.cell? ⟨g, i * 2 + 1, none⟩ = some (.int .i32 (pk L[i]! 1)) := (B6.out.cell (p := ⟨g, i * 2 + 1, none⟩) hg).trans (hcell i 1 hlt (by omega))
        have INX : Hid (∀ W, Below w5.heap.size w5 W → Calls Try.prog 78 #[.map (some b0), .agg #[.int .i32 (pk L[i]! 0), .int .i32 (pk L[i]! 1)]] W fun e w' => e = .returned (.bool (!edB f n L[i]!)) ∧ Below W.heap.size W w') := Lib.hid fun W hW => IN.out b0 W L[i]! (M5.out.later hW) (IM2.out _ (mem_bang l6))
        have NXY : Hid (edB f n L[i]! = true → edT f n L (i + 1) = edT f n L i ++ [(pk L[i]! 0, pk L[i]! 1)]) := Lib.hid fun hb => edT_yes l6 hb
        have NXN : Hid (edB f n L[i]! = false → edT f n L (i + 1) = edT f n L i) := Lib.hid fun hb => edT_no l6 hb
        have EI : Hid ((edT f n L i).length ≤ 1000000) := Lib.hid (by have := edT_le f n L i; have := cN.out; omega)
        obtain ⟨r, hr⟩ : ∃ r, edB f n L[i]! = r := ⟨_, rfl⟩
        obtain ⟨x0, hx0⟩ : ∃ z, pk L[i]! 0 = z := ⟨_, rfl⟩
        obtain ⟨x1, hx1⟩ : ∃ z, pk L[i]! 1 = z := ⟨_, rfl⟩
        rw [hr] at INX NXY NXN
        rw [hx0] at cx0 INX NXY
        rw [hx1] at cx1 INX NXY
        obtain ⟨w6, hw6⟩ : ∃ x, wr.alloc (.cells #[.int .i32 x0, .int .i32 x1] 45) = x := ⟨_, rfl⟩
        have b6 : Below wr.heap.size wr w6 := by rw [← hw6]; exact (Below.refl _ _).alloc (Nat.le_refl _) _
        have B7 := Lib.hid (B6.out.trans (b6.mono B6.out.size))
        have t0 : w6.cell? ⟨wr.heap.size, 0, none⟩ = some (.int .i32 x0) := by rw [← hw6]; exact Lib.cell_of_heap (World.alloc_heap_new wr _) 0
        have t1 : w6.cell? ⟨wr.heap.size, 1, none⟩ = some (.int .i32 x1) := by rw [← hw6]; exact Lib.cell_of_heap (World.alloc_heap_new wr _) 1
        have l7 : wr.heap.size < w6.heap.size := by rw [← hw6]; simp
        have O7 : Hid (OW w5.heap.size u6 (edT f n L i) w6) := Lib.hid (by rw [← hw6]; exact own_alloc O6.out _)
        have cm : w6.cell? ⟨w2.heap.size, 1, none⟩ = some (.map (some b0)) := (B7.out.cell (p := ⟨w2.heap.size, 1, none⟩) l5).trans CM.out
        clear hr hx0 hx1 b6 hlt hi l6 hcell hg
        go_wp2_with fail
        refine (INX.out _ B7.out).mono ?_
        rintro e w7 ⟨rfl, b⟩
        have B8 := Lib.hid (B7.out.trans (b.mono B7.out.size))
        have O8 : Hid (OW w5.heap.size u6 (edT f n L i) w7) := Lib.hid (World.ownsRow.kept O7.out (below_grown b) (ownNone _))
        have t2 : w7.cell? ⟨wr.heap.size, 0, none⟩ = some (.int .i32 x0) := (b.cell (p := ⟨wr.heap.size, 0, none⟩) l7).trans t0
        have t3 : w7.cell? ⟨wr.heap.size, 1, none⟩ = some (.int .i32 x1) := (b.cell (p := ⟨wr.heap.size, 1, none⟩) l7).trans t1
        clear b B7 O7 t0 t1 cx0 cx1 cm hw6 INX O6 B6
        cases r with
        | false =>
          have O9 : Hid (OW w5.heap.size u6 (edT f n L (i + 1)) w7) := Lib.hid (by rw [NXN.out rfl]; exact O8.out)
          go_wp2_with fail
          go_roundw
          case rel => exact ⟨i + 1, HI.out, by go_num, O9, B8⟩
          case measure => have := HI.out; simp [intOf]; omega
        | true =>
          have NX := Lib.hid (NXY.out rfl)
          go_wp2_with (at_builtin; refine wpList_append_pt rfl (.tmp 30) (.tmp 32) rfl w5.heap.size w5 w7 _ (edT f n L i).length (ptsV (edT f n L i)) x0 x1 rfl _ rfl rfl O8 B8 (Nat.le_refl _) EI.out ?_; intro v' w8 hown' hbel')
          have O9 : Hid (OW w5.heap.size v' (edT f n L (i + 1)) w8) := Lib.hid (by rw [NX.out]; unfold OW; rw [ptsV_snoc, List.length_append]; exact hown'.out)
          go_wp2
          go_roundw
          case rel => exact ⟨i + 1, HI.out, by go_num, O9, hbel'⟩
          case measure => have := HI.out; simp [intOf]; omega
      · have ti : ¬ (i : Int) < (c : Int) := by omega
        obtain rfl : i = c := by omega
        have O7 : Hid (OW w5.heap.size u6 EE wr) := Lib.hid (by rw [← EA2.out, LN.out]; exact O6.out)
        have B8 := Lib.hid (B5.out.trans (B6.out.mono B5.out.size))
        have SHX := Lib.hid (SH.out _ _ wr B6.out.size O7.out)
        clear hlt hi O6 O7 SH
        go_wp2_with fail
        refine SHX.out.mono ?_
        rintro e w7 ⟨rfl, hm, b⟩
        have B9 := Lib.hid (B8.out.trans (b.mono B8.out.size))
        have IOX := Lib.hid (IO.out _ w7 hm)
        clear b hm
        go_wp2_with fail
        refine IOX.out.mono ?_
        rintro e w8 ⟨v3, rfl, ho, b⟩
        have BB := Lib.hid (B9.out.trans (b.mono B9.out.size))
        have OO := Lib.hid (ho.mono B9.out.size)
        clear b ho
        go_wp2
        exact bodyPost_ret (v := .tuple #[v3, .int .i64 0]) (by simp [results, Try.results42, go_sem]) rfl ⟨_, rfl, OO.out, BB.out⟩
end Go.Proofs.Ythfmkejdpflpcaa
/-
  CONTRACT: EdgeOf by the specification.
-/
namespace Go.Proofs.Ythfmkejdpflpcaa
open Go.ChangeShapes Go.WideShapes Go.ChangeAt Go.RowKit
theorem edT_sub {f : Nat → Int} {n : Nat} {L : List (Int × Int)} {i : Nat} {c : Int × Int} (h : c ∈ edT f n L i) : c ∈ L := List.mem_of_mem_take (List.mem_filter.1 h).1
set_option maxRecDepth 100000 in
set_option maxHeartbeats 8000000 in
theorem sEdge_any (a : Option Addr) (n cap : Nat) (f : Nat → Int) (K0 : List (Int × Int)) (w : World) (hn : n ≤ 1048576) (h : BlR w.heap.size w a n f) (hf : BlF n f) (hK : validP f n = true → PicK (shL (edL f n)) K0) :
    Calls Try.prog 41 #[.slice a n cap] w (EdPost f n K0 w) := by
  unfold EdPost
  have OK : Hid (∀ W, Below w.heap.size w W → Calls Try.prog 61 #[.slice a n cap] W fun e w' => e = .returned (.bool (validP f n)) ∧ Below W.heap.size W w') := Lib.hid fun W hW => sOk_any a n cap f W.heap.size W (Nat.le_refl _) hn (h.below hW hW.size) hf
  cases hv : validP f n with
  | false =>
    have E2 : edC f n = 1 := by unfold edC; rw [hv]; exact if_neg (by decide)
    have E3 : edK f n K0 = [] := by unfold edK; rw [hv]; exact if_neg (by decide)
    rw [E2, E3]
    rw [hv] at OK
    clear hv E2 E3 h hf hn hK
    go_enter Try.func41, Try.ntmps41
    go_wp2_with fail
    refine (OK.out _ (Below.refl _ _)).mono ?_
    rintro e w2 ⟨rfl, b⟩
    have B2 := Lib.hid (b.alloc b.size (.cells #[] 73))
    have O2 := Lib.hid ((ob_made (F := shL (edL f n)) w2).mono b.size)
    clear b OK
    go_wp2
    exact bodyPost_ret (v := .tuple #[.slice (some ⟨w2.heap.size, 0, none⟩) 0 0, .int .i64 1]) (by simp [results, Try.results41, go_sem]) rfl ⟨_, rfl, O2.out, B2.out⟩
  | true =>
    have CE : Hid (∀ W, Below w.heap.size w W → Calls Try.prog 62 #[.slice a n cap] W fun e w' => ∃ a2 c2 L, e = .returned (.slice a2 (cntF f n) c2) ∧ IsC f n L ∧ OW W.heap.size (.slice a2 (cntF f n) c2) L w' ∧ Below W.heap.size W w') := Lib.hid fun W hW => (cells_any a n cap f W hv (h.below hW hW.size) hf).mono fun e w' ⟨v, L, he, hg, ho, hb⟩ => by
      obtain ⟨a2, c2, rfl⟩ := ow_len ho
      rw [hg.count] at he ho
      exact ⟨a2, c2, L, he, hg.isC hv, ho, hb⟩
    have HC := cntF_le f n
    have h64 := validP_le hv
    have cB : (cntF f n : Int) ≤ 16384 := by omega
    have cN : Hid (cntF f n ≤ 16384) := Lib.hid (by omega)
    have E2 : edC f n = 0 := by unfold edC; rw [hv]; exact if_pos rfl
    have E3 : edK f n K0 = K0 := by unfold edK; rw [hv]; exact if_pos rfl
    have PK0 := Lib.hid (hK hv)
    rw [hv] at OK
    have HO : Hid (∀ W x y, Below w.heap.size w W → Calls Try.prog 67 #[.slice a n cap, .int .i64 x, .int .i64 y] W fun e w' => e = .returned (.bool (phV f n x y)) ∧ Below W.heap.size W w') := Lib.hid fun W x y hW => sHold_any a n cap f x y W hn (h.below hW hW.size) hf hv
    have HL : Hid (∀ L, IsC f n L → L.length = cntF f n) := Lib.hid fun L h => h.len
    have IM : Hid (∀ L, IsC f n L → ∀ c ∈ L, colB c.1 = true ∧ colB c.2 = true) := Lib.hid fun L h c hc => (ic_mem hv h hc).1
    have EA : Hid (∀ L, IsC f n L → edT f n L L.length = edL f n) := Lib.hid fun L h => edT_all h
    rw [E2, E3]
    clear hv h hf hn HC h64 E2 E3 hK
    generalize edL f n = EE at PK0 EA ⊢
    generalize cntF f n = c at CE HL cB cN ⊢
    go_enter Try.func41, Try.ntmps41
    go_wp2_with fail
    refine (OK.out _ (Below.refl _ _)).mono ?_
    rintro e w2 ⟨rfl, b⟩
    have B2 := Lib.hid b
    clear b OK
    go_wp2_with fail
    refine (CE.out _ B2.out).mono ?_
    rintro e w3 ⟨a2, c2, L, rfl, hL, ho, b⟩
    have B3 := Lib.hid (B2.out.trans (b.mono B2.out.size))
    have O3 := Lib.hid ho
    have LN := Lib.hid (HL.out L hL)
    have EA2 := Lib.hid (EA.out L hL)
    have IM2 := Lib.hid (IM.out L hL)
    clear b CE ho hL HL EA IM B2
    obtain ⟨w4, hw4⟩ : ∃ x, w3.alloc (.cells #[] 73) = x := ⟨_, rfl⟩
    have O4 : Hid (OB w3.heap.size (.slice (some ⟨w3.heap.size, 0, none⟩) 0 0) (shL (edT f n L 0)) [] w4) := Lib.hid (by rw [← hw4]; exact ob_made w3)
    have B4 : Hid (Below w3.heap.size w3 w4) := Lib.hid (by rw [← hw4]; exact (Below.refl _ _).alloc (Nat.le_refl _) _)
    go_wp2
    clear hw4
    go_loopw [5, 6] (fun v vi wr => ∃ (i : Nat) (K : List (Int × Int)), i ≤ c ∧ vi = .int .i64 (i : Int) ∧ Hid (PicK (shL (edT f n L i)) K) ∧ Hid (K.length ≤ i) ∧ Hid (OB w3.heap.size v (shL (edT f n L i)) K wr) ∧ Hid (Below w3.heap.size w3 wr)) (fun _ vi _ => c - (intOf vi).toNat)
    case atStart => exact ⟨0, [], Nat.zero_le _, rfl, Lib.hid PicK.nil, Lib.hid (Nat.le_refl _), O4, B4⟩
    case round =>
      obtain ⟨i, K, hi, rfl, PK, KN, O6, B6⟩ := hrel
      clear O4 B4
      by_cases hlt : i < c
      · have ti : (i : Int) < (c : Int) := by omega
        have HI := Lib.hid hlt
        have l6 : i < L.length := by rw [LN.out]; exact hlt
        obtain ⟨g, rfl, hg, hcell⟩ := ow_cell O3.out LN.out.symm (by omega)
        have cx0 : wr.cell? ⟨g, i * 2, none⟩ = some (.int .i32 L[i]!.1) := (B6.out.cell (p := ⟨g, i * 2, none⟩) hg).trans (hcell i 0 hlt (by omega))
        have cx1 : wr.cell? ⟨g, i * 2 + 1, none⟩ = some (.int .i32 L[i]!.2) := (B6.out.cell (p := ⟨g, i * 2 + 1, none⟩) hg).trans (hcell i 1 hlt (by omega))
        obtain ⟨cbx, cby⟩ := IM2.out _ (mem_bang l6)
        have BW : Hid (∀ W, Below w3.heap.size w3 W → Below w.heap.size w W) := Lib.hid fun W hW => B3.out.trans (hW.mono B3.out.size)
        have H1 : Hid (∀ W, Below w3.heap.size w3 W → Calls Try.prog 67 #[.slice a n cap, .int .i64 (L[i]!.1 - 1), .int .i64 L[i]!.2] W fun e w' => e = .returned (.bool (phV f n (L[i]!.1 - 1) L[i]!.2)) ∧ Below W.heap.size W w') := Lib.hid fun W hW => HO.out W _ _ (BW.out W hW)
        have H2 : Hid (∀ W, Below w3.heap.size w3 W → Calls Try.prog 67 #[.slice a n cap, .int .i64 (L[i]!.1 + 1), .int .i64 L[i]!.2] W fun e w' => e = .returned (.bool (phV f n (L[i]!.1 + 1) L[i]!.2)) ∧ Below W.heap.size W w') := Lib.hid fun W hW => HO.out W _ _ (BW.out W hW)
        have H3 : Hid (∀ W, Below w3.heap.size w3 W → Calls Try.prog 67 #[.slice a n cap, .int .i64 L[i]!.1, .int .i64 (L[i]!.2 - 1)] W fun e w' => e = .returned (.bool (phV f n L[i]!.1 (L[i]!.2 - 1))) ∧ Below W.heap.size W w') := Lib.hid fun W hW => HO.out W _ _ (BW.out W hW)
        have H4 : Hid (∀ W, Below w3.heap.size w3 W → Calls Try.prog 67 #[.slice a n cap, .int .i64 L[i]!.1, .int .i64 (L[i]!.2 + 1)] W fun e w' => e = .returned (.bool (phV f n L[i]!.1 (L[i]!.2 + 1))) ∧ Below W.heap.size W w') := Lib.hid fun W hW => HO.out W _ _ (BW.out W hW)
        have ED : edB f n L[i]! = !(phV f n (L[i]!.1 - 1) L[i]!.2 && phV f n (L[i]!.1 + 1) L[i]!.2 && phV f n L[i]!.1 (L[i]!.2 - 1) && phV f n L[i]!.1 (L[i]!.2 + 1)) := rfl
        have PUT : Hid (edB f n L[i]! = true → ∀ W, Below w3.heap.size w3 W → OB w3.heap.size u5 (shL (edT f n L i)) K W → Calls Try.prog 77 #[u5, .int .i64 L[i]!.1, .int .i64 L[i]!.2] W fun e w' => ∃ v' K', e = .returned v' ∧ PicK (shL (edT f n L (i + 1))) K' ∧ K'.length ≤ i + 1 ∧ OB w3.heap.size v' (shL (edT f n L (i + 1))) K' w' ∧ Below W.heap.size W w') := Lib.hid fun hb W hW ho => by
          rw [edT_yes l6 hb, shL_snoc]
          exact (sPut_any w3.heap.size u5 (shL (edT f n L i)) K L[i]!.1 L[i]!.2 W PK.out (shL_MB _) cbx cby (by have := KN.out; have := HI.out; have := cN.out; omega) hW.size ho).mono fun e w' ⟨v', K', h1, h2, h3, h4, h5⟩ => ⟨v', K', h1, h2, by have := KN.out; omega, h4, h5⟩
        have NO : Hid (edB f n L[i]! = false → edT f n L (i + 1) = edT f n L i) := Lib.hid fun hb => edT_no l6 hb
        rw [ED] at PUT NO
        obtain ⟨x0, x1⟩ := colB_yes cbx
        obtain ⟨y0, y1⟩ := colB_yes cby
        generalize phV f n (L[i]!.1 - 1) L[i]!.2 = r1 at H1 PUT NO
        generalize phV f n (L[i]!.1 + 1) L[i]!.2 = r2 at H2 PUT NO
        generalize phV f n L[i]!.1 (L[i]!.2 - 1) = r3 at H3 PUT NO
        generalize phV f n L[i]!.1 (L[i]!.2 + 1) = r4 at H4 PUT NO
        generalize L[i]!.1 = x at *
        generalize L[i]!.2 = y at *
        clear ED cbx cby hcell hg l6 hlt hi HO
        cases r1 with
        | false =>
          go_wp2_with fail
          refine (H1.out _ B6.out).mono ?_
          rintro e v1 ⟨rfl, bq⟩
          have C1 := Lib.hid (B6.out.trans (bq.mono B6.out.size))
          have P1 : Hid (OB w3.heap.size u5 (shL (edT f n L i)) K v1) := Lib.hid (World.ownsRow.kept O6.out (below_grown bq) (ownNone _))
          clear bq
          have PU := Lib.hid (PUT.out (by simp) _ C1.out P1.out)
          go_wp2_with fail
          refine PU.out.mono ?_
          rintro e v9 ⟨v8, K2, rfl, k1, k2, k3, bq⟩
          have C9 := Lib.hid (C1.out.trans (bq.mono C1.out.size))
          have Q1 := Lib.hid k1
          have Q2 := Lib.hid k2
          have Q3 := Lib.hid k3
          clear bq k1 k2 k3
          go_wp2
          go_roundw
          case rel => exact ⟨i + 1, K2, HI.out, by go_num, Q1, Q2, Q3, C9⟩
          case measure => have := HI.out; simp [intOf]; omega
        | true =>
          cases r2 with
          | false =>
            go_wp2_with fail
            refine (H1.out _ B6.out).mono ?_
            rintro e v1 ⟨rfl, bq⟩
            have C1 := Lib.hid (B6.out.trans (bq.mono B6.out.size))
            have P1 : Hid (OB w3.heap.size u5 (shL (edT f n L i)) K v1) := Lib.hid (World.ownsRow.kept O6.out (below_grown bq) (ownNone _))
            clear bq
            go_wp2_with fail
            refine (H2.out _ C1.out).mono ?_
            rintro e v2 ⟨rfl, bq⟩
            have C2 := Lib.hid (C1.out.trans (bq.mono C1.out.size))
            have P2 : Hid (OB w3.heap.size u5 (shL (edT f n L i)) K v2) := Lib.hid (World.ownsRow.kept P1.out (below_grown bq) (ownNone _))
            clear bq
            have PU := Lib.hid (PUT.out (by simp) _ C2.out P2.out)
            go_wp2_with fail
            refine PU.out.mono ?_
            rintro e v9 ⟨v8, K2, rfl, k1, k2, k3, bq⟩
            have C9 := Lib.hid (C2.out.trans (bq.mono C2.out.size))
            have Q1 := Lib.hid k1
            have Q2 := Lib.hid k2
            have Q3 := Lib.hid k3
            clear bq k1 k2 k3
            go_wp2
            go_roundw
            case rel => exact ⟨i + 1, K2, HI.out, by go_num, Q1, Q2, Q3, C9⟩
            case measure => have := HI.out; simp [intOf]; omega
          | true =>
            cases r3 with
            | false =>
              go_wp2_with fail
              refine (H1.out _ B6.out).mono ?_
              rintro e v1 ⟨rfl, bq⟩
              have C1 := Lib.hid (B6.out.trans (bq.mono B6.out.size))
              have P1 : Hid (OB w3.heap.size u5 (shL (edT f n L i)) K v1) := Lib.hid (World.ownsRow.kept O6.out (below_grown bq) (ownNone _))
              clear bq
              go_wp2_with fail
              refine (H2.out _ C1.out).mono ?_
              rintro e v2 ⟨rfl, bq⟩
              have C2 := Lib.hid (C1.out.trans (bq.mono C1.out.size))
              have P2 : Hid (OB w3.heap.size u5 (shL (edT f n L i)) K v2) := Lib.hid (World.ownsRow.kept P1.out (below_grown bq) (ownNone _))
              clear bq
              go_wp2_with fail
              refine (H3.out _ C2.out).mono ?_
              rintro e v3 ⟨rfl, bq⟩
              have C3 := Lib.hid (C2.out.trans (bq.mono C2.out.size))
              have P3 : Hid (OB w3.heap.size u5 (shL (edT f n L i)) K v3) := Lib.hid (World.ownsRow.kept P2.out (below_grown bq) (ownNone _))
              clear bq
              have PU := Lib.hid (PUT.out (by simp) _ C3.out P3.out)
              go_wp2_with fail
              refine PU.out.mono ?_
              rintro e v9 ⟨v8, K2, rfl, k1, k2, k3, bq⟩
              have C9 := Lib.hid (C3.out.trans (bq.mono C3.out.size))
              have Q1 := Lib.hid k1
              have Q2 := Lib.hid k2
              have Q3 := Lib.hid k3
              clear bq k1 k2 k3
              go_wp2
              go_roundw
              case rel => exact ⟨i + 1, K2, HI.out, by go_num, Q1, Q2, Q3, C9⟩
              case measure => have := HI.out; simp [intOf]; omega
            | true =>
              cases r4 with
              | false =>
                go_wp2_with fail
                refine (H1.out _ B6.out).mono ?_
                rintro e v1 ⟨rfl, bq⟩
                have C1 := Lib.hid (B6.out.trans (bq.mono B6.out.size))
                have P1 : Hid (OB w3.heap.size u5 (shL (edT f n L i)) K v1) := Lib.hid (World.ownsRow.kept O6.out (below_grown bq) (ownNone _))
                clear bq
                go_wp2_with fail
                refine (H2.out _ C1.out).mono ?_
                rintro e v2 ⟨rfl, bq⟩
                have C2 := Lib.hid (C1.out.trans (bq.mono C1.out.size))
                have P2 : Hid (OB w3.heap.size u5 (shL (edT f n L i)) K v2) := Lib.hid (World.ownsRow.kept P1.out (below_grown bq) (ownNone _))
                clear bq
                go_wp2_with fail
                refine (H3.out _ C2.out).mono ?_
                rintro e v3 ⟨rfl, bq⟩
                have C3 := Lib.hid (C2.out.trans (bq.mono C2.out.size))
                have P3 : Hid (OB w3.heap.size u5 (shL (edT f n L i)) K v3) := Lib.hid (World.ownsRow.kept P2.out (below_grown bq) (ownNone _))
                clear bq
                go_wp2_with fail
                refine (H4.out _ C3.out).mono ?_
                rintro e v4 ⟨rfl, bq⟩
                have C4 := Lib.hid (C3.out.trans (bq.mono C3.out.size))
                have P4 : Hid (OB w3.heap.size u5 (shL (edT f n L i)) K v4) := Lib.hid (World.ownsRow.kept P3.out (below_grown bq) (ownNone _))
                clear bq
                have PU := Lib.hid (PUT.out (by simp) _ C4.out P4.out)
                go_wp2_with fail
                refine PU.out.mono ?_
                rintro e v9 ⟨v8, K2, rfl, k1, k2, k3, bq⟩
                have C9 := Lib.hid (C4.out.trans (bq.mono C4.out.size))
                have Q1 := Lib.hid k1
                have Q2 := Lib.hid k2
                have Q3 := Lib.hid k3
                clear bq k1 k2 k3
                go_wp2
                go_roundw
                case rel => exact ⟨i + 1, K2, HI.out, by go_num, Q1, Q2, Q3, C9⟩
                case measure => have := HI.out; simp [intOf]; omega
              | true =>
                have NX := NO.out (by simp)
                go_wp2_with fail
                refine (H1.out _ B6.out).mono ?_
                rintro e v1 ⟨rfl, bq⟩
                have C1 := Lib.hid (B6.out.trans (bq.mono B6.out.size))
                have P1 : Hid (OB w3.heap.size u5 (shL (edT f n L i)) K v1) := Lib.hid (World.ownsRow.kept O6.out (below_grown bq) (ownNone _))
                clear bq
                go_wp2_with fail
                refine (H2.out _ C1.out).mono ?_
                rintro e v2 ⟨rfl, bq⟩
                have C2 := Lib.hid (C1.out.trans (bq.mono C1.out.size))
                have P2 : Hid (OB w3.heap.size u5 (shL (edT f n L i)) K v2) := Lib.hid (World.ownsRow.kept P1.out (below_grown bq) (ownNone _))
                clear bq
                go_wp2_with fail
                refine (H3.out _ C2.out).mono ?_
                rintro e v3 ⟨rfl, bq⟩
                have C3 := Lib.hid (C2.out.trans (bq.mono C2.out.size))
                have P3 : Hid (OB w3.heap.size u5 (shL (edT f n L i)) K v3) := Lib.hid (World.ownsRow.kept P2.out (below_grown bq) (ownNone _))
                clear bq
                go_wp2_with fail
                refine (H4.out _ C3.out).mono ?_
                rintro e v4 ⟨rfl, bq⟩
                have C4 := Lib.hid (C3.out.trans (bq.mono C3.out.size))
                have P4 : Hid (OB w3.heap.size u5 (shL (edT f n L i)) K v4) := Lib.hid (World.ownsRow.kept P3.out (below_grown bq) (ownNone _))
                clear bq
                have Q1 : Hid (PicK (shL (edT f n L (i + 1))) K) := Lib.hid (by rw [NX]; exact PK.out)
                have Q3 : Hid (OB w3.heap.size u5 (shL (edT f n L (i + 1))) K v4) := Lib.hid (by rw [NX]; exact P4.out)
                clear NX
                go_wp2
                go_roundw
                case rel => exact ⟨i + 1, K, HI.out, by go_num, Q1, Lib.hid (Nat.le_succ_of_le KN.out), Q3, C4⟩
                case measure => have := HI.out; simp [intOf]; omega
      · have ti : ¬ (i : Int) < (c : Int) := by omega
        obtain rfl : i = c := by omega
        have e1 : edT f n L i = EE := by rw [← EA2.out, LN.out]
        have e2 : K = K0 := by have := PK.out; rw [e1] at this; exact this.uniq PK0.out
        have B8 := Lib.hid (B3.out.trans (B6.out.mono B3.out.size))
        have O8 : Hid (OB w.heap.size u5 (shL EE) K0 wr) := Lib.hid (by have := O6.out; rw [e1, e2] at this; exact this.mono B3.out.size)
        clear hlt hi O6 B6 e1 e2
        go_wp2
        exact bodyPost_ret (v := .tuple #[u5, .int .i64 0]) (by simp [results, Try.results41, go_sem]) rfl ⟨_, rfl, O8.out, B8.out⟩
end Go.Proofs.Ythfmkejdpflpcaa
