/-
  CONTRACT: MinusPictures by the program (given the sort of blocks).
-/
import Derived.Test.YthfmkejdpflpcaaNt
namespace Go.Proofs.Ythfmkejdpflpcaa
open Go.ChangeShapes Go.WideShapes Go.ChangeAt Go.RowKit Go.Maps Go.WideMaps
set_option maxRecDepth 100000 in
set_option maxHeartbeats 16000000 in
theorem bbMinus_any (SB : SortsB) (a b : Option Addr) (n m ca cb : Nat) (f g : Nat → Int) (K0 : List (Int × Int)) (w : World) (hn : n ≤ 1048576) (hm : m ≤ 1048576) (ha : BlR w.heap.size w a n f) (hb : BlR w.heap.size w b m g) (hf : BlF n f) (hg : BlF m g)
    (hop : ∀ x y W, MB x → MB y → Calls Try.prog 76 #[.agg (M16 x), .agg (M16 y)] W fun e w' => e = .returned (.agg (M16 (MinusMasksG x y))) ∧ Below W.heap.size W w') (h0 : ∀ j, j < 16 → MinusMasksG zI zI j = 0) (hK : bbV f n g m = true → PicK (GF MinusMasksG (shF f n) (shF g m)) K0) :
    Calls Try.prog 70 #[.slice a n ca, .slice b m cb, .func (.func 76) #[] #[]] w (BbPost MinusMasksG f n g m K0 w) := by
  unfold BbPost
  cases hv : bbV f n g m with
  | false =>
    cases hva : validP f n with
    | false =>
      cases hvb : validP g m with
      | false =>
        have E1 : bbC f n g m K0 = 1 := by unfold bbC; rw [hv]; exact if_neg (by decide)
        have E2 : bbK f n g m K0 = [] := by unfold bbK; rw [hv]; exact if_neg (by decide)
        rw [E1, E2]
        have YA := Lib.hid (readP_no a n ca f w hn ha hf hva)
        have YB : Hid (∀ W, Below w.heap.size w W → Calls Try.prog 64 #[.slice b m cb] W fun e w' => e = .returned (.tuple #[.agg #[.slice none 0 0, .map none], .int .i64 1]) ∧ Below W.heap.size W w') := Lib.hid fun W hW => readP_no b m cb g W hm (hb.below hW hW.size) hg hvb
        clear hv hva hvb E1 E2 ha hb hf hg hop h0 hK hn hm SB
        go_enter Try.func70, Try.ntmps70
        go_wp2_with fail
        refine YA.out.mono ?_
        rintro e w1 ⟨rfl, bq⟩
        have B1 := Lib.hid bq
        clear bq YA
        obtain ⟨w2a, hw2a⟩ : ∃ x, w1.alloc (.cells #[.slice none 0 0, .map none] 82) = x := ⟨_, rfl⟩
        have T1 : Hid (w2a.heap[w1.heap.size]? = some (.cells #[.slice none 0 0, .map none] 82 (0, 0))) := Lib.hid (by rw [← hw2a]; exact World.alloc_heap_new w1 _)
        obtain ⟨w2, hw2⟩ : ∃ x, w2a.setRow w1.heap.size #[.slice none 0 0, .map none] = x := ⟨_, rfl⟩
        have b1 : Below w1.heap.size w1 w2 := by rw [← hw2, ← hw2a]; exact below_setRow ((Below.refl _ _).alloc (Nat.le_refl _) _) (Nat.le_refl _) _
        have B1b := Lib.hid (B1.out.trans (b1.mono B1.out.size))
        clear b1
        go_wp2_with (refine wpList_store_row rfl 82 _ _ rfl w1.heap.size #[.slice none 0 0, .map none] rfl rfl 82 _ T1.out (pic_info _ rfl) rfl (row2_one _ _ _ _) ?_; rw [hw2])
        refine (YB.out _ B1b.out).mono ?_
        rintro e w3 ⟨rfl, bq⟩
        have B3 := Lib.hid (B1b.out.trans (bq.mono B1b.out.size))
        clear bq YB
        obtain ⟨w4a, hw4a⟩ : ∃ x, w3.alloc (.cells #[.slice none 0 0, .map none] 82) = x := ⟨_, rfl⟩
        have T3 : Hid (w4a.heap[w3.heap.size]? = some (.cells #[.slice none 0 0, .map none] 82 (0, 0))) := Lib.hid (by rw [← hw4a]; exact World.alloc_heap_new w3 _)
        obtain ⟨w4, hw4⟩ : ∃ x, w4a.setRow w3.heap.size #[.slice none 0 0, .map none] = x := ⟨_, rfl⟩
        have b3 : Below w3.heap.size w3 w4 := by rw [← hw4, ← hw4a]; exact below_setRow ((Below.refl _ _).alloc (Nat.le_refl _) _) (Nat.le_refl _) _
        have B3b := Lib.hid (B3.out.trans (b3.mono B3.out.size))
        clear b3
        obtain ⟨w5, hw5⟩ : ∃ x, w4.alloc (.cells #[.int .i64 1, .int .i64 1] 2) = x := ⟨_, rfl⟩
        have T5 := World.alloc_heap_new w4 (.cells #[.int .i64 1, .int .i64 1] 2)
        rw [hw5] at T5
        have OR := Lib.hid (or64_any 1 1 w4.heap.size w5 (Lib.cell_of_heap T5 0) (Lib.cell_of_heap T5 1))
        rw [show orI 1 1 = 1 from rfl] at OR
        have B5 : Hid (Below w.heap.size w w5) := Lib.hid (by rw [← hw5]; exact B3b.out.alloc B3b.out.size _)
        clear T5
        go_wp2_with (first | (refine wpList_store_row rfl 82 _ _ rfl w3.heap.size #[.slice none 0 0, .map none] rfl rfl 82 _ T3.out (pic_info _ rfl) rfl (row2_one _ _ _ _) ?_; rw [hw4]) | ((with_reducible refine OR.out.mono ?_); rintro e w' ⟨rfl, rfl⟩))
        exact bodyPost_ret (v := .tuple #[.slice none 0 0, .int .i64 1]) (by simp [results, Try.results70, go_sem]) rfl ⟨_, rfl, World.ownsRow_nil _ _ _ _, B5.out⟩
      | true =>
        have E1 : bbC f n g m K0 = 1 := by unfold bbC; rw [hv]; exact if_neg (by decide)
        have E2 : bbK f n g m K0 = [] := by unfold bbK; rw [hv]; exact if_neg (by decide)
        rw [E1, E2]
        have YA := Lib.hid (readP_no a n ca f w hn ha hf hva)
        have YB : Hid (∀ W, Below w.heap.size w W → Calls Try.prog 64 #[.slice b m cb] W fun e w' => ∃ b0, e = .returned (.tuple #[.agg #[.slice b m cb, .map (some b0)], .int .i64 0]) ∧ Below W.heap.size W w') := Lib.hid fun W hW => (readP_yes b m cb g W hm (hb.below hW hW.size) hg hvb).mono fun e w' ⟨b0, h1, _, h3⟩ => ⟨b0, h1, h3⟩
        clear hv hva hvb E1 E2 ha hb hf hg hop h0 hK hn hm SB
        go_enter Try.func70, Try.ntmps70
        go_wp2_with fail
        refine YA.out.mono ?_
        rintro e w1 ⟨rfl, bq⟩
        have B1 := Lib.hid bq
        clear bq YA
        obtain ⟨w2a, hw2a⟩ : ∃ x, w1.alloc (.cells #[.slice none 0 0, .map none] 82) = x := ⟨_, rfl⟩
        have T1 : Hid (w2a.heap[w1.heap.size]? = some (.cells #[.slice none 0 0, .map none] 82 (0, 0))) := Lib.hid (by rw [← hw2a]; exact World.alloc_heap_new w1 _)
        obtain ⟨w2, hw2⟩ : ∃ x, w2a.setRow w1.heap.size #[.slice none 0 0, .map none] = x := ⟨_, rfl⟩
        have b1 : Below w1.heap.size w1 w2 := by rw [← hw2, ← hw2a]; exact below_setRow ((Below.refl _ _).alloc (Nat.le_refl _) _) (Nat.le_refl _) _
        have B1b := Lib.hid (B1.out.trans (b1.mono B1.out.size))
        clear b1
        go_wp2_with (refine wpList_store_row rfl 82 _ _ rfl w1.heap.size #[.slice none 0 0, .map none] rfl rfl 82 _ T1.out (pic_info _ rfl) rfl (row2_one _ _ _ _) ?_; rw [hw2])
        refine (YB.out _ B1b.out).mono ?_
        rintro e w3 ⟨bb, rfl, bq⟩
        have B3 := Lib.hid (B1b.out.trans (bq.mono B1b.out.size))
        clear bq YB
        obtain ⟨w4a, hw4a⟩ : ∃ x, w3.alloc (.cells #[.slice none 0 0, .map none] 82) = x := ⟨_, rfl⟩
        have T3 : Hid (w4a.heap[w3.heap.size]? = some (.cells #[.slice none 0 0, .map none] 82 (0, 0))) := Lib.hid (by rw [← hw4a]; exact World.alloc_heap_new w3 _)
        obtain ⟨w4, hw4⟩ : ∃ x, w4a.setRow w3.heap.size #[.slice b m cb, .map (some bb)] = x := ⟨_, rfl⟩
        have b3 : Below w3.heap.size w3 w4 := by rw [← hw4, ← hw4a]; exact below_setRow ((Below.refl _ _).alloc (Nat.le_refl _) _) (Nat.le_refl _) _
        have B3b := Lib.hid (B3.out.trans (b3.mono B3.out.size))
        clear b3
        obtain ⟨w5, hw5⟩ : ∃ x, w4.alloc (.cells #[.int .i64 1, .int .i64 0] 2) = x := ⟨_, rfl⟩
        have T5 := World.alloc_heap_new w4 (.cells #[.int .i64 1, .int .i64 0] 2)
        rw [hw5] at T5
        have OR := Lib.hid (or64_any 1 0 w4.heap.size w5 (Lib.cell_of_heap T5 0) (Lib.cell_of_heap T5 1))
        rw [show orI 1 0 = 1 from rfl] at OR
        have B5 : Hid (Below w.heap.size w w5) := Lib.hid (by rw [← hw5]; exact B3b.out.alloc B3b.out.size _)
        clear T5
        go_wp2_with (first | (refine wpList_store_row rfl 82 _ _ rfl w3.heap.size #[.slice b m cb, .map (some bb)] rfl rfl 82 _ T3.out (pic_info _ rfl) rfl (row2_one _ _ _ _) ?_; rw [hw4]) | ((with_reducible refine OR.out.mono ?_); rintro e w' ⟨rfl, rfl⟩))
        exact bodyPost_ret (v := .tuple #[.slice none 0 0, .int .i64 1]) (by simp [results, Try.results70, go_sem]) rfl ⟨_, rfl, World.ownsRow_nil _ _ _ _, B5.out⟩
    | true =>
      cases hvb : validP g m with
      | false =>
        have E1 : bbC f n g m K0 = 1 := by unfold bbC; rw [hv]; exact if_neg (by decide)
        have E2 : bbK f n g m K0 = [] := by unfold bbK; rw [hv]; exact if_neg (by decide)
        rw [E1, E2]
        have YA : Hid (Calls Try.prog 64 #[.slice a n ca] w fun e w' => ∃ b0, e = .returned (.tuple #[.agg #[.slice a n ca, .map (some b0)], .int .i64 0]) ∧ Below w.heap.size w w') := Lib.hid ((readP_yes a n ca f w hn ha hf hva).mono fun e w' ⟨b0, h1, _, h3⟩ => ⟨b0, h1, h3⟩)
        have YB : Hid (∀ W, Below w.heap.size w W → Calls Try.prog 64 #[.slice b m cb] W fun e w' => e = .returned (.tuple #[.agg #[.slice none 0 0, .map none], .int .i64 1]) ∧ Below W.heap.size W w') := Lib.hid fun W hW => readP_no b m cb g W hm (hb.below hW hW.size) hg hvb
        clear hv hva hvb E1 E2 ha hb hf hg hop h0 hK hn hm SB
        go_enter Try.func70, Try.ntmps70
        go_wp2_with fail
        refine YA.out.mono ?_
        rintro e w1 ⟨ba, rfl, bq⟩
        have B1 := Lib.hid bq
        clear bq YA
        obtain ⟨w2a, hw2a⟩ : ∃ x, w1.alloc (.cells #[.slice none 0 0, .map none] 82) = x := ⟨_, rfl⟩
        have T1 : Hid (w2a.heap[w1.heap.size]? = some (.cells #[.slice none 0 0, .map none] 82 (0, 0))) := Lib.hid (by rw [← hw2a]; exact World.alloc_heap_new w1 _)
        obtain ⟨w2, hw2⟩ : ∃ x, w2a.setRow w1.heap.size #[.slice a n ca, .map (some ba)] = x := ⟨_, rfl⟩
        have b1 : Below w1.heap.size w1 w2 := by rw [← hw2, ← hw2a]; exact below_setRow ((Below.refl _ _).alloc (Nat.le_refl _) _) (Nat.le_refl _) _
        have B1b := Lib.hid (B1.out.trans (b1.mono B1.out.size))
        clear b1
        go_wp2_with (refine wpList_store_row rfl 82 _ _ rfl w1.heap.size #[.slice a n ca, .map (some ba)] rfl rfl 82 _ T1.out (pic_info _ rfl) rfl (row2_one _ _ _ _) ?_; rw [hw2])
        refine (YB.out _ B1b.out).mono ?_
        rintro e w3 ⟨rfl, bq⟩
        have B3 := Lib.hid (B1b.out.trans (bq.mono B1b.out.size))
        clear bq YB
        obtain ⟨w4a, hw4a⟩ : ∃ x, w3.alloc (.cells #[.slice none 0 0, .map none] 82) = x := ⟨_, rfl⟩
        have T3 : Hid (w4a.heap[w3.heap.size]? = some (.cells #[.slice none 0 0, .map none] 82 (0, 0))) := Lib.hid (by rw [← hw4a]; exact World.alloc_heap_new w3 _)
        obtain ⟨w4, hw4⟩ : ∃ x, w4a.setRow w3.heap.size #[.slice none 0 0, .map none] = x := ⟨_, rfl⟩
        have b3 : Below w3.heap.size w3 w4 := by rw [← hw4, ← hw4a]; exact below_setRow ((Below.refl _ _).alloc (Nat.le_refl _) _) (Nat.le_refl _) _
        have B3b := Lib.hid (B3.out.trans (b3.mono B3.out.size))
        clear b3
        obtain ⟨w5, hw5⟩ : ∃ x, w4.alloc (.cells #[.int .i64 0, .int .i64 1] 2) = x := ⟨_, rfl⟩
        have T5 := World.alloc_heap_new w4 (.cells #[.int .i64 0, .int .i64 1] 2)
        rw [hw5] at T5
        have OR := Lib.hid (or64_any 0 1 w4.heap.size w5 (Lib.cell_of_heap T5 0) (Lib.cell_of_heap T5 1))
        rw [show orI 0 1 = 1 from rfl] at OR
        have B5 : Hid (Below w.heap.size w w5) := Lib.hid (by rw [← hw5]; exact B3b.out.alloc B3b.out.size _)
        clear T5
        go_wp2_with (first | (refine wpList_store_row rfl 82 _ _ rfl w3.heap.size #[.slice none 0 0, .map none] rfl rfl 82 _ T3.out (pic_info _ rfl) rfl (row2_one _ _ _ _) ?_; rw [hw4]) | ((with_reducible refine OR.out.mono ?_); rintro e w' ⟨rfl, rfl⟩))
        exact bodyPost_ret (v := .tuple #[.slice none 0 0, .int .i64 1]) (by simp [results, Try.results70, go_sem]) rfl ⟨_, rfl, World.ownsRow_nil _ _ _ _, B5.out⟩
      | true => unfold bbV at hv; rw [hva, hvb] at hv; cases hv
  | true =>
    have hv2 := hv
    unfold bbV at hv2
    rw [Bool.and_eq_true] at hv2
    obtain ⟨hv1, hv2⟩ := hv2
    have n64 := validP_le hv1
    have m64 := validP_le hv2
    have E1 : bbC f n g m K0 = ioC K0 := by unfold bbC; rw [hv]; rfl
    have E2 : bbK f n g m K0 = ioK K0 := by unfold bbK; rw [hv]; rfl
    rw [E1, E2]
    have YA := Lib.hid (readP_yes a n ca f w hn ha hf hv1)
    have YB : Hid (∀ W, Below w.heap.size w W → Calls Try.prog 64 #[.slice b m cb] W fun e w' => ∃ b0, e = .returned (.tuple #[.agg #[.slice b m cb, .map (some b0)], .int .i64 0]) ∧ MapM b0 m (shF g m) w' ∧ Below W.heap.size W w') := Lib.hid fun W hW => readP_yes b m cb g W hm (hb.below hW hW.size) hg hv2
    have RA := Lib.hid ha
    have RB := Lib.hid hb
    have FB := Lib.hid (catG_BlF hf hg)
    have AM := Lib.hid (shF_MB hf n (Nat.le_refl _))
    have BM := Lib.hid (shF_MB hg m (Nat.le_refl _))
    have HOP := Lib.hid hop
    have PKF : Hid (PicK (bbF MinusMasksG (shF f n) (shF g m) (catG f n g) (n + m)) K0) := Lib.hid ((hK hv).congr fun p q _ _ j hj => (bbF_all h0 f g n m p q j hj).symm)
    have OBF : Hid (∀ (B : Nat) (v : Value) (K : List (Int × Int)) (W : World), OB B v (bbF MinusMasksG (shF f n) (shF g m) (catG f n g) (n + m)) K W → OB B v (GF MinusMasksG (shF f n) (shF g m)) K W) := Lib.hid fun B v K W h => h.congr fun p q j hj => bbF_all h0 f g n m p q j hj
    have IO := Lib.hid (fun bm W hmm => iInOrder_any SB bm (n + m) (bbF MinusMasksG (shF f n) (shF g m) (catG f n g) (n + m)) K0 PKF.out W (by omega) hmm)
    have nI : (n : Int) ≤ 64 := by omega
    have mI : (m : Int) ≤ 64 := by omega
    have N64 := Lib.hid n64
    have M64 := Lib.hid m64
    clear hv hv1 hv2 E1 E2 ha hb hf hg hop h0 hK hn hm n64 m64 SB
    have hmm := @run_makeMap Try.prog
    go_enter Try.func70, Try.ntmps70
    go_wp2_with fail
    refine YA.out.mono ?_
    rintro e w1 ⟨ba, rfl, hma, bq⟩
    have B1 := Lib.hid bq
    have MA1 := Lib.hid hma
    clear bq hma YA
    obtain ⟨w2a, hw2a⟩ : ∃ x, w1.alloc (.cells #[.slice none 0 0, .map none] 82) = x := ⟨_, rfl⟩
    have T2 : Hid (w2a.heap[w1.heap.size]? = some (.cells #[.slice none 0 0, .map none] 82 (0, 0))) := Lib.hid (by rw [← hw2a]; exact World.alloc_heap_new w1 _)
    obtain ⟨w2, hw2⟩ : ∃ x, w2a.setRow w1.heap.size #[.slice a n ca, .map (some ba)] = x := ⟨_, rfl⟩
    have P2 : Hid (w2.heap[w1.heap.size]? = some (.cells #[.slice a n ca, .map (some ba)] 82 (0, 0))) := Lib.hid (by rw [← hw2]; exact setRow_heap _ _ _ _ _ _ T2.out)
    have b2 : Below w1.heap.size w1 w2 := by rw [← hw2, ← hw2a]; exact below_setRow ((Below.refl _ _).alloc (Nat.le_refl _) _) (Nat.le_refl _) _
    have B2 := Lib.hid (B1.out.trans (b2.mono B1.out.size))
    have MA2 := Lib.hid (MA1.out.later b2)
    clear b2 MA1
    go_wp2_with (refine wpList_store_row rfl 82 _ _ rfl w1.heap.size #[.slice a n ca, .map (some ba)] rfl rfl 82 _ T2.out (pic_info _ rfl) rfl (row2_one _ _ _ _) ?_; rw [hw2])
    refine (YB.out _ B2.out).mono ?_
    rintro e w3 ⟨bb, rfl, hmb, bq⟩
    have B3 := Lib.hid (B2.out.trans (bq.mono B2.out.size))
    have MB3 := Lib.hid hmb
    have MA3 := Lib.hid (MA2.out.later bq)
    have P3 := Lib.hid ((bq.block _ (Array.getElem?_eq_some_iff.1 P2.out).1).trans P2.out)
    clear bq hmb YB MA2 P2 T2 hw2 hw2a
    obtain ⟨w4a, hw4a⟩ : ∃ x, w3.alloc (.cells #[.slice none 0 0, .map none] 82) = x := ⟨_, rfl⟩
    have T4 : Hid (w4a.heap[w3.heap.size]? = some (.cells #[.slice none 0 0, .map none] 82 (0, 0))) := Lib.hid (by rw [← hw4a]; exact World.alloc_heap_new w3 _)
    obtain ⟨w4, hw4⟩ : ∃ x, w4a.setRow w3.heap.size #[.slice b m cb, .map (some bb)] = x := ⟨_, rfl⟩
    have Q4 : Hid (w4.heap[w3.heap.size]? = some (.cells #[.slice b m cb, .map (some bb)] 82 (0, 0))) := Lib.hid (by rw [← hw4]; exact setRow_heap _ _ _ _ _ _ T4.out)
    have b4 : Below w3.heap.size w3 w4 := by rw [← hw4, ← hw4a]; exact below_setRow ((Below.refl _ _).alloc (Nat.le_refl _) _) (Nat.le_refl _) _
    have B4 := Lib.hid (B3.out.trans (b4.mono B3.out.size))
    have MA4 := Lib.hid (MA3.out.later b4)
    have MB4 := Lib.hid (MB3.out.later b4)
    have P4 := Lib.hid ((b4.block _ (Array.getElem?_eq_some_iff.1 P3.out).1).trans P3.out)
    clear b4 MA3 MB3 P3
    obtain ⟨w5, hw5⟩ : ∃ x, w4.alloc (.cells #[.int .i64 0, .int .i64 0] 2) = x := ⟨_, rfl⟩
    have T5 := World.alloc_heap_new w4 (.cells #[.int .i64 0, .int .i64 0] 2)
    rw [hw5] at T5
    have OR := Lib.hid (or64_any 0 0 w4.heap.size w5 (Lib.cell_of_heap T5 0) (Lib.cell_of_heap T5 1))
    rw [show orI 0 0 = 0 from rfl] at OR
    have B5 : Hid (Below w.heap.size w w5) := Lib.hid (by rw [← hw5]; exact B4.out.alloc B4.out.size _)
    have MA5 : Hid (MapM ba n (shF f n) w5) := Lib.hid (by rw [← hw5]; exact MA4.out.alloc _)
    have MB5 : Hid (MapM bb m (shF g m) w5) := Lib.hid (by rw [← hw5]; exact MB4.out.alloc _)
    have P5 : Hid (w5.heap[w1.heap.size]? = some (.cells #[.slice a n ca, .map (some ba)] 82 (0, 0))) := Lib.hid (by rw [← hw5]; exact (Below.heap_alloc _ _ _ (Array.getElem?_eq_some_iff.1 P4.out).1).trans P4.out)
    have Q5 : Hid (w5.heap[w3.heap.size]? = some (.cells #[.slice b m cb, .map (some bb)] 82 (0, 0))) := Lib.hid (by rw [← hw5]; exact (Below.heap_alloc _ _ _ (Array.getElem?_eq_some_iff.1 Q4.out).1).trans Q4.out)
    obtain ⟨w6, hw6⟩ : ∃ x, w5.alloc (.map #[] 0) = x := ⟨_, rfl⟩
    have MM6 : Hid (MapM w5.heap.size 0 (bbF MinusMasksG (shF f n) (shF g m) (catG f n g) 0) w6) := Lib.hid (by rw [← hw6]; exact MapM.made w5)
    have B6 : Hid (Below w.heap.size w w6) := Lib.hid (by rw [← hw6]; exact B5.out.alloc B5.out.size _)
    have MA6 : Hid (MapM ba n (shF f n) w6) := Lib.hid (by rw [← hw6]; exact MA5.out.alloc _)
    have MB6 : Hid (MapM bb m (shF g m) w6) := Lib.hid (by rw [← hw6]; exact MB5.out.alloc _)
    have P6 : Hid (w6.heap[w1.heap.size]? = some (.cells #[.slice a n ca, .map (some ba)] 82 (0, 0))) := Lib.hid (by rw [← hw6]; exact (Below.heap_alloc _ _ _ (Array.getElem?_eq_some_iff.1 P5.out).1).trans P5.out)
    have Q6 : Hid (w6.heap[w3.heap.size]? = some (.cells #[.slice b m cb, .map (some bb)] 82 (0, 0))) := Lib.hid (by rw [← hw6]; exact (Below.heap_alloc _ _ _ (Array.getElem?_eq_some_iff.1 Q5.out).1).trans Q5.out)
    have c1 : w6.cell? ⟨w1.heap.size, 0, none⟩ = some (.slice a n ca) := Lib.cell_of_heap P6.out 0
    have c2 : w6.cell? ⟨w3.heap.size, 0, none⟩ = some (.slice b m cb) := Lib.cell_of_heap Q6.out 0
    have LMA : Hid (ba < w5.heap.size) := Lib.hid MA5.out.lt
    have LMB : Hid (bb < w5.heap.size) := Lib.hid MB5.out.lt
    have LP1 : Hid (w1.heap.size < w5.heap.size) := Lib.hid (Array.getElem?_eq_some_iff.1 P5.out).1
    have LP3 : Hid (w3.heap.size < w5.heap.size) := Lib.hid (Array.getElem?_eq_some_iff.1 Q5.out).1
    have B5s := Lib.hid B5.out.size
    clear MA4 MB4 P4 Q4 MA5 MB5 P5 Q5 T5 B5
    obtain ⟨w7, hw7⟩ : ∃ x, w6.alloc (.cells #[.slice a n ca, .slice b m cb] 80) = x := ⟨_, rfl⟩
    have T7 := World.alloc_heap_new w6 (.cells #[.slice a n ca, .slice b m cb] 80)
    rw [hw7] at T7
    have B7 : Hid (Below w.heap.size w w7) := Lib.hid (by rw [← hw7]; exact B6.out.alloc B6.out.size _)
    have b67 : Below w6.heap.size w6 w7 := by rw [← hw7]; exact (Below.refl _ _).alloc (Nat.le_refl _) _
    have GC := Lib.hid (gconcat_any w6.heap.size a b n m ca cb f g (by have := N64.out; omega) (by have := M64.out; omega) w7 (Array.getElem?_eq_some_iff.1 T7).1 (Lib.cell_of_heap T7 0) (Lib.cell_of_heap T7 1) (RA.out.below B7.out B7.out.size) (RB.out.below B7.out B7.out.size))
    have MA7 := Lib.hid (MA6.out.later b67)
    have MB7 := Lib.hid (MB6.out.later b67)
    have MM7 := Lib.hid (MM6.out.later b67)
    have P7 := Lib.hid ((b67.block _ (Array.getElem?_eq_some_iff.1 P6.out).1).trans P6.out)
    have Q7 := Lib.hid ((b67.block _ (Array.getElem?_eq_some_iff.1 Q6.out).1).trans Q6.out)
    clear b67 T7 MA6 MB6 MM6 P6 Q6
    go_wp2_with (first | (refine wpList_store_row rfl 82 _ _ rfl w3.heap.size #[.slice b m cb, .map (some bb)] rfl rfl 82 _ T4.out (pic_info _ rfl) rfl (row2_one _ _ _ _) ?_; rw [hw4]) | ((with_reducible refine OR.out.mono ?_); rintro e w' ⟨rfl, rfl⟩))
    refine GC.out.mono ?_
    rintro e w8 ⟨v8, rfl, o8, bq⟩
    have B8 := Lib.hid (B7.out.trans (bq.mono B7.out.size))
    have O8 := Lib.hid o8
    have MA8 := Lib.hid (MA7.out.later bq)
    have MB8 := Lib.hid (MB7.out.later bq)
    have MM8 := Lib.hid (MM7.out.later bq)
    have P8 := Lib.hid ((bq.block _ (Array.getElem?_eq_some_iff.1 P7.out).1).trans P7.out)
    have Q8 := Lib.hid ((bq.block _ (Array.getElem?_eq_some_iff.1 Q7.out).1).trans Q7.out)
    obtain ⟨a8, c8, rfl⟩ := o8.len
    have R8 := Lib.hid o8.bl2
    have Z57 : Hid (w5.heap.size < w7.heap.size) := Lib.hid (by rw [← hw7, ← hw6]; simp; omega)
    clear bq o8 O8 GC MA7 MB7 MM7 P7 Q7 hw7 hw6 hw5 hw4 hw4a T4 c1 c2 OR B6 B7
    have LM8 : Hid (w5.heap.size < w8.heap.size) := Lib.hid MM8.out.lt
    obtain ⟨h, hh⟩ : ∃ h, catG f n g = h := ⟨_, rfl⟩
    rw [hh] at FB MM8 PKF OBF IO R8
    obtain ⟨A, hA⟩ : ∃ h, shF f n = h := ⟨_, rfl⟩
    obtain ⟨B, hB⟩ : ∃ h, shF g m = h := ⟨_, rfl⟩
    rw [hA] at AM MA8 MM8 PKF OBF IO
    rw [hB] at BM MB8 MM8 PKF OBF IO
    obtain ⟨N, hN⟩ : ∃ h, n + m = h := ⟨_, rfl⟩
    have hN2 : (n : Int) + (m : Int) = (N : Int) := by omega
    have NI : (N : Int) ≤ 128 := by omega
    rw [hN] at FB PKF OBF IO R8
    rw [hN]
    have HAE := Lib.hid hA
    have HBE := Lib.hid hB
    clear hh hA hB hN hN2
    go_wp2
    go_loopw [41] (fun vi wr => ∃ i : Nat, i ≤ N ∧ vi = .int .i64 (i : Int) ∧ Hid (MapM w5.heap.size i (bbF MinusMasksG A B h i) wr) ∧ Hid (w8.grownBy wr (some w5.heap.size)) ∧ Hid (Below w.heap.size w wr)) (fun vi _ => N - (intOf vi).toNat)
    case atStart => exact ⟨0, Nat.zero_le _, rfl, MM8, Lib.hid ⟨rfl, rfl, rfl, Nat.le_refl _, fun _ _ _ => rfl⟩, B8⟩
    case round =>
      obtain ⟨i, hi, rfl, M1, G1, BW⟩ := hrel
      by_cases hlt : i < N
      · have ti : (i : Int) < (N : Int) := by omega
        have HI := Lib.hid hlt
        obtain ⟨gg, rfl, hb, hgg, hc⟩ : ∃ g, a8 = some ⟨g, 0, none⟩ ∧ w7.heap.size ≤ g ∧ g < w8.heap.size ∧ ∀ j, j < 18 * N → w8.cell? ⟨g, j, none⟩ = some (bcell h j) := by
          rcases R8.out with h | h
          · omega
          · exact h
        have HCB : Hid (∀ j v, (blk h i)[j]? = some v → wr.cell? ⟨gg, i * 18 + j, none⟩ = some v) := Lib.hid fun j v e => by
          have hj : j < 18 := by
            have := (Array.getElem?_eq_some_iff.1 e).1
            rwa [blk_size] at this
          rw [World.cell?_of_block (G1.out.block gg hgg (by have := Z57.out; simp; omega)), hc (i * 18 + j) (by omega), ← blk_get h i j hj]
          exact e
        have A18 : Hid ((blk h i).size = 18) := Lib.hid (blk_size h i)
        have AO : Hid ((blk h i).all (·.oneCell') = true) := Lib.hid (bl_one _ _ _)
        have AE0 : Hid ((blk h i)[0]? = some (.int .i32 (h (i * 18)))) := Lib.hid rfl
        have AE1 : Hid ((blk h i)[1]? = some (.int .i32 (h (i * 18 + 1)))) := Lib.hid rfl
        obtain ⟨CP, CQ⟩ := blf_co FB.out hlt
        have HC32 := Lib.hid (⟨CP, CQ⟩ : I32 (h (i * 18)) ∧ I32 (h (i * 18 + 1)))
        have BST : Hid (bbF MinusMasksG A B h (i + 1) = putM (bbF MinusMasksG A B h i) (h (i * 18)) (h (i * 18 + 1)) (MinusMasksG (A (h (i * 18)) (h (i * 18 + 1))) (B (h (i * 18)) (h (i * 18 + 1))))) := Lib.hid rfl
        clear CP CQ hlt hi hc
        obtain ⟨X, hX⟩ : ∃ z, blk h i = z := ⟨_, rfl⟩
        rw [hX] at HCB A18 AO AE0 AE1
        obtain ⟨p, hp⟩ : ∃ z, h (i * 18) = z := ⟨_, rfl⟩
        obtain ⟨q, hq⟩ : ∃ z, h (i * 18 + 1) = z := ⟨_, rfl⟩
        rw [hp] at AE0 HC32 BST
        rw [hq] at AE1 HC32 BST
        clear hX hp hq
        obtain ⟨mm, hmx⟩ : ∃ z, MinusMasksG (A p q) (B p q) = z := ⟨_, rfl⟩
        have HOPX : Hid (∀ W, Calls Try.prog 76 #[.agg (M16 (A p q)), .agg (M16 (B p q))] W fun e w' => e = .returned (.agg (M16 mm)) ∧ Below W.heap.size W w') := Lib.hid fun W => by rw [← hmx]; exact HOP.out _ _ W (AM.out p q) (BM.out p q)
        rw [hmx] at BST
        clear hmx
        obtain ⟨w9, hw9⟩ : ∃ x, wr.alloc (.cells #[Value.int .i32 0, Value.int .i32 0, Value.int .u16 0, Value.int .u16 0, Value.int .u16 0, Value.int .u16 0, Value.int .u16 0, Value.int .u16 0, Value.int .u16 0, Value.int .u16 0, Value.int .u16 0, Value.int .u16 0, Value.int .u16 0, Value.int .u16 0, Value.int .u16 0, Value.int .u16 0, Value.int .u16 0, Value.int .u16 0] 73) = x := ⟨_, rfl⟩
        have T9 : Hid (w9.heap[wr.heap.size]? = some (.cells #[Value.int .i32 0, Value.int .i32 0, Value.int .u16 0, Value.int .u16 0, Value.int .u16 0, Value.int .u16 0, Value.int .u16 0, Value.int .u16 0, Value.int .u16 0, Value.int .u16 0, Value.int .u16 0, Value.int .u16 0, Value.int .u16 0, Value.int .u16 0, Value.int .u16 0, Value.int .u16 0, Value.int .u16 0, Value.int .u16 0] 73 (0, 0))) := Lib.hid (by rw [← hw9]; exact World.alloc_heap_new wr _)
        obtain ⟨w10, hw10⟩ : ∃ x, w9.setRow wr.heap.size X = x := ⟨_, rfl⟩
        have b10 : Below wr.heap.size wr w10 := by rw [← hw10, ← hw9]; exact below_setRow ((Below.refl _ _).alloc (Nat.le_refl _) _) (Nat.le_refl _) _
        have T10 : Hid (w10.heap[wr.heap.size]? = some (.cells X 73 (0, 0))) := Lib.hid (by rw [← hw10]; exact setRow_heap _ _ _ _ _ _ T9.out)
        have B10 := Lib.hid (BW.out.trans (b10.mono BW.out.size))
        have M10 := Lib.hid (M1.out.later b10)
        have MA10 : Hid (MapM ba n A w10) := Lib.hid ((MA8.out.kept G1.out (by have := LMA.out; simp; omega)).later b10)
        have MB10 : Hid (MapM bb m B w10) := Lib.hid ((MB8.out.kept G1.out (by have := LMB.out; simp; omega)).later b10)
        have PA : Hid (wr.heap[w1.heap.size]? = some (.cells #[.slice a n ca, .map (some ba)] 82 (0, 0))) := Lib.hid ((G1.out.block _ (Array.getElem?_eq_some_iff.1 P8.out).1 (by have := LP1.out; simp; omega)).trans P8.out)
        have QA : Hid (wr.heap[w3.heap.size]? = some (.cells #[.slice b m cb, .map (some bb)] 82 (0, 0))) := Lib.hid ((G1.out.block _ (Array.getElem?_eq_some_iff.1 Q8.out).1 (by have := LP3.out; simp; omega)).trans Q8.out)
        have G10 : Hid (w8.grownBy w10 (some w5.heap.size)) := Lib.hid (G1.out.andThen (below_grown b10) fun j hj => by cases hj)
        have HCX : Hid (∀ W, Below w10.heap.size w10 W → W.cell? ⟨wr.heap.size, 0, none⟩ = some (.int .i32 p) ∧ W.cell? ⟨wr.heap.size, 1, none⟩ = some (.int .i32 q) ∧ W.cell? ⟨w1.heap.size, 1, none⟩ = some (.map (some ba)) ∧ W.cell? ⟨w3.heap.size, 1, none⟩ = some (.map (some bb))) := Lib.hid fun W hW => by
          have h1 := (hW.block _ (Array.getElem?_eq_some_iff.1 T10.out).1).trans T10.out
          have h2a := (b10.block _ (Array.getElem?_eq_some_iff.1 PA.out).1).trans PA.out
          have h2 := (hW.block _ (Array.getElem?_eq_some_iff.1 h2a).1).trans h2a
          have h3a := (b10.block _ (Array.getElem?_eq_some_iff.1 QA.out).1).trans QA.out
          have h3 := (hW.block _ (Array.getElem?_eq_some_iff.1 h3a).1).trans h3a
          exact ⟨(Lib.cell_of_heap h1 0).trans AE0.out, (Lib.cell_of_heap h1 1).trans AE1.out, Lib.cell_of_heap h2 1, Lib.cell_of_heap h3 1⟩
        have LKA : Hid (∀ W, Below w10.heap.size w10 W → (Instr.lookup 65 (.map (some ba)) (.agg #[.int .i32 p, .int .i32 q]) false).run Try.prog W = .ok (.agg (M16 (A p q))) W) := Lib.hid fun W hW => (MA10.out.kept (below_grown hW) (by simp)).look p q HC32.out.1 HC32.out.2 _ Try.underlying65
        have LKB : Hid (∀ W, Below w10.heap.size w10 W → (Instr.lookup 65 (.map (some bb)) (.agg #[.int .i32 p, .int .i32 q]) false).run Try.prog W = .ok (.agg (M16 (B p q))) W) := Lib.hid fun W hW => (MB10.out.kept (below_grown hW) (by simp)).look p q HC32.out.1 HC32.out.2 _ Try.underlying65
        obtain ⟨X1, hX1⟩ : ∃ z, M16 (A p q) = z := ⟨_, rfl⟩
        obtain ⟨X2, hX2⟩ : ∃ z, M16 (B p q) = z := ⟨_, rfl⟩
        rw [hX1] at HOPX LKA
        rw [hX2] at HOPX LKB
        clear hX1 hX2 b10 MA10 MB10 PA QA M1 AE0 AE1 hb hgg
        have ASZ : Hid (X.size = (#[Value.int .i32 0, Value.int .i32 0, Value.int .u16 0, Value.int .u16 0, Value.int .u16 0, Value.int .u16 0, Value.int .u16 0, Value.int .u16 0, Value.int .u16 0, Value.int .u16 0, Value.int .u16 0, Value.int .u16 0, Value.int .u16 0, Value.int .u16 0, Value.int .u16 0, Value.int .u16 0, Value.int .u16 0, Value.int .u16 0] : Array Value).size) := Lib.hid (by rw [A18.out]; rfl)
        go_wp2_with (first | (refine wpList_load_part rfl 73 _ rfl gg (i * 18) rfl X _ HCB.out Try.underlying73 rfl (ib_info _ A18.out) ?_) | (refine wpList_store_row rfl 73 _ _ rfl wr.heap.size X rfl rfl 73 _ T9.out (ib_info _ A18.out) ASZ.out.symm AO.out ?_; rw [hw10]))
        have IMX : Hid (i < maxLen) := Lib.hid (by have := HI.out; unfold maxLen; omega)
        go_frame
        refine wp_region_inv (by kernel_rfl) (fun listed act W => listed.size = 16 ∧ ((listed.getD 15 false = false → Below w10.heap.size w10 W) ∧ (listed.getD 15 false = true → (∀ j, j < 15 → listed.getD j false = true) ∧ ∃ W0, Below w10.heap.size w10 W0 ∧ MapM w5.heap.size (i + 1) (putM (bbF MinusMasksG A B h i) p q mm) W ∧ W0.grownBy W (some w5.heap.size))) ∧ ∃ x0 x1 x2 x3 x4 x5 x6 x7 x8 x9 x10 x11 x12 x13 x14, act = { tmps := #[.slice a n ca, .slice b m cb, .func (.func 76) #[] #[], undef, undef, undef, .slice none 0 0, .int .i64 0, .pointer (some ⟨w1.heap.size, 0, none⟩), .int .i64 0, .pointer (some ⟨w3.heap.size, 0, none⟩), .int .i64 0, .int .i64 0, .map (some w5.heap.size), undef, .pointer (some ⟨wr.heap.size, 0, none⟩), .tuple #[.agg #[.slice a n ca, .map (some ba)], .int .i64 0], .slice a n ca, .tuple #[.agg #[.slice a n ca, .map (some ba)], .int .i64 0], .agg #[.slice a n ca, .map (some ba)], .int .i64 0, .tuple #[.agg #[.slice b m cb, .map (some bb)], .int .i64 0], .slice b m cb, .tuple #[.agg #[.slice b m cb, .map (some bb)], .int .i64 0], .agg #[.slice b m cb, .map (some bb)], .int .i64 0, .int .i64 0, .int .i64 0, .slice (some ⟨w4.heap.size, 0, none⟩) 2 2, .int .i64 0, .int .i64 0, .bool false, undef, .map (some w5.heap.size), .pointer (some ⟨w1.heap.size, 0, none⟩), .slice a n ca, .pointer (some ⟨w3.heap.size, 0, none⟩), .slice b m cb, .slice (some ⟨w6.heap.size, 0, none⟩) 2 2, .slice (some ⟨gg, 0, none⟩) N c8, .int .i64 (N : Int), .int .i64 (i : Int), .bool true, .pointer (some ⟨gg, i * 18, none⟩), .agg X, x0, x1, x2, x3, x4, x5, x6, x7, x8, x9, x10, x11, x12, x13, x14, u60, undef, undef, undef, undef], defers := [] } ∧ (listed.getD 0 false = true → x0 = .map (some w5.heap.size)) ∧ (listed.getD 1 false = true → x1 = .pointer (some ⟨wr.heap.size, 0, none⟩)) ∧ (listed.getD 2 false = true → x2 = .agg #[.int .i32 p, .int .i32 q]) ∧ (listed.getD 3 false = true → x3 = .func (.func 76) #[] #[]) ∧ (listed.getD 4 false = true → x4 = .pointer (some ⟨w1.heap.size, 1, none⟩)) ∧ (listed.getD 5 false = true → x5 = .map (some ba)) ∧ (listed.getD 6 false = true → x6 = .pointer (some ⟨wr.heap.size, 0, none⟩)) ∧ (listed.getD 7 false = true → x7 = .agg #[.int .i32 p, .int .i32 q]) ∧ (listed.getD 8 false = true → x8 = .agg X1) ∧ (listed.getD 9 false = true → x9 = .pointer (some ⟨w3.heap.size, 1, none⟩)) ∧ (listed.getD 10 false = true → x10 = .map (some bb)) ∧ (listed.getD 11 false = true → x11 = .pointer (some ⟨wr.heap.size, 0, none⟩)) ∧ (listed.getD 12 false = true → x12 = .agg #[.int .i32 p, .int .i32 q]) ∧ (listed.getD 13 false = true → x13 = .agg X2) ∧ (listed.getD 14 false = true → x14 = .agg (M16 mm))) (by kernel_rfl) ?h0z (fun _ _ _ h => h.1) ?hstepz ?hendz
        case h0z =>
          refine ⟨rfl, ⟨fun _ => (Below.refl _ _).drew, fun hq => absurd hq (by decide)⟩, _, _, _, _, _, _, _, _, _, _, _, _, _, _, _, rfl, ?_, ?_, ?_, ?_, ?_, ?_, ?_, ?_, ?_, ?_, ?_, ?_, ?_, ?_, ?_⟩ <;> (intro hq; exact absurd hq (by decide))
        case hstepz =>
          rintro listed act W ii oo ⟨hs, hB, x0, x1, x2, x3, x4, x5, x6, x7, x8, x9, x10, x11, x12, x13, x14, rfl, e0, e1, e2, e3, e4, e5, e6, e7, e8, e9, e10, e11, e12, e13, e14⟩ hun hio hpre
          have HB := Lib.hid hB
          have E0 := Lib.hid e0
          have E1 := Lib.hid e1
          have E2 := Lib.hid e2
          have E3 := Lib.hid e3
          have E4 := Lib.hid e4
          have E5 := Lib.hid e5
          have E6 := Lib.hid e6
          have E7 := Lib.hid e7
          have E8 := Lib.hid e8
          have E9 := Lib.hid e9
          have E10 := Lib.hid e10
          have E11 := Lib.hid e11
          have E12 := Lib.hid e12
          have E13 := Lib.hid e13
          have E14 := Lib.hid e14
          have HS := Lib.hid hs
          have HU := Lib.hid hun
          have PRE := Lib.hid hpre
          clear e0 e1 e2 e3 e4 e5 e6 e7 e8 e9 e10 e11 e12 e13 e14 hs hpre hB hun
          match ii, hio with
          | 0, hio =>
            clear hio
            have n15 : listed.getD 15 false = false := by
              cases hh15 : listed.getD 15 false with
              | false => rfl
              | true => exact absurd ((HB.out.2 hh15).1 0 (by decide)) (by rw [nlist HU.out]; decide)
            refine wpOp_by rfl fun KK HK => ?_
            go_wp2_with (fail)
            exact HK.out _ _ ⟨by rw [Array.size_setIfInBounds, HS.out], ⟨fun _ => (HB.out.1 n15), fun hq => absurd ((listed_set hq).resolve_left (by decide)) (by rw [n15]; decide)⟩, _, _, _, _, _, _, _, _, _, _, _, _, _, _, _, rfl, fun _ => rfl, fun hq => E1.out ((listed_set hq).resolve_left (by decide)), fun hq => E2.out ((listed_set hq).resolve_left (by decide)), fun hq => E3.out ((listed_set hq).resolve_left (by decide)), fun hq => E4.out ((listed_set hq).resolve_left (by decide)), fun hq => E5.out ((listed_set hq).resolve_left (by decide)), fun hq => E6.out ((listed_set hq).resolve_left (by decide)), fun hq => E7.out ((listed_set hq).resolve_left (by decide)), fun hq => E8.out ((listed_set hq).resolve_left (by decide)), fun hq => E9.out ((listed_set hq).resolve_left (by decide)), fun hq => E10.out ((listed_set hq).resolve_left (by decide)), fun hq => E11.out ((listed_set hq).resolve_left (by decide)), fun hq => E12.out ((listed_set hq).resolve_left (by decide)), fun hq => E13.out ((listed_set hq).resolve_left (by decide)), fun hq => E14.out ((listed_set hq).resolve_left (by decide))⟩
          | 1, hio =>
            clear hio
            have n15 : listed.getD 15 false = false := by
              cases hh15 : listed.getD 15 false with
              | false => rfl
              | true => exact absurd ((HB.out.2 hh15).1 1 (by decide)) (by rw [nlist HU.out]; decide)
            refine wpOp_by rfl fun KK HK => ?_
            go_wp2_with (fail)
            exact HK.out _ _ ⟨by rw [Array.size_setIfInBounds, HS.out], ⟨fun _ => (HB.out.1 n15), fun hq => absurd ((listed_set hq).resolve_left (by decide)) (by rw [n15]; decide)⟩, _, _, _, _, _, _, _, _, _, _, _, _, _, _, _, rfl, fun hq => E0.out ((listed_set hq).resolve_left (by decide)), fun _ => rfl, fun hq => E2.out ((listed_set hq).resolve_left (by decide)), fun hq => E3.out ((listed_set hq).resolve_left (by decide)), fun hq => E4.out ((listed_set hq).resolve_left (by decide)), fun hq => E5.out ((listed_set hq).resolve_left (by decide)), fun hq => E6.out ((listed_set hq).resolve_left (by decide)), fun hq => E7.out ((listed_set hq).resolve_left (by decide)), fun hq => E8.out ((listed_set hq).resolve_left (by decide)), fun hq => E9.out ((listed_set hq).resolve_left (by decide)), fun hq => E10.out ((listed_set hq).resolve_left (by decide)), fun hq => E11.out ((listed_set hq).resolve_left (by decide)), fun hq => E12.out ((listed_set hq).resolve_left (by decide)), fun hq => E13.out ((listed_set hq).resolve_left (by decide)), fun hq => E14.out ((listed_set hq).resolve_left (by decide))⟩
          | 2, hio =>
            simp only [List.getElem?_toArray, List.getElem?_cons_succ, List.getElem?_cons_zero, Option.some.injEq] at hio
            subst hio
            have p1 := PRE.out ⟨1, .data⟩ (by simp) rfl
            obtain rfl := E1.out p1
            have n15 : listed.getD 15 false = false := by
              cases hh15 : listed.getD 15 false with
              | false => rfl
              | true => exact absurd ((HB.out.2 hh15).1 2 (by decide)) (by rw [nlist HU.out]; decide)
            obtain ⟨cc0, cc1, -, -⟩ := HCX.out _ (HB.out.1 n15)
            refine wpOp_by rfl fun KK HK => ?_
            go_wp2_with (fail)
            exact HK.out _ _ ⟨by rw [Array.size_setIfInBounds, HS.out], ⟨fun _ => (HB.out.1 n15), fun hq => absurd ((listed_set hq).resolve_left (by decide)) (by rw [n15]; decide)⟩, _, _, _, _, _, _, _, _, _, _, _, _, _, _, _, rfl, fun hq => E0.out ((listed_set hq).resolve_left (by decide)), fun _ => rfl, fun _ => rfl, fun hq => E3.out ((listed_set hq).resolve_left (by decide)), fun hq => E4.out ((listed_set hq).resolve_left (by decide)), fun hq => E5.out ((listed_set hq).resolve_left (by decide)), fun hq => E6.out ((listed_set hq).resolve_left (by decide)), fun hq => E7.out ((listed_set hq).resolve_left (by decide)), fun hq => E8.out ((listed_set hq).resolve_left (by decide)), fun hq => E9.out ((listed_set hq).resolve_left (by decide)), fun hq => E10.out ((listed_set hq).resolve_left (by decide)), fun hq => E11.out ((listed_set hq).resolve_left (by decide)), fun hq => E12.out ((listed_set hq).resolve_left (by decide)), fun hq => E13.out ((listed_set hq).resolve_left (by decide)), fun hq => E14.out ((listed_set hq).resolve_left (by decide))⟩
          | 3, hio =>
            clear hio
            have n15 : listed.getD 15 false = false := by
              cases hh15 : listed.getD 15 false with
              | false => rfl
              | true => exact absurd ((HB.out.2 hh15).1 3 (by decide)) (by rw [nlist HU.out]; decide)
            refine wpOp_by rfl fun KK HK => ?_
            go_wp2_with (fail)
            exact HK.out _ _ ⟨by rw [Array.size_setIfInBounds, HS.out], ⟨fun _ => (HB.out.1 n15), fun hq => absurd ((listed_set hq).resolve_left (by decide)) (by rw [n15]; decide)⟩, _, _, _, _, _, _, _, _, _, _, _, _, _, _, _, rfl, fun hq => E0.out ((listed_set hq).resolve_left (by decide)), fun hq => E1.out ((listed_set hq).resolve_left (by decide)), fun hq => E2.out ((listed_set hq).resolve_left (by decide)), fun _ => rfl, fun hq => E4.out ((listed_set hq).resolve_left (by decide)), fun hq => E5.out ((listed_set hq).resolve_left (by decide)), fun hq => E6.out ((listed_set hq).resolve_left (by decide)), fun hq => E7.out ((listed_set hq).resolve_left (by decide)), fun hq => E8.out ((listed_set hq).resolve_left (by decide)), fun hq => E9.out ((listed_set hq).resolve_left (by decide)), fun hq => E10.out ((listed_set hq).resolve_left (by decide)), fun hq => E11.out ((listed_set hq).resolve_left (by decide)), fun hq => E12.out ((listed_set hq).resolve_left (by decide)), fun hq => E13.out ((listed_set hq).resolve_left (by decide)), fun hq => E14.out ((listed_set hq).resolve_left (by decide))⟩
          | 4, hio =>
            clear hio
            have n15 : listed.getD 15 false = false := by
              cases hh15 : listed.getD 15 false with
              | false => rfl
              | true => exact absurd ((HB.out.2 hh15).1 4 (by decide)) (by rw [nlist HU.out]; decide)
            refine wpOp_by rfl fun KK HK => ?_
            go_wp2_with (fail)
            exact HK.out _ _ ⟨by rw [Array.size_setIfInBounds, HS.out], ⟨fun _ => (HB.out.1 n15), fun hq => absurd ((listed_set hq).resolve_left (by decide)) (by rw [n15]; decide)⟩, _, _, _, _, _, _, _, _, _, _, _, _, _, _, _, rfl, fun hq => E0.out ((listed_set hq).resolve_left (by decide)), fun hq => E1.out ((listed_set hq).resolve_left (by decide)), fun hq => E2.out ((listed_set hq).resolve_left (by decide)), fun hq => E3.out ((listed_set hq).resolve_left (by decide)), fun _ => rfl, fun hq => E5.out ((listed_set hq).resolve_left (by decide)), fun hq => E6.out ((listed_set hq).resolve_left (by decide)), fun hq => E7.out ((listed_set hq).resolve_left (by decide)), fun hq => E8.out ((listed_set hq).resolve_left (by decide)), fun hq => E9.out ((listed_set hq).resolve_left (by decide)), fun hq => E10.out ((listed_set hq).resolve_left (by decide)), fun hq => E11.out ((listed_set hq).resolve_left (by decide)), fun hq => E12.out ((listed_set hq).resolve_left (by decide)), fun hq => E13.out ((listed_set hq).resolve_left (by decide)), fun hq => E14.out ((listed_set hq).resolve_left (by decide))⟩
          | 5, hio =>
            simp only [List.getElem?_toArray, List.getElem?_cons_succ, List.getElem?_cons_zero, Option.some.injEq] at hio
            subst hio
            have p4 := PRE.out ⟨4, .data⟩ (by simp) rfl
            obtain rfl := E4.out p4
            have n15 : listed.getD 15 false = false := by
              cases hh15 : listed.getD 15 false with
              | false => rfl
              | true => exact absurd ((HB.out.2 hh15).1 5 (by decide)) (by rw [nlist HU.out]; decide)
            obtain ⟨-, -, cc0, -⟩ := HCX.out _ (HB.out.1 n15)
            refine wpOp_by rfl fun KK HK => ?_
            go_wp2_with (fail)
            exact HK.out _ _ ⟨by rw [Array.size_setIfInBounds, HS.out], ⟨fun _ => (HB.out.1 n15), fun hq => absurd ((listed_set hq).resolve_left (by decide)) (by rw [n15]; decide)⟩, _, _, _, _, _, _, _, _, _, _, _, _, _, _, _, rfl, fun hq => E0.out ((listed_set hq).resolve_left (by decide)), fun hq => E1.out ((listed_set hq).resolve_left (by decide)), fun hq => E2.out ((listed_set hq).resolve_left (by decide)), fun hq => E3.out ((listed_set hq).resolve_left (by decide)), fun _ => rfl, fun _ => rfl, fun hq => E6.out ((listed_set hq).resolve_left (by decide)), fun hq => E7.out ((listed_set hq).resolve_left (by decide)), fun hq => E8.out ((listed_set hq).resolve_left (by decide)), fun hq => E9.out ((listed_set hq).resolve_left (by decide)), fun hq => E10.out ((listed_set hq).resolve_left (by decide)), fun hq => E11.out ((listed_set hq).resolve_left (by decide)), fun hq => E12.out ((listed_set hq).resolve_left (by decide)), fun hq => E13.out ((listed_set hq).resolve_left (by decide)), fun hq => E14.out ((listed_set hq).resolve_left (by decide))⟩
          | 6, hio =>
            clear hio
            have n15 : listed.getD 15 false = false := by
              cases hh15 : listed.getD 15 false with
              | false => rfl
              | true => exact absurd ((HB.out.2 hh15).1 6 (by decide)) (by rw [nlist HU.out]; decide)
            refine wpOp_by rfl fun KK HK => ?_
            go_wp2_with (fail)
            exact HK.out _ _ ⟨by rw [Array.size_setIfInBounds, HS.out], ⟨fun _ => (HB.out.1 n15), fun hq => absurd ((listed_set hq).resolve_left (by decide)) (by rw [n15]; decide)⟩, _, _, _, _, _, _, _, _, _, _, _, _, _, _, _, rfl, fun hq => E0.out ((listed_set hq).resolve_left (by decide)), fun hq => E1.out ((listed_set hq).resolve_left (by decide)), fun hq => E2.out ((listed_set hq).resolve_left (by decide)), fun hq => E3.out ((listed_set hq).resolve_left (by decide)), fun hq => E4.out ((listed_set hq).resolve_left (by decide)), fun hq => E5.out ((listed_set hq).resolve_left (by decide)), fun _ => rfl, fun hq => E7.out ((listed_set hq).resolve_left (by decide)), fun hq => E8.out ((listed_set hq).resolve_left (by decide)), fun hq => E9.out ((listed_set hq).resolve_left (by decide)), fun hq => E10.out ((listed_set hq).resolve_left (by decide)), fun hq => E11.out ((listed_set hq).resolve_left (by decide)), fun hq => E12.out ((listed_set hq).resolve_left (by decide)), fun hq => E13.out ((listed_set hq).resolve_left (by decide)), fun hq => E14.out ((listed_set hq).resolve_left (by decide))⟩
          | 7, hio =>
            simp only [List.getElem?_toArray, List.getElem?_cons_succ, List.getElem?_cons_zero, Option.some.injEq] at hio
            subst hio
            have p6 := PRE.out ⟨6, .data⟩ (by simp) rfl
            obtain rfl := E6.out p6
            have n15 : listed.getD 15 false = false := by
              cases hh15 : listed.getD 15 false with
              | false => rfl
              | true => exact absurd ((HB.out.2 hh15).1 7 (by decide)) (by rw [nlist HU.out]; decide)
            obtain ⟨cc0, cc1, -, -⟩ := HCX.out _ (HB.out.1 n15)
            refine wpOp_by rfl fun KK HK => ?_
            go_wp2_with (fail)
            exact HK.out _ _ ⟨by rw [Array.size_setIfInBounds, HS.out], ⟨fun _ => (HB.out.1 n15), fun hq => absurd ((listed_set hq).resolve_left (by decide)) (by rw [n15]; decide)⟩, _, _, _, _, _, _, _, _, _, _, _, _, _, _, _, rfl, fun hq => E0.out ((listed_set hq).resolve_left (by decide)), fun hq => E1.out ((listed_set hq).resolve_left (by decide)), fun hq => E2.out ((listed_set hq).resolve_left (by decide)), fun hq => E3.out ((listed_set hq).resolve_left (by decide)), fun hq => E4.out ((listed_set hq).resolve_left (by decide)), fun hq => E5.out ((listed_set hq).resolve_left (by decide)), fun _ => rfl, fun _ => rfl, fun hq => E8.out ((listed_set hq).resolve_left (by decide)), fun hq => E9.out ((listed_set hq).resolve_left (by decide)), fun hq => E10.out ((listed_set hq).resolve_left (by decide)), fun hq => E11.out ((listed_set hq).resolve_left (by decide)), fun hq => E12.out ((listed_set hq).resolve_left (by decide)), fun hq => E13.out ((listed_set hq).resolve_left (by decide)), fun hq => E14.out ((listed_set hq).resolve_left (by decide))⟩
          | 8, hio =>
            simp only [List.getElem?_toArray, List.getElem?_cons_succ, List.getElem?_cons_zero, Option.some.injEq] at hio
            subst hio
            have p5 := PRE.out ⟨5, .data⟩ (by simp) rfl
            have p7 := PRE.out ⟨7, .data⟩ (by simp) rfl
            obtain rfl := E5.out p5
            obtain rfl := E7.out p7
            have n15 : listed.getD 15 false = false := by
              cases hh15 : listed.getD 15 false with
              | false => rfl
              | true => exact absurd ((HB.out.2 hh15).1 8 (by decide)) (by rw [nlist HU.out]; decide)
            have lk := LKA.out W (HB.out.1 n15)
            refine wpOp_by rfl fun KK HK => ?_
            go_wp2_with (fail)
            exact HK.out _ _ ⟨by rw [Array.size_setIfInBounds, HS.out], ⟨fun _ => (HB.out.1 n15), fun hq => absurd ((listed_set hq).resolve_left (by decide)) (by rw [n15]; decide)⟩, _, _, _, _, _, _, _, _, _, _, _, _, _, _, _, rfl, fun hq => E0.out ((listed_set hq).resolve_left (by decide)), fun hq => E1.out ((listed_set hq).resolve_left (by decide)), fun hq => E2.out ((listed_set hq).resolve_left (by decide)), fun hq => E3.out ((listed_set hq).resolve_left (by decide)), fun hq => E4.out ((listed_set hq).resolve_left (by decide)), fun _ => rfl, fun hq => E6.out ((listed_set hq).resolve_left (by decide)), fun _ => rfl, fun _ => rfl, fun hq => E9.out ((listed_set hq).resolve_left (by decide)), fun hq => E10.out ((listed_set hq).resolve_left (by decide)), fun hq => E11.out ((listed_set hq).resolve_left (by decide)), fun hq => E12.out ((listed_set hq).resolve_left (by decide)), fun hq => E13.out ((listed_set hq).resolve_left (by decide)), fun hq => E14.out ((listed_set hq).resolve_left (by decide))⟩
          | 9, hio =>
            clear hio
            have n15 : listed.getD 15 false = false := by
              cases hh15 : listed.getD 15 false with
              | false => rfl
              | true => exact absurd ((HB.out.2 hh15).1 9 (by decide)) (by rw [nlist HU.out]; decide)
            refine wpOp_by rfl fun KK HK => ?_
            go_wp2_with (fail)
            exact HK.out _ _ ⟨by rw [Array.size_setIfInBounds, HS.out], ⟨fun _ => (HB.out.1 n15), fun hq => absurd ((listed_set hq).resolve_left (by decide)) (by rw [n15]; decide)⟩, _, _, _, _, _, _, _, _, _, _, _, _, _, _, _, rfl, fun hq => E0.out ((listed_set hq).resolve_left (by decide)), fun hq => E1.out ((listed_set hq).resolve_left (by decide)), fun hq => E2.out ((listed_set hq).resolve_left (by decide)), fun hq => E3.out ((listed_set hq).resolve_left (by decide)), fun hq => E4.out ((listed_set hq).resolve_left (by decide)), fun hq => E5.out ((listed_set hq).resolve_left (by decide)), fun hq => E6.out ((listed_set hq).resolve_left (by decide)), fun hq => E7.out ((listed_set hq).resolve_left (by decide)), fun hq => E8.out ((listed_set hq).resolve_left (by decide)), fun _ => rfl, fun hq => E10.out ((listed_set hq).resolve_left (by decide)), fun hq => E11.out ((listed_set hq).resolve_left (by decide)), fun hq => E12.out ((listed_set hq).resolve_left (by decide)), fun hq => E13.out ((listed_set hq).resolve_left (by decide)), fun hq => E14.out ((listed_set hq).resolve_left (by decide))⟩
          | 10, hio =>
            simp only [List.getElem?_toArray, List.getElem?_cons_succ, List.getElem?_cons_zero, Option.some.injEq] at hio
            subst hio
            have p9 := PRE.out ⟨9, .data⟩ (by simp) rfl
            obtain rfl := E9.out p9
            have n15 : listed.getD 15 false = false := by
              cases hh15 : listed.getD 15 false with
              | false => rfl
              | true => exact absurd ((HB.out.2 hh15).1 10 (by decide)) (by rw [nlist HU.out]; decide)
            obtain ⟨-, -, -, cc0⟩ := HCX.out _ (HB.out.1 n15)
            refine wpOp_by rfl fun KK HK => ?_
            go_wp2_with (fail)
            exact HK.out _ _ ⟨by rw [Array.size_setIfInBounds, HS.out], ⟨fun _ => (HB.out.1 n15), fun hq => absurd ((listed_set hq).resolve_left (by decide)) (by rw [n15]; decide)⟩, _, _, _, _, _, _, _, _, _, _, _, _, _, _, _, rfl, fun hq => E0.out ((listed_set hq).resolve_left (by decide)), fun hq => E1.out ((listed_set hq).resolve_left (by decide)), fun hq => E2.out ((listed_set hq).resolve_left (by decide)), fun hq => E3.out ((listed_set hq).resolve_left (by decide)), fun hq => E4.out ((listed_set hq).resolve_left (by decide)), fun hq => E5.out ((listed_set hq).resolve_left (by decide)), fun hq => E6.out ((listed_set hq).resolve_left (by decide)), fun hq => E7.out ((listed_set hq).resolve_left (by decide)), fun hq => E8.out ((listed_set hq).resolve_left (by decide)), fun _ => rfl, fun _ => rfl, fun hq => E11.out ((listed_set hq).resolve_left (by decide)), fun hq => E12.out ((listed_set hq).resolve_left (by decide)), fun hq => E13.out ((listed_set hq).resolve_left (by decide)), fun hq => E14.out ((listed_set hq).resolve_left (by decide))⟩
          | 11, hio =>
            clear hio
            have n15 : listed.getD 15 false = false := by
              cases hh15 : listed.getD 15 false with
              | false => rfl
              | true => exact absurd ((HB.out.2 hh15).1 11 (by decide)) (by rw [nlist HU.out]; decide)
            refine wpOp_by rfl fun KK HK => ?_
            go_wp2_with (fail)
            exact HK.out _ _ ⟨by rw [Array.size_setIfInBounds, HS.out], ⟨fun _ => (HB.out.1 n15), fun hq => absurd ((listed_set hq).resolve_left (by decide)) (by rw [n15]; decide)⟩, _, _, _, _, _, _, _, _, _, _, _, _, _, _, _, rfl, fun hq => E0.out ((listed_set hq).resolve_left (by decide)), fun hq => E1.out ((listed_set hq).resolve_left (by decide)), fun hq => E2.out ((listed_set hq).resolve_left (by decide)), fun hq => E3.out ((listed_set hq).resolve_left (by decide)), fun hq => E4.out ((listed_set hq).resolve_left (by decide)), fun hq => E5.out ((listed_set hq).resolve_left (by decide)), fun hq => E6.out ((listed_set hq).resolve_left (by decide)), fun hq => E7.out ((listed_set hq).resolve_left (by decide)), fun hq => E8.out ((listed_set hq).resolve_left (by decide)), fun hq => E9.out ((listed_set hq).resolve_left (by decide)), fun hq => E10.out ((listed_set hq).resolve_left (by decide)), fun _ => rfl, fun hq => E12.out ((listed_set hq).resolve_left (by decide)), fun hq => E13.out ((listed_set hq).resolve_left (by decide)), fun hq => E14.out ((listed_set hq).resolve_left (by decide))⟩
          | 12, hio =>
            simp only [List.getElem?_toArray, List.getElem?_cons_succ, List.getElem?_cons_zero, Option.some.injEq] at hio
            subst hio
            have p11 := PRE.out ⟨11, .data⟩ (by simp) rfl
            obtain rfl := E11.out p11
            have n15 : listed.getD 15 false = false := by
              cases hh15 : listed.getD 15 false with
              | false => rfl
              | true => exact absurd ((HB.out.2 hh15).1 12 (by decide)) (by rw [nlist HU.out]; decide)
            obtain ⟨cc0, cc1, -, -⟩ := HCX.out _ (HB.out.1 n15)
            refine wpOp_by rfl fun KK HK => ?_
            go_wp2_with (fail)
            exact HK.out _ _ ⟨by rw [Array.size_setIfInBounds, HS.out], ⟨fun _ => (HB.out.1 n15), fun hq => absurd ((listed_set hq).resolve_left (by decide)) (by rw [n15]; decide)⟩, _, _, _, _, _, _, _, _, _, _, _, _, _, _, _, rfl, fun hq => E0.out ((listed_set hq).resolve_left (by decide)), fun hq => E1.out ((listed_set hq).resolve_left (by decide)), fun hq => E2.out ((listed_set hq).resolve_left (by decide)), fun hq => E3.out ((listed_set hq).resolve_left (by decide)), fun hq => E4.out ((listed_set hq).resolve_left (by decide)), fun hq => E5.out ((listed_set hq).resolve_left (by decide)), fun hq => E6.out ((listed_set hq).resolve_left (by decide)), fun hq => E7.out ((listed_set hq).resolve_left (by decide)), fun hq => E8.out ((listed_set hq).resolve_left (by decide)), fun hq => E9.out ((listed_set hq).resolve_left (by decide)), fun hq => E10.out ((listed_set hq).resolve_left (by decide)), fun _ => rfl, fun _ => rfl, fun hq => E13.out ((listed_set hq).resolve_left (by decide)), fun hq => E14.out ((listed_set hq).resolve_left (by decide))⟩
          | 13, hio =>
            simp only [List.getElem?_toArray, List.getElem?_cons_succ, List.getElem?_cons_zero, Option.some.injEq] at hio
            subst hio
            have p10 := PRE.out ⟨10, .data⟩ (by simp) rfl
            have p12 := PRE.out ⟨12, .data⟩ (by simp) rfl
            obtain rfl := E10.out p10
            obtain rfl := E12.out p12
            have n15 : listed.getD 15 false = false := by
              cases hh15 : listed.getD 15 false with
              | false => rfl
              | true => exact absurd ((HB.out.2 hh15).1 13 (by decide)) (by rw [nlist HU.out]; decide)
            have lk := LKB.out W (HB.out.1 n15)
            refine wpOp_by rfl fun KK HK => ?_
            go_wp2_with (fail)
            exact HK.out _ _ ⟨by rw [Array.size_setIfInBounds, HS.out], ⟨fun _ => (HB.out.1 n15), fun hq => absurd ((listed_set hq).resolve_left (by decide)) (by rw [n15]; decide)⟩, _, _, _, _, _, _, _, _, _, _, _, _, _, _, _, rfl, fun hq => E0.out ((listed_set hq).resolve_left (by decide)), fun hq => E1.out ((listed_set hq).resolve_left (by decide)), fun hq => E2.out ((listed_set hq).resolve_left (by decide)), fun hq => E3.out ((listed_set hq).resolve_left (by decide)), fun hq => E4.out ((listed_set hq).resolve_left (by decide)), fun hq => E5.out ((listed_set hq).resolve_left (by decide)), fun hq => E6.out ((listed_set hq).resolve_left (by decide)), fun hq => E7.out ((listed_set hq).resolve_left (by decide)), fun hq => E8.out ((listed_set hq).resolve_left (by decide)), fun hq => E9.out ((listed_set hq).resolve_left (by decide)), fun _ => rfl, fun hq => E11.out ((listed_set hq).resolve_left (by decide)), fun _ => rfl, fun _ => rfl, fun hq => E14.out ((listed_set hq).resolve_left (by decide))⟩
          | 14, hio =>
            simp only [List.getElem?_toArray, List.getElem?_cons_succ, List.getElem?_cons_zero, Option.some.injEq] at hio
            subst hio
            have p3 := PRE.out ⟨3, .data⟩ (by simp) rfl
            have p8 := PRE.out ⟨8, .data⟩ (by simp) rfl
            have p13 := PRE.out ⟨13, .data⟩ (by simp) rfl
            obtain rfl := E3.out p3
            obtain rfl := E8.out p8
            obtain rfl := E13.out p13
            have n15 : listed.getD 15 false = false := by
              cases hh15 : listed.getD 15 false with
              | false => rfl
              | true => exact absurd ((HB.out.2 hh15).1 14 (by decide)) (by rw [nlist HU.out]; decide)
            refine wpOp_by rfl fun KK HK => ?_
            go_wp2_with fail
            refine Calls.mono (HOPX.out _) ?_
            rintro e W' ⟨rfl, bq⟩
            go_wp2
            exact HK.out _ _ ⟨by rw [Array.size_setIfInBounds, HS.out], ⟨fun _ => ((HB.out.1 n15).trans (bq.mono (HB.out.1 n15).size)), fun hq => absurd ((listed_set hq).resolve_left (by decide)) (by rw [n15]; decide)⟩, _, _, _, _, _, _, _, _, _, _, _, _, _, _, _, rfl, fun hq => E0.out ((listed_set hq).resolve_left (by decide)), fun hq => E1.out ((listed_set hq).resolve_left (by decide)), fun hq => E2.out ((listed_set hq).resolve_left (by decide)), fun _ => rfl, fun hq => E4.out ((listed_set hq).resolve_left (by decide)), fun hq => E5.out ((listed_set hq).resolve_left (by decide)), fun hq => E6.out ((listed_set hq).resolve_left (by decide)), fun hq => E7.out ((listed_set hq).resolve_left (by decide)), fun _ => rfl, fun hq => E9.out ((listed_set hq).resolve_left (by decide)), fun hq => E10.out ((listed_set hq).resolve_left (by decide)), fun hq => E11.out ((listed_set hq).resolve_left (by decide)), fun hq => E12.out ((listed_set hq).resolve_left (by decide)), fun _ => rfl, fun _ => rfl⟩
          | 15, hio =>
            simp only [List.getElem?_toArray, List.getElem?_cons_succ, List.getElem?_cons_zero, Option.some.injEq] at hio
            subst hio
            have p0 := PRE.out ⟨0, .data⟩ (by simp) rfl
            have p2 := PRE.out ⟨2, .data⟩ (by simp) rfl
            have p14 := PRE.out ⟨14, .data⟩ (by simp) rfl
            obtain rfl := E0.out p0
            obtain rfl := E2.out p2
            obtain rfl := E14.out p14
            have n15 : listed.getD 15 false = false := nlist HU.out
            have PH : Hid (∀ j, j < 15 → listed.getD j false = true) := Lib.hid fun j hj => by
              match j, hj with
              | 0, _ => exact PRE.out ⟨0, .phase⟩ (by simp) rfl
              | 1, _ => exact PRE.out ⟨1, .phase⟩ (by simp) rfl
              | 2, _ => exact PRE.out ⟨2, .phase⟩ (by simp) rfl
              | 3, _ => exact PRE.out ⟨3, .phase⟩ (by simp) rfl
              | 4, _ => exact PRE.out ⟨4, .phase⟩ (by simp) rfl
              | 5, _ => exact PRE.out ⟨5, .phase⟩ (by simp) rfl
              | 6, _ => exact PRE.out ⟨6, .phase⟩ (by simp) rfl
              | 7, _ => exact PRE.out ⟨7, .phase⟩ (by simp) rfl
              | 8, _ => exact PRE.out ⟨8, .phase⟩ (by simp) rfl
              | 9, _ => exact PRE.out ⟨9, .phase⟩ (by simp) rfl
              | 10, _ => exact PRE.out ⟨10, .phase⟩ (by simp) rfl
              | 11, _ => exact PRE.out ⟨11, .phase⟩ (by simp) rfl
              | 12, _ => exact PRE.out ⟨12, .phase⟩ (by simp) rfl
              | 13, _ => exact PRE.out ⟨13, .phase⟩ (by simp) rfl
              | 14, _ => exact PRE.out ⟨14, .phase⟩ (by simp) rfl
              | k + 15, h => exact absurd h (by omega)
            refine wpOp_by rfl fun KK HK => ?_
            go_wp2_with ((refine wpList_mapUpdate_m rfl _ _ _ 65 rfl Try.underlying65 w5.heap.size i (bbF MinusMasksG A B h i) rfl (M10.out.kept (below_grown (HB.out.1 n15)) (by simp)) IMX.out p q HC32.out.1 HC32.out.2 mm rfl rfl ?_; intro W9 hM9 hg9))
            exact HK.out _ _ ⟨by rw [Array.size_setIfInBounds, HS.out], ⟨fun hq => absurd hq (by simp [Array.getD_eq_getD_getElem?, HS.out]), fun _ => ⟨fun j hj => set_keeps (PH.out j hj), W, HB.out.1 n15, hM9, hg9⟩⟩, _, _, _, _, _, _, _, _, _, _, _, _, _, _, _, rfl, fun _ => rfl, fun hq => E1.out ((listed_set hq).resolve_left (by decide)), fun _ => rfl, fun hq => E3.out ((listed_set hq).resolve_left (by decide)), fun hq => E4.out ((listed_set hq).resolve_left (by decide)), fun hq => E5.out ((listed_set hq).resolve_left (by decide)), fun hq => E6.out ((listed_set hq).resolve_left (by decide)), fun hq => E7.out ((listed_set hq).resolve_left (by decide)), fun hq => E8.out ((listed_set hq).resolve_left (by decide)), fun hq => E9.out ((listed_set hq).resolve_left (by decide)), fun hq => E10.out ((listed_set hq).resolve_left (by decide)), fun hq => E11.out ((listed_set hq).resolve_left (by decide)), fun hq => E12.out ((listed_set hq).resolve_left (by decide)), fun hq => E13.out ((listed_set hq).resolve_left (by decide)), fun _ => rfl⟩
          | k + 16, hio => simp at hio
        case hendz =>
          rintro listed act W1 ⟨hs, hB, x0, x1, x2, x3, x4, x5, x6, x7, x8, x9, x10, x11, x12, x13, x14, rfl, e0, e1, e2, e3, e4, e5, e6, e7, e8, e9, e10, e11, e12, e13, e14⟩ hall
          obtain rfl := e0 (hall 0 (by decide))
          obtain rfl := e1 (hall 1 (by decide))
          obtain rfl := e2 (hall 2 (by decide))
          obtain rfl := e3 (hall 3 (by decide))
          obtain rfl := e4 (hall 4 (by decide))
          obtain rfl := e5 (hall 5 (by decide))
          obtain rfl := e6 (hall 6 (by decide))
          obtain rfl := e7 (hall 7 (by decide))
          obtain rfl := e8 (hall 8 (by decide))
          obtain rfl := e9 (hall 9 (by decide))
          obtain rfl := e10 (hall 10 (by decide))
          obtain rfl := e11 (hall 11 (by decide))
          obtain rfl := e12 (hall 12 (by decide))
          obtain rfl := e13 (hall 13 (by decide))
          obtain rfl := e14 (hall 14 (by decide))
          obtain ⟨-, W0, hW0, hM0, hg0⟩ := hB.2 (hall 15 (by decide))
          clear hs
          have MF : Hid (MapM w5.heap.size (i + 1) (bbF MinusMasksG A B h (i + 1)) W1) := Lib.hid (by rw [BST.out]; exact hM0)
          have GF1 : Hid (w8.grownBy W1 (some w5.heap.size)) := Lib.hid ((G10.out.andThen (below_grown hW0) fun j hj => by cases hj).andThen hg0 fun j hj => .inr hj)
          have BF : Hid (Below w.heap.size w W1) := Lib.hid ((B10.out.trans (hW0.mono B10.out.size)).trans ⟨hg0.os, hg0.tape, hg0.output, hg0.size, fun k hk => hg0.block k (by have := B10.out.size; have := hW0.size; omega) (by have := B5s.out; simp; omega)⟩)
          clear hM0 hg0 hW0 hB
          go_wp2
          go_roundw
          case rel => exact ⟨i + 1, HI.out, by go_num, MF, GF1, BF⟩
          case measure => have := HI.out; simp [intOf]; omega
      · have ti : ¬ (i : Int) < (N : Int) := by omega
        have eN : N = i := by omega
        have MF : Hid (MapM w5.heap.size N (bbF MinusMasksG A B h N) wr) := Lib.hid (by rw [eN]; exact M1.out)
        clear eN
        clear hlt hi
        go_wp2_with fail
        refine (IO.out _ wr MF.out).mono ?_
        rintro e wf ⟨vf, rfl, ho, bq⟩
        have BF := Lib.hid (BW.out.trans (bq.mono BW.out.size))
        have OF := Lib.hid (OBF.out _ _ _ _ (ho.mono BW.out.size))
        clear ho bq
        go_wp2
        exact bodyPost_ret (v := .tuple #[vf, .int .i64 (ioC K0)]) (by simp [results, Try.results70, go_sem]) rfl ⟨_, rfl, by rw [HAE.out, HBE.out]; exact OF.out, BF.out⟩
theorem bbZMinus (j : Nat) (_ : j < 16) : MinusMasksG zI zI j = 0 := by
  show bits .andNot .u16 0 0 = 0
  decide
set_option maxRecDepth 20000 in
theorem iMinusPic_any (SB : SortsB) (a b : Option Addr) (n m ca cb : Nat) (f g : Nat → Int) (K0 : List (Int × Int)) (w : World) (hn : n ≤ 1048576) (hm : m ≤ 1048576) (ha : BlR w.heap.size w a n f) (hb : BlR w.heap.size w b m g) (hf : BlF n f) (hg : BlF m g) (hK : bbV f n g m = true → PicK (GF MinusMasksG (shF f n) (shF g m)) K0) :
    Calls Try.prog 35 #[.slice a n ca, .slice b m cb] w (BbPost MinusMasksG f n g m K0 w) := by
  have BB := Lib.hid (bbMinus_any SB a b n m ca cb f g K0 w hn hm ha hb hf hg (fun x y W hx hy => iMinusMasks_any x y hx hy W) bbZMinus hK)
  unfold BbPost at BB ⊢
  clear hn hm ha hb hf hg hK SB
  go_enter Try.func35, Try.ntmps35
  go_wp2_with fail
  refine BB.out.mono ?_
  rintro e w1 ⟨v, rfl, ho, bq⟩
  have OH := Lib.hid ho
  have BH := Lib.hid bq
  clear ho bq BB
  go_wp2
  exact bodyPost_ret (v := .tuple #[v, .int .i64 (bbC f n g m K0)]) (by simp [results, Try.results35, go_sem]) rfl ⟨_, rfl, OH.out, BH.out⟩
end Go.Proofs.Ythfmkejdpflpcaa
