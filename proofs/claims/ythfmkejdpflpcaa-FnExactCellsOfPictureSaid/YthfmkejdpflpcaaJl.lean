/-
  CONTRACT: CellsOfPicture by the program, given its sort.
-/
import Derived.Test.YthfmkejdpflpcaaJk
namespace Go.Proofs.Ythfmkejdpflpcaa
open Go.ChangeShapes Go.WideShapes Go.ChangeAt Go.RowKit
set_option maxRecDepth 20000 in
set_option maxHeartbeats 8000000 in
theorem iCellsPic_any (SF : SortsP) (a : Option Addr) (n cap : Nat) (f : Nat → Int) (w : World) (hn : n ≤ 1048576) (h : BlR w.heap.size w a n f) (hf : BlF n f) :
    Calls Try.prog 26 #[.slice a n cap] w (CqPost f n w) := by
  unfold CqPost
  cases hv : validP f n with
  | false =>
    have NO := Lib.hid (readP_no a n cap f w hn h hf hv)
    have E2 : cqC f n = 1 := by unfold cqC; rw [hv]; exact if_neg (by decide)
    rw [E2]
    clear hv E2 h hf hn SF
    go_enter Try.func26, Try.ntmps26
    go_wp2_with fail
    refine NO.out.mono ?_
    rintro e w1 ⟨rfl, b⟩
    have B1 := Lib.hid b
    clear b NO
    obtain ⟨w2, hw2⟩ : ∃ x, w1.alloc (.cells #[.slice none 0 0, .map none] 82) = x := ⟨_, rfl⟩
    have R2 : Hid (w2.heap[w1.heap.size]? = some (.cells #[.slice none 0 0, .map none] 82 (0, 0))) := Lib.hid (by rw [← hw2]; exact World.alloc_heap_new w1 _)
    have SR : Hid (w2.setRow w1.heap.size #[.slice none 0 0, .map none] = w2) := Lib.hid (setRow_self _ _ _ _ _ R2.out)
    have B2 : Hid (Below w.heap.size w w2) := Lib.hid (by rw [← hw2]; exact B1.out.alloc B1.out.size _)
    go_wp2_with (refine wpList_store_row rfl 82 _ _ rfl w1.heap.size #[.slice none 0 0, .map none] rfl rfl 82 _ R2.out (pic_info _ rfl) rfl (row2_one _ _ _ _) ?_; rw [SR.out])
    exact bodyPost_ret (v := .tuple #[.slice none 0 0, .int .i64 1]) (by simp [results, Try.results26, go_sem]) rfl ⟨_, [], rfl, fun h => absurd h (by decide), fun _ => rfl, by decide, World.ownsRow_nil _ _ _ _, B2.out⟩
  | true =>
    have YES := Lib.hid (readP_yes a n cap f w hn h hf hv)
    have CN : Hid (∀ W, Below w.heap.size w W → Calls Try.prog 65 #[.slice a n cap] W fun e w' => e = .returned (.int .i64 (cntF f n : Int)) ∧ Below W.heap.size W w') := Lib.hid fun W hW => icount_any a n cap f W (validP_le hv) (h.below hW hW.size) hf
    have CE : Hid (∀ W, Below w.heap.size w W → Calls Try.prog 66 #[.slice a n cap] W fun e w' => ∃ v L, e = .returned v ∧ IsC f n L ∧ OW W.heap.size v L w' ∧ Below W.heap.size W w') := Lib.hid fun W hW => (callsIn_wide.1 (icellsP_in Fence.wide rfl 3 (Nat.le_refl _) a n cap f W hv (h.below hW hW.size) hf SF)).mono fun e w' ⟨v, L, he, h1, h2, h3, h4⟩ => ⟨v, L, he, ⟨h1, h2⟩, h3, h4⟩
    have HC := cntF_le f n
    have h64 := validP_le hv
    have cB : (cntF f n : Int) ≤ 16384 := by omega
    have E3 : cqC f n = if cntF f n ≤ 1024 then 0 else 3 := by unfold cqC; rw [hv]; rfl
    have HL : Hid (∀ L, IsC f n L → L.length = cntF f n) := Lib.hid fun L h => h.len
    rw [E3]
    clear hv h hf hn HC h64 E3 SF
    generalize cntF f n = c at CN HL cB ⊢
    by_cases hc : c ≤ 1024
    · have tc : (c : Int) ≤ 1024 := by omega
      have HCC := Lib.hid hc
      rw [if_pos hc]
      clear hc
      go_enter Try.func26, Try.ntmps26
      go_wp2_with fail
      refine YES.out.mono ?_
      rintro e w1 ⟨b0, rfl, hm, b⟩
      have B1 := Lib.hid b
      clear b YES hm
      obtain ⟨w2, hw2⟩ : ∃ x, w1.alloc (.cells #[.slice none 0 0, .map none] 82) = x := ⟨_, rfl⟩
      have T2 : Hid (w2.heap[w1.heap.size]? = some (.cells #[.slice none 0 0, .map none] 82 (0, 0))) := Lib.hid (by rw [← hw2]; exact World.alloc_heap_new w1 _)
      obtain ⟨w3, hw3⟩ : ∃ x, w2.setRow w1.heap.size #[.slice a n cap, .map (some b0)] = x := ⟨_, rfl⟩
      have R3 : Hid (w3.heap[w1.heap.size]? = some (.cells #[.slice a n cap, .map (some b0)] 82 (0, 0))) := Lib.hid (by rw [← hw3]; exact setRow_heap _ _ _ _ _ _ T2.out)
      have b3 : Below w1.heap.size w1 w3 := by rw [← hw3, ← hw2]; exact below_setRow ((Below.refl _ _).alloc (Nat.le_refl _) _) (Nat.le_refl _) _
      have B3 := Lib.hid (B1.out.trans (b3.mono B1.out.size))
      have c0 : w3.cell? ⟨w1.heap.size, 0, none⟩ = some (.slice a n cap) := Lib.cell_of_heap R3.out 0
      clear b3
      go_wp2_with (refine wpList_store_row rfl 82 _ _ rfl w1.heap.size #[.slice a n cap, .map (some b0)] rfl rfl 82 _ T2.out (pic_info _ rfl) rfl (row2_one _ _ _ _) ?_; rw [hw3])
      refine (CN.out _ B3.out).mono ?_
      rintro e w4 ⟨rfl, b⟩
      have B4 := Lib.hid (B3.out.trans (b.mono B3.out.size))
      have LT : w1.heap.size < w3.heap.size := (Array.getElem?_eq_some_iff.1 R3.out).1
      have c4 : w4.cell? ⟨w1.heap.size, 0, none⟩ = some (.slice a n cap) := (b.cell (p := ⟨w1.heap.size, 0, none⟩) LT).trans c0
      clear b
      go_wp2_with fail
      refine (CE.out _ B4.out).mono ?_
      rintro e w5 ⟨v, L, rfl, hL, ho, b⟩
      have B5 := Lib.hid (B4.out.trans (b.mono B4.out.size))
      have O5 := Lib.hid (ow_mono B4.out.size ho)
      have L5 := Lib.hid hL
      clear b CE ho hL
      go_wp2
      exact bodyPost_ret (v := .tuple #[v, .int .i64 0]) (by simp [results, Try.results26, go_sem]) rfl ⟨_, L, rfl, fun _ => L5.out, fun h => absurd rfl h, by rw [HL.out L L5.out]; exact HCC.out, O5.out, B5.out⟩
    · have tc : (1024 : Int) < (c : Int) := by omega
      rw [if_neg hc]
      clear hc
      go_enter Try.func26, Try.ntmps26
      go_wp2_with fail
      refine YES.out.mono ?_
      rintro e w1 ⟨b0, rfl, hm, b⟩
      have B1 := Lib.hid b
      clear b YES hm
      obtain ⟨w2, hw2⟩ : ∃ x, w1.alloc (.cells #[.slice none 0 0, .map none] 82) = x := ⟨_, rfl⟩
      have T2 : Hid (w2.heap[w1.heap.size]? = some (.cells #[.slice none 0 0, .map none] 82 (0, 0))) := Lib.hid (by rw [← hw2]; exact World.alloc_heap_new w1 _)
      obtain ⟨w3, hw3⟩ : ∃ x, w2.setRow w1.heap.size #[.slice a n cap, .map (some b0)] = x := ⟨_, rfl⟩
      have R3 : Hid (w3.heap[w1.heap.size]? = some (.cells #[.slice a n cap, .map (some b0)] 82 (0, 0))) := Lib.hid (by rw [← hw3]; exact setRow_heap _ _ _ _ _ _ T2.out)
      have b3 : Below w1.heap.size w1 w3 := by rw [← hw3, ← hw2]; exact below_setRow ((Below.refl _ _).alloc (Nat.le_refl _) _) (Nat.le_refl _) _
      have B3 := Lib.hid (B1.out.trans (b3.mono B1.out.size))
      have c0 : w3.cell? ⟨w1.heap.size, 0, none⟩ = some (.slice a n cap) := Lib.cell_of_heap R3.out 0
      clear b3
      go_wp2_with (refine wpList_store_row rfl 82 _ _ rfl w1.heap.size #[.slice a n cap, .map (some b0)] rfl rfl 82 _ T2.out (pic_info _ rfl) rfl (row2_one _ _ _ _) ?_; rw [hw3])
      refine (CN.out _ B3.out).mono ?_
      rintro e w4 ⟨rfl, b⟩
      have B4 := Lib.hid (B3.out.trans (b.mono B3.out.size))
      have LT : w1.heap.size < w3.heap.size := (Array.getElem?_eq_some_iff.1 R3.out).1
      have c4 : w4.cell? ⟨w1.heap.size, 0, none⟩ = some (.slice a n cap) := (b.cell (p := ⟨w1.heap.size, 0, none⟩) LT).trans c0
      clear b
      go_wp2
      exact bodyPost_ret (v := .tuple #[.slice none 0 0, .int .i64 3]) (by simp [results, Try.results26, go_sem]) rfl ⟨_, [], rfl, fun h => absurd h (by decide), fun _ => rfl, by decide, World.ownsRow_nil _ _ _ _, B4.out⟩
end Go.Proofs.Ythfmkejdpflpcaa
