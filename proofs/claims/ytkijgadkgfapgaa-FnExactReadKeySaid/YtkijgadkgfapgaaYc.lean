/-
  CONTRACTS: the key of a mask, by the specification.
-/
import Derived.Test.YtkijgadkgfapgaaYb
namespace Go.Proofs.Ytkijgadkgfapgaa
open Go.ChangeShapes Go.WideShapes Go.ChangeAt Go.RowKit
/-- a key of which the first k bytes of both numbers are there -/
def setK (x y : Int) (k : Nat) : Nat → Int := fun j => if j < k then byL x j else if 8 ≤ j ∧ j < 8 + k then byL y (j - 8) else 0
theorem setK_zero (x y : Int) : setK x y 0 = zI := by
  funext j
  unfold setK zI
  rw [if_neg (by omega), if_neg (by omega)]
theorem setK_step (x y : Int) (k : Nat) (hk : k < 8) : updI (updI (setK x y k) k (byL x k)) (8 + k) (byL y k) = setK x y (k + 1) := by
  funext j
  unfold updI setK
  by_cases h1 : j = 8 + k
  · subst h1
    rw [if_pos rfl, if_neg (by omega), if_pos (by omega), Nat.add_sub_cancel_left]
  · rw [if_neg h1]
    by_cases h2 : j = k
    · subst h2
      rw [if_pos rfl, if_pos (by omega)]
    · rw [if_neg h2]
      by_cases h3 : j < k
      · rw [if_pos h3, if_pos (by omega)]
      · rw [if_neg h3]
        by_cases h4 : 8 ≤ j ∧ j < 8 + k
        · rw [if_pos h4, if_neg (show ¬ j < k + 1 by omega), if_pos (show 8 ≤ j ∧ j < 8 + (k + 1) by omega)]
        · rw [if_neg h4, if_neg (show ¬ j < k + 1 by omega), if_neg (show ¬ (8 ≤ j ∧ j < 8 + (k + 1)) by omega)]
theorem setK_all (x y : Int) : Q16 (setK x y 8) = Q16 (catU (byL x) 8 (byL y)) := by
  apply arr_congr
  intro j hj
  unfold setK catU
  by_cases h : j < 8
  · rw [if_pos h, if_pos h]
  · rw [if_neg h, if_neg h, if_pos (by omega)]
theorem zK_is16 : #[Value.int .u8 0, Value.int .u8 0, Value.int .u8 0, Value.int .u8 0, Value.int .u8 0, Value.int .u8 0, Value.int .u8 0, Value.int .u8 0, Value.int .u8 0, Value.int .u8 0, Value.int .u8 0, Value.int .u8 0, Value.int .u8 0, Value.int .u8 0, Value.int .u8 0, Value.int .u8 0] = Q16 zI := rfl
theorem byL_at (x : Int) : ∀ k : Nat, k < 8 → x / 2 ^ (56 - 8 * k) % 256 = byL x k := by
  intro k hk
  match k, hk with
  | 0, _ => rfl
  | 1, _ => rfl
  | 2, _ => rfl
  | 3, _ => rfl
  | 4, _ => rfl
  | 5, _ => rfl
  | 6, _ => rfl
  | 7, _ => simp [byL]
  | k + 8, h => omega
set_option maxRecDepth 20000 in
set_option maxHeartbeats 4000000 in
theorem l10Key_any (f : Nat → Int) (hf : MB f) (g : Nat) (w : World) (hg : w.heap[g]? = some (.cells (arr .u16 16 f) 27 (0, 0))) :
    Calls Try.prog 54 #[.pointer (some ⟨g, 0, none⟩)] w fun e w' => e = .returned (.agg (Q16 (keyM f))) ∧ Below w.heap.size w w' := by
  have GL : Hid (g < w.heap.size) := Lib.hid (Array.getElem?_eq_some_iff.1 hg).1
  obtain ⟨w1, hw1⟩ : ∃ w1, w.alloc (.cells #[Value.int .u8 0, Value.int .u8 0, Value.int .u8 0, Value.int .u8 0, Value.int .u8 0, Value.int .u8 0, Value.int .u8 0, Value.int .u8 0, Value.int .u8 0, Value.int .u8 0, Value.int .u8 0, Value.int .u8 0, Value.int .u8 0, Value.int .u8 0, Value.int .u8 0, Value.int .u8 0] 25) = w1 := ⟨_, rfl⟩
  have B0 : Hid (Below w.heap.size w w1) := Lib.hid (by rw [← hw1]; exact (Below.refl _ w).alloc (Nat.le_refl _) _)
  have H0 : Hid (w1.heap[g]? = some (.cells (arr .u16 16 f) 27 (0, 0))) := Lib.hid (by rw [← hw1]; exact (Below.heap_alloc _ _ _ GL.out).trans hg)
  have H1 : Hid (w1.heap[w.heap.size]? = some (.cells #[Value.int .u8 0, Value.int .u8 0, Value.int .u8 0, Value.int .u8 0, Value.int .u8 0, Value.int .u8 0, Value.int .u8 0, Value.int .u8 0, Value.int .u8 0, Value.int .u8 0, Value.int .u8 0, Value.int .u8 0, Value.int .u8 0, Value.int .u8 0, Value.int .u8 0, Value.int .u8 0] 25 (0, 0))) := Lib.hid (by rw [← hw1]; exact World.alloc_heap_new w _)
  have CC : Hid (∀ k, k < 16 → w1.cell? ⟨g, k, none⟩ = some (.int .u16 (f k))) := Lib.hid fun k hk => (Lib.cell_of_heap H0.out k).trans (arr_get _ _ _ _ hk)
  have HF := Lib.hid hf
  have MM : Hid (keyM f = catU (byL (kF 14695981039346656037 1099511628211 f 16)) 8 (byL (kF 7809847782465536322 6364136223846793005 f 16))) := Lib.hid rfl
  have XZ : Hid (kF 14695981039346656037 1099511628211 f 0 = 14695981039346656037) := Lib.hid rfl
  have XS : Hid (∀ k, kF 14695981039346656037 1099511628211 f (k + 1) = kS 1099511628211 (kF 14695981039346656037 1099511628211 f k) (f k)) := Lib.hid fun _ => rfl
  have XI := Lib.hid (kF_in 14695981039346656037 1099511628211 f (by constructor <;> decide))
  have YZ : Hid (kF 7809847782465536322 6364136223846793005 f 0 = 7809847782465536322) := Lib.hid rfl
  have YS : Hid (∀ k, kF 7809847782465536322 6364136223846793005 f (k + 1) = kS 6364136223846793005 (kF 7809847782465536322 6364136223846793005 f k) (f k)) := Lib.hid fun _ => rfl
  have YI := Lib.hid (kF_in 7809847782465536322 6364136223846793005 f (by constructor <;> decide))
  rw [MM.out]
  generalize kF 14695981039346656037 1099511628211 f = X at XZ XS XI ⊢
  generalize kF 7809847782465536322 6364136223846793005 f = Y at YZ YS YI ⊢
  clear hf hg MM
  go_enter Try.func54, Try.ntmps54
  go_wp2_with fail
  clear hw1
  go_loop [3, 4, 5] (fun x y i => ∃ k : Nat, k ≤ 16 ∧ i = .int .i64 (k : Int) ∧ x = .int .u64 (X k) ∧ y = .int .u64 (Y k)) (fun _ _ i => 16 - (intOf i).toNat)
  case atStart => exact ⟨0, by omega, rfl, by rw [XZ.out], by rw [YZ.out]⟩
  case round =>
    obtain ⟨k, hk, rfl, rfl, rfl⟩ := hrel
    by_cases hlt : k < 16
    · have tk : (k : Int) < 16 := by omega
      have HK := Lib.hid hlt
      have c0 := CC.out k hlt
      obtain ⟨m0, m1⟩ := HF.out k hlt
      have SX := Lib.hid (XS.out k)
      have SY := Lib.hid (YS.out k)
      have x0 := (XI.out k).1
      have y0 := (YI.out k).1
      have X1 := Lib.hid (XI.out k).2
      have Y1 := Lib.hid (YI.out k).2
      obtain ⟨x, hx⟩ : ∃ x, X k = x := ⟨_, rfl⟩
      obtain ⟨y, hy⟩ : ∃ x, Y k = x := ⟨_, rfl⟩
      obtain ⟨m, hm⟩ : ∃ m, f k = m := ⟨_, rfl⟩
      rw [hx] at x0 X1 SX
      rw [hy] at y0 Y1 SY
      rw [hm] at c0 m0 m1 SX SY
      rw [hx, hy]
      clear hx hy hm hlt hk
      unfold kS at SX SY
      go_wp2
      go_round
      case rel => exact ⟨k + 1, HK.out, by go_num, by rw [SX.out], by rw [SY.out]⟩
      case measure => have := HK.out; simp [intOf]; omega
    · obtain rfl : k = 16 := by omega
      clear hlt hk
      have x0 := (XI.out 16).1
      have y0 := (YI.out 16).1
      have X1 := Lib.hid (XI.out 16).2
      have Y1 := Lib.hid (YI.out 16).2
      obtain ⟨x, hx⟩ : ∃ x, X 16 = x := ⟨_, rfl⟩
      obtain ⟨y, hy⟩ : ∃ x, Y 16 = x := ⟨_, rfl⟩
      have HX := Lib.hid hx
      have HY := Lib.hid hy
      rw [hx] at x0 X1
      rw [hy] at y0 Y1
      rw [hx, hy]
      clear hx hy
      go_wp2_with fail
      have EZ : Hid (#[Value.int .u8 0, Value.int .u8 0, Value.int .u8 0, Value.int .u8 0, Value.int .u8 0, Value.int .u8 0, Value.int .u8 0, Value.int .u8 0, Value.int .u8 0, Value.int .u8 0, Value.int .u8 0, Value.int .u8 0, Value.int .u8 0, Value.int .u8 0, Value.int .u8 0, Value.int .u8 0] = Q16 (setK x y 0)) := Lib.hid (by rw [setK_zero]; exact zK_is16)
      have H2 : Hid ((w1.alloc (.cells #[Value.int .u8 0, Value.int .u8 0, Value.int .u8 0, Value.int .u8 0, Value.int .u8 0, Value.int .u8 0, Value.int .u8 0, Value.int .u8 0, Value.int .u8 0, Value.int .u8 0, Value.int .u8 0, Value.int .u8 0, Value.int .u8 0, Value.int .u8 0, Value.int .u8 0, Value.int .u8 0] 25)).heap[w1.heap.size]? = some (.cells (Q16 (setK x y 0)) 25 (0, 0))) := Lib.hid (by rw [EZ.out]; exact World.alloc_heap_new w1 _)
      have L1 : Hid (w.heap.size < w1.heap.size) := Lib.hid (Array.getElem?_eq_some_iff.1 H1.out).1
      have H3 : Hid ((w1.alloc (.cells #[Value.int .u8 0, Value.int .u8 0, Value.int .u8 0, Value.int .u8 0, Value.int .u8 0, Value.int .u8 0, Value.int .u8 0, Value.int .u8 0, Value.int .u8 0, Value.int .u8 0, Value.int .u8 0, Value.int .u8 0, Value.int .u8 0, Value.int .u8 0, Value.int .u8 0, Value.int .u8 0] 25)).heap[w.heap.size]? = some (.cells #[Value.int .u8 0, Value.int .u8 0, Value.int .u8 0, Value.int .u8 0, Value.int .u8 0, Value.int .u8 0, Value.int .u8 0, Value.int .u8 0, Value.int .u8 0, Value.int .u8 0, Value.int .u8 0, Value.int .u8 0, Value.int .u8 0, Value.int .u8 0, Value.int .u8 0, Value.int .u8 0] 25 (0, 0))) := Lib.hid ((Below.heap_alloc _ _ _ L1.out).trans H1.out)
      have B1 : Hid (Below w.heap.size w (w1.alloc (.cells #[Value.int .u8 0, Value.int .u8 0, Value.int .u8 0, Value.int .u8 0, Value.int .u8 0, Value.int .u8 0, Value.int .u8 0, Value.int .u8 0, Value.int .u8 0, Value.int .u8 0, Value.int .u8 0, Value.int .u8 0, Value.int .u8 0, Value.int .u8 0, Value.int .u8 0, Value.int .u8 0] 25))) := Lib.hid (B0.out.alloc (Nat.le_of_lt L1.out) _)
      have ST := Lib.hid (setK_step x y)
      have SA := Lib.hid (setK_all x y)
      have BX := Lib.hid (byL_at x)
      have BY := Lib.hid (byL_at y)
      generalize w1.alloc (.cells #[Value.int .u8 0, Value.int .u8 0, Value.int .u8 0, Value.int .u8 0, Value.int .u8 0, Value.int .u8 0, Value.int .u8 0, Value.int .u8 0, Value.int .u8 0, Value.int .u8 0, Value.int .u8 0, Value.int .u8 0, Value.int .u8 0, Value.int .u8 0, Value.int .u8 0, Value.int .u8 0] 25) = w2 at H2 H3 B1 ⊢
      generalize w1.heap.size = b at H2 L1 ⊢
      clear EZ H0 H1 B0 CC
      go_loopw [7] (fun i wr => ∃ k : Nat, k ≤ 8 ∧ i = .int .i64 (k : Int) ∧ wr.heap[b]? = some (.cells (Q16 (setK x y k)) 25 (0, 0)) ∧ wr.heap[w.heap.size]? = some (.cells #[Value.int .u8 0, Value.int .u8 0, Value.int .u8 0, Value.int .u8 0, Value.int .u8 0, Value.int .u8 0, Value.int .u8 0, Value.int .u8 0, Value.int .u8 0, Value.int .u8 0, Value.int .u8 0, Value.int .u8 0, Value.int .u8 0, Value.int .u8 0, Value.int .u8 0, Value.int .u8 0] 25 (0, 0)) ∧ Below w.heap.size w wr) (fun i _ => 8 - (intOf i).toNat)
      case atStart => exact ⟨0, by omega, rfl, H2.out, H3.out, B1.out⟩
      case round =>
        obtain ⟨k, hk, rfl, h2, h3, hB⟩ := hrel
        have K2 := Lib.hid h2
        have K3 := Lib.hid h3
        have KB := Lib.hid hB
        clear h2 h3 hB H2 H3 B1
        by_cases hlt : k < 8
        · have tk : (k : Int) < 8 := by omega
          have HK := Lib.hid hlt
          have c1 : wr.cell? ⟨b, k, none⟩ = some (.int .u8 (setK x y k k)) := (Lib.cell_of_heap K2.out k).trans (arr_get _ _ _ _ (by omega))
          have c2 : wr.cell? ⟨b, 8 + k, none⟩ = some (.int .u8 (setK x y k (8 + k))) := (Lib.cell_of_heap K2.out (8 + k)).trans (arr_get _ _ _ _ (by omega))
          have f1 : wr.frozen? ⟨b, k, none⟩ = false := Lib.frozen_of_heap K2.out k
          have f2 : wr.frozen? ⟨b, 8 + k, none⟩ = false := Lib.frozen_of_heap K2.out (8 + k)
          have tn : ((8 : Int) + (k : Int)).toNat = 8 + k := by omega
          have t16 : (8 : Int) + (k : Int) < 16 := by omega
          generalize setK x y k k = v1 at c1
          generalize setK x y k (8 + k) = v2 at c2
          have s1 : 8 * (k : Int) ≤ 56 := by omega
          have bx := BX.out k hlt
          have bY := BY.out k hlt
          obtain ⟨zx, hzx⟩ : ∃ z, byL x k = z := ⟨_, rfl⟩
          obtain ⟨zy, hzy⟩ : ∃ z, byL y k = z := ⟨_, rfl⟩
          have SK := Lib.hid (ST.out k hlt)
          rw [hzx] at bx SK
          rw [hzy] at bY SK
          clear hlt hk hzx hzy
          go_wp2
          go_roundw
          case rel => exact ⟨k + 1, HK.out, by go_num, by rw [fset_at (fset_at K2.out k _), arr_set _ _ _ _ _ (by have := HK.out; omega), arr_set _ _ _ _ _ (by have := HK.out; omega), SK.out], by rw [fset_far (by have := L1.out; omega), fset_far (by have := L1.out; omega)]; exact K3.out, (KB.out.setCell (p := ⟨b, _, none⟩) (by have := L1.out; simp; omega) _).setCell (p := ⟨b, _, none⟩) (by have := L1.out; simp; omega) _⟩
          case measure => have := HK.out; simp [intOf]; omega
        · obtain rfl : k = 8 := by omega
          have R : Hid (Q16 (catU (byL (X 16)) 8 (byL (Y 16))) = Q16 (setK x y 8)) := Lib.hid (by rw [HX.out, HY.out, SA.out])
          clear hk hlt
          generalize setK x y 8 = m at K2 R
          go_wp2_with (first | (refine wpList_load_row rfl 25 _ rfl b rfl 25 _ _ _ K2.out Try.underlying25 rfl (ky_info _ (arr_size _ _ _)) ?_) | (refine wpList_store_row rfl 25 _ _ rfl w.heap.size (Q16 m) rfl rfl 25 _ K3.out (ky_info _ rfl) rfl (arr_cells _ _ _) ?_))
          refine bodyPost_ret (v := .agg (Q16 m)) ?_ rfl ⟨by rw [R.out], ?_⟩
          · exact results_cell_row Try.results54 _ _ w.heap.size _ _ _ _ rfl (setRow_heap _ _ _ _ _ _ K3.out) Try.underlying25 rfl (ky_info _ (arr_size _ _ _))
          · exact below_setRow KB.out (by omega) _
set_option maxRecDepth 20000 in
set_option maxHeartbeats 4000000 in
theorem sKey_any (f : Nat → Int) (hf : MB f) (w : World) :
    Calls Try.prog 12 #[.agg (arr .u16 16 f)] w fun e w' => e = .returned (.agg (Q16 (keyM f))) ∧ Below w.heap.size w w' := by
  obtain ⟨w1, hw1⟩ : ∃ w1, (w.alloc (.cells (arr .u16 16 f) 27)).alloc (.cells #[Value.int .u8 0, Value.int .u8 0, Value.int .u8 0, Value.int .u8 0, Value.int .u8 0, Value.int .u8 0, Value.int .u8 0, Value.int .u8 0, Value.int .u8 0, Value.int .u8 0, Value.int .u8 0, Value.int .u8 0, Value.int .u8 0, Value.int .u8 0, Value.int .u8 0, Value.int .u8 0] 25) = w1 := ⟨_, rfl⟩
  have B0 : Hid (Below w.heap.size w w1) := Lib.hid (by rw [← hw1]; exact ((Below.refl _ w).alloc (Nat.le_refl _) _).alloc (by simp) _)
  have H0 : Hid (w1.heap[w.heap.size]? = some (.cells (arr .u16 16 f) 27 (0, 0))) := Lib.hid (by rw [← hw1]; exact (Below.heap_alloc _ _ _ (by simp)).trans (World.alloc_heap_new w _))
  have H1 : Hid (w1.heap[w.heap.size + 1]? = some (.cells #[Value.int .u8 0, Value.int .u8 0, Value.int .u8 0, Value.int .u8 0, Value.int .u8 0, Value.int .u8 0, Value.int .u8 0, Value.int .u8 0, Value.int .u8 0, Value.int .u8 0, Value.int .u8 0, Value.int .u8 0, Value.int .u8 0, Value.int .u8 0, Value.int .u8 0, Value.int .u8 0] 25 (0, 0))) := Lib.hid (by
    rw [← hw1]
    have := World.alloc_heap_new (w.alloc (.cells (arr .u16 16 f) 27)) (.cells #[Value.int .u8 0, Value.int .u8 0, Value.int .u8 0, Value.int .u8 0, Value.int .u8 0, Value.int .u8 0, Value.int .u8 0, Value.int .u8 0, Value.int .u8 0, Value.int .u8 0, Value.int .u8 0, Value.int .u8 0, Value.int .u8 0, Value.int .u8 0, Value.int .u8 0, Value.int .u8 0] 25)
    rw [World.size_alloc] at this
    exact this)
  have HL : Hid (w.heap.size + 1 < w1.heap.size) := Lib.hid (Array.getElem?_eq_some_iff.1 H1.out).1
  have LK := Lib.hid (l10Key_any f hf w.heap.size w1 H0.out)
  generalize keyM f = m at LK ⊢
  clear hf H0
  go_enter Try.func12, Try.ntmps12
  go_wp2_with fail
  clear hw1
  refine LK.out.mono ?_
  rintro e w2 ⟨rfl, b2⟩
  have G1 := Lib.hid ((b2.block (w.heap.size + 1) HL.out).trans H1.out)
  have GB := Lib.hid (B0.out.trans (b2.mono (by have := HL.out; omega)))
  clear b2
  go_wp2_with (refine wpList_store_row rfl 25 _ _ rfl (w.heap.size + 1) (Q16 m) rfl rfl 25 _ G1.out (ky_info _ rfl) rfl (arr_cells _ _ _) ?_)
  refine bodyPost_ret (v := .agg (Q16 m)) ?_ rfl ⟨rfl, ?_⟩
  · exact results_cell_row Try.results12 _ _ (w.heap.size + 1) _ _ _ _ rfl (setRow_heap _ _ _ _ _ _ G1.out) Try.underlying25 rfl (ky_info _ (arr_size _ _ _))
  · exact below_setRow GB.out (by omega) _
end Go.Proofs.Ytkijgadkgfapgaa
