/-
  CONTRACTS: the key of a mask, on both sides; keys as the laws copy and compare them.
-/
import Derived.Test.YtkijgadkgfapgaaYa
namespace Go.Proofs.Ytkijgadkgfapgaa
open Go.ChangeShapes Go.WideShapes Go.ChangeAt Go.RowKit
theorem ky_info (A : Array Value) (h : A.size = 16) : (Try.prog.info? 25).map (·.size) = some A.size := by rw [h]; kernel_rfl
theorem ownY_below {w w' : World} {base : Nat} {e : TypeId} {size : Nat} {v : Value} {n : Nat} {xs : List Value} (h : w.ownsRow base e size v n xs) (hb : Below w.heap.size w w') : w'.ownsRow base e size v n xs := by
  have hl := h.lt
  refine ⟨h.1, ?_⟩
  rcases h.2 with h0 | ⟨g, cap, cur, rfl, h1, h2, h3⟩
  · exact .inl h0
  · exact .inr ⟨g, cap, cur, rfl, h1, (hb.block g (hl g rfl).2).trans h2, h3⟩
set_option maxRecDepth 20000 in
set_option maxHeartbeats 4000000 in
theorem iKey_any (f : Nat → Int) (hf : MB f) (w : World) :
    Calls Try.prog 14 #[.agg (arr .u16 16 f)] w fun e w' => e = .returned (.agg (Q16 (keyM f))) ∧ Below w.heap.size w w' := by
  obtain ⟨w1, hw1⟩ : ∃ w1, (w.alloc (.cells (arr .u16 16 f) 27)).alloc (.cells #[Value.int .u8 0, Value.int .u8 0, Value.int .u8 0, Value.int .u8 0, Value.int .u8 0, Value.int .u8 0, Value.int .u8 0, Value.int .u8 0, Value.int .u8 0, Value.int .u8 0, Value.int .u8 0, Value.int .u8 0, Value.int .u8 0, Value.int .u8 0, Value.int .u8 0, Value.int .u8 0] 25) = w1 := ⟨_, rfl⟩
  have B0 : Hid (Below w.heap.size w w1) := Lib.hid (by rw [← hw1]; exact ((Below.refl _ w).alloc (Nat.le_refl _) _).alloc (by simp) _)
  have H0 : Hid (w1.heap[w.heap.size]? = some (.cells (arr .u16 16 f) 27 (0, 0))) := Lib.hid (by rw [← hw1]; exact (Below.heap_alloc _ _ _ (by simp)).trans (World.alloc_heap_new w _))
  have H1 : Hid (w1.heap[w.heap.size + 1]? = some (.cells #[Value.int .u8 0, Value.int .u8 0, Value.int .u8 0, Value.int .u8 0, Value.int .u8 0, Value.int .u8 0, Value.int .u8 0, Value.int .u8 0, Value.int .u8 0, Value.int .u8 0, Value.int .u8 0, Value.int .u8 0, Value.int .u8 0, Value.int .u8 0, Value.int .u8 0, Value.int .u8 0] 25 (0, 0))) := Lib.hid (by
    rw [← hw1]
    have := World.alloc_heap_new (w.alloc (.cells (arr .u16 16 f) 27)) (.cells #[Value.int .u8 0, Value.int .u8 0, Value.int .u8 0, Value.int .u8 0, Value.int .u8 0, Value.int .u8 0, Value.int .u8 0, Value.int .u8 0, Value.int .u8 0, Value.int .u8 0, Value.int .u8 0, Value.int .u8 0, Value.int .u8 0, Value.int .u8 0, Value.int .u8 0, Value.int .u8 0] 25)
    rw [World.size_alloc] at this
    exact this)
  have HL : Hid (w.heap.size + 1 < w1.heap.size) := Lib.hid (Array.getElem?_eq_some_iff.1 H1.out).1
  have KP := Lib.hid (fun s c hs base w hb => keyPart_any f hf s c hs base w hb)
  have P1 := Lib.hid (KP.out 14695981039346656037 1099511628211 (by constructor <;> decide))
  have P2 := Lib.hid (KP.out 7809847782465536322 6364136223846793005 (by constructor <;> decide))
  have MM : Hid (keyM f = catU (byL (kF 14695981039346656037 1099511628211 f 16)) 8 (byL (kF 7809847782465536322 6364136223846793005 f 16))) := Lib.hid rfl
  rw [MM.out]
  obtain ⟨k1, hk1⟩ : ∃ k, byL (kF 14695981039346656037 1099511628211 f 16) = k := ⟨_, rfl⟩
  obtain ⟨k2, hk2⟩ : ∃ k, byL (kF 7809847782465536322 6364136223846793005 f 16) = k := ⟨_, rfl⟩
  rw [hk1] at P1 ⊢
  rw [hk2] at P2 ⊢
  obtain ⟨m, hm⟩ : ∃ m, catU k1 8 k2 = m := ⟨_, rfl⟩
  rw [hm]
  have HM := Lib.hid hm
  have GS := Lib.hid (arr_size .u16 16 f)
  clear hm hk1 hk2 MM KP hf
  generalize arr .u16 16 f = A at hw1 H0 P1 P2 GS ⊢
  go_enter Try.func14, Try.ntmps14
  go_wp2_with (refine wpList_load_row rfl 27 _ rfl w.heap.size rfl 27 _ _ _ H0.out Try.underlying27 rfl (mk16_info _ GS.out) ?_)
  clear hw1
  refine (P1.out w1.heap.size w1 (Nat.le_refl _)).mono ?_
  rintro e w2 ⟨v1, rfl, o2, b2⟩
  have O2 := Lib.hid o2
  have G0 := Lib.hid ((b2.block w.heap.size (by have := HL.out; omega)).trans H0.out)
  have G1 := Lib.hid ((b2.block (w.heap.size + 1) HL.out).trans H1.out)
  have GB := Lib.hid (B0.out.trans (b2.mono (by have := HL.out; omega)))
  have GL : Hid (w.heap.size + 1 < w2.heap.size) := Lib.hid (Nat.lt_of_lt_of_le HL.out b2.size)
  have W2 : Hid (w1.heap.size ≤ w2.heap.size) := Lib.hid b2.size
  clear o2 b2 H0 H1 B0
  go_wp2_with (refine wpList_load_row rfl 27 _ rfl w.heap.size rfl 27 _ _ _ G0.out Try.underlying27 rfl (mk16_info _ GS.out) ?_)
  refine (P2.out w2.heap.size w2 (Nat.le_refl _)).mono ?_
  rintro e w3 ⟨v2, rfl, o3, b3⟩
  obtain ⟨g2, c2, rfl, -, hg2, -, hc2⟩ := o3.form (by omega)
  have C2 := Lib.hid hc2
  have O3 : Hid (OwnU w1.heap.size v1 8 k1 w3) := Lib.hid (ownY_below O2.out b3)
  have I1 := Lib.hid ((b3.block (w.heap.size + 1) GL.out).trans G1.out)
  have IB := Lib.hid (GB.out.trans (b3.mono (by have := GL.out; omega)))
  have IL : Hid (w1.heap.size ≤ w3.heap.size) := Lib.hid (Nat.le_trans W2.out b3.size)
  clear o3 b3 hg2 hc2 G0 G1 GB O2
  have hat : ∀ (g cap : Nat) (W : World), (Instr.arrayAt 25 (.slice (some ⟨g, 0, none⟩) (8 + 8) cap)).run Try.prog W = .ok (.pointer (some ⟨g, 0, none⟩)) W := fun g cap W => run_arrayAtF (P := Try.prog) 25 _ 16 (some ⟨g, 0, none⟩) (8 + 8) cap Try.underlying25 (by omega) W
  go_wp2_with (first
    | (at_builtin; refine wpList_append_u rfl _ _ rfl w1.heap.size v1 8 k1 rfl O3.out g2 0 8 _ k2 rfl (fun j hj => by rw [Nat.zero_add]; exact C2.out j hj) (by omega) IL.out w3 (Below.refl _ _) ?_; intro v4 w4 h1 h2; obtain ⟨g, cap, rfl, -, -, -, hc4⟩ := h1.form (by omega); rw [HM.out] at hc4; have C4 := Lib.hid hc4; have B4 := Lib.hid h2; clear h1 h2 hc4; have J1 := Lib.hid ((B4.out.block (w.heap.size + 1) HL.out).trans I1.out); have JB := Lib.hid (IB.out.trans (B4.out.mono (by have := HL.out; omega))))
    | (refine wpList_load_part rfl 25 _ rfl g 0 rfl (Q16 m) _ (fun j v e => by
      have hj : j < 16 := by
        rcases Nat.lt_or_ge j 16 with h | h
        · exact h
        · rw [arr_none _ _ _ _ h] at e; cases e
      rw [Nat.zero_add, C4.out j hj, ← e, arr_get _ _ _ _ hj]) Try.underlying25 rfl (ky_info _ (arr_size _ _ _)) ?_) | (refine wpList_store_row rfl 25 _ _ rfl (w.heap.size + 1) (Q16 m) rfl rfl 25 _ J1.out (ky_info _ rfl) rfl (arr_cells _ _ _) ?_))
  refine bodyPost_ret (v := .agg (Q16 m)) ?_ rfl ⟨rfl, ?_⟩
  · exact results_cell_row Try.results14 _ _ (w.heap.size + 1) _ _ _ _ rfl (setRow_heap _ _ _ _ _ _ J1.out) Try.underlying25 rfl (ky_info _ (arr_size _ _ _))
  · exact below_setRow JB.out (by omega) _
end Go.Proofs.Ytkijgadkgfapgaa
