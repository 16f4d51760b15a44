/-
  BLOCKS COPIED once more: the copy's cells can be written.
-/
import Derived.Test.YthfmkejdpflpcaaJu
import Derived.Test.YthfmkejdpflpcaaTs
namespace Go.Proofs.Ythfmkejdpflpcaa
open Go.ChangeShapes Go.WideShapes Go.ChangeAt Go.RowKit
set_option maxHeartbeats 4000000 in
set_option maxRecDepth 20000 in
theorem toBW_any (a : Option Addr) (cap n : Nat) (f : Nat → Int) (B : Nat) (w : World) (hB : B ≤ w.heap.size) (h : BlR B w a n f) (hl : n ≤ 1048576) :
    Calls Try.prog 25 #[.slice a n cap] w fun e w' => e = .returned (.slice (some ⟨w.heap.size, 0, none⟩) n n) ∧ BlR (w.heap.size + 1) w' (some ⟨w.heap.size, 0, none⟩) n f ∧ Below w.heap.size w w' ∧ w.heap.size < w'.heap.size ∧ WrB w.heap.size (18 * n) w' := by
  have hmk := fun w => make_bl f n hl w
  have hl' : (n : Int) ≤ 1048576 := by omega
  have H0 : Hid ((w.alloc (.cells (rowB f 0 n) 73)).heap[w.heap.size]? = some (.cells (rowB f 0 n) 73 (0, 0))) := Lib.hid (World.alloc_heap_new w _)
  have B0 : Hid (Below w.heap.size w (w.alloc (.cells (rowB f 0 n) 73))) := Lib.hid ((Below.refl _ w).alloc (Nat.le_refl _) _)
  have HP := Lib.hid h
  clear h
  go_enter Try.func25, Try.ntmps25
  go_wp2
  generalize w.alloc (.cells (rowB f 0 n) 73) = w1 at H0 B0 ⊢
  go_loopw [4] (fun i wr => ∃ k : Nat, k ≤ n ∧ i = .int .i64 k ∧ wr.heap[w.heap.size]? = some (.cells (rowB f k n) 73 (0, 0)) ∧ Below w.heap.size w wr) (fun i _ => n - (intOf i).toNat)
  case atStart => exact ⟨0, Nat.zero_le _, rfl, H0.out, B0.out⟩
  case round =>
    obtain ⟨k, hk, rfl, h0, hB'⟩ := hrel
    have L0 := Lib.hid h0
    have LB := Lib.hid hB'
    clear h0 hB' H0 B0
    by_cases hlt : k < n
    · obtain ⟨g, off, rfl, hg, hc⟩ : ∃ g off, a = some ⟨g, off, none⟩ ∧ g < B ∧ ∀ j, j < 18 * n → w.cell? ⟨g, off + j, none⟩ = some (bcell f j) := by
        rcases HP.out with h | h
        · omega
        · exact h
      have tk : (k : Int) < (n : Int) := by omega
      have GC : Hid (∀ j v, (blk f k)[j]? = some v → wr.cell? ⟨g, off + k * 18 + j, none⟩ = some v) := Lib.hid fun j v e => by
        have hj : j < 18 := by
          rcases Nat.lt_or_ge j 18 with h | h
          · exact h
          · rw [Array.getElem?_eq_none (by rw [blk_size]; exact h)] at e; cases e
        rw [LB.out.cell (p := ⟨g, off + k * 18 + j, none⟩) (by show g < _; omega), Nat.add_assoc, hc (k * 18 + j) (by omega), ← blk_get f k j hj]
        exact e
      have HK := Lib.hid hlt
      have SET := Lib.hid (rowB_set f k n hlt)
      have LZ : Hid (w.heap.size < wr.heap.size) := Lib.hid (Array.getElem?_eq_some_iff.1 L0.out).1
      have RB := Lib.hid (rowB_size f k n)
      have TB : Hid (∀ w, Calls Try.prog 63 #[.agg (blk f k)] w fun e w' => e = .returned (.agg (blk f k)) ∧ Below w.heap.size w w') := Lib.hid (toBl_any _ _ _)
      have B18 := Lib.hid (blk_size f k)
      have BON : Hid ((blk f k).all (·.oneCell') = true) := Lib.hid (bl_one _ _ _)
      clear hc hlt hk hg
      generalize blk f k = A at GC SET TB B18 BON
      go_wp2_with (refine wpList_load_part rfl 79 _ rfl g (off + k * 18) rfl A _ GC.out Try.underlying79 rfl (lb_info _ B18.out) ?_)
      refine (TB.out _).mono ?_
      rintro e w2 ⟨rfl, b2⟩
      have M0 := Lib.hid ((b2.block _ LZ.out).trans L0.out)
      have MB2 := Lib.hid (LB.out.trans (b2.mono (Nat.le_of_lt LZ.out)))
      have I0 : Hid ((w2.setRow w.heap.size (rowB f (k + 1) n)).heap[w.heap.size]? = some (.cells (rowB f (k + 1) n) 73 (0, 0))) := Lib.hid (setRow_heap _ _ _ _ _ _ M0.out)
      have IB' : Hid (Below w.heap.size w (w2.setRow w.heap.size (rowB f (k + 1) n))) := Lib.hid (below_setRow MB2.out (Nat.le_refl _) _)
      clear b2 GC L0 LB
      go_wp2_with (refine wpList_store_part rfl 73 _ _ rfl w.heap.size (k * 18) A rfl rfl 73 _ M0.out (ib_info _ B18.out) (by rw [RB.out, B18.out]; have := HK.out; omega) BON.out ?_; rw [SET.out])
      go_roundw
      case rel => exact ⟨k + 1, HK.out, by go_num, I0.out, IB'.out⟩
      case measure => have := HK.out; simp [intOf]; omega
    · obtain rfl : k = n := by omega
      have hD : BlR (w.heap.size + 1) wr (some ⟨w.heap.size, 0, none⟩) k f := .inr ⟨_, 0, rfl, Nat.lt_succ_self _, fun j hj => by
        rw [Nat.zero_add, Lib.cell_of_heap L0.out j, rowB_get _ _ _ _ hj, if_pos hj]⟩
      have LZ : Hid (w.heap.size < wr.heap.size) := Lib.hid (Array.getElem?_eq_some_iff.1 L0.out).1
      have HDD := Lib.hid hD
      have WD : Hid (WrB w.heap.size (18 * k) wr) := Lib.hid fun j hj => ⟨⟨_, (Lib.cell_of_heap L0.out j).trans (rowB_get _ _ _ _ hj)⟩, by simp [World.frozen?, L0.out]⟩
      clear hD
      go_wp2
      go_ret
      exact ⟨rfl, HDD.out, LB.out, LZ.out, WD.out⟩
end Go.Proofs.Ythfmkejdpflpcaa
