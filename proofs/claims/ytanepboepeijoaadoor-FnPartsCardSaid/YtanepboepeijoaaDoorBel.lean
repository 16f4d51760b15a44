import Derived.Test.YtanepboepeijoaaDoorLim
import Derived.Test.YtanepboepeijoaaDoorBase
import Derived.Laws.CopyOwn
import Derived.Laws.Bits64b
import Derived.Deep.RegionLaw
namespace Go.Proofs.YtanepboepeijoaaDoor
open Go.ChangeShapes Go.WideShapes Go.ChangeAt Go.RowKit Go.Deep
open Fl
/-- the first n limbs; the others zeros -/
def firstF (f : Nat → Nat) (n : Nat) : Nat → Nat := fun j => if j < n then f j else 0
theorem limbC_list (f : Nat → Nat) : (limbC f).toList.toArray = limbC f := by simp
theorem limbC_len (f : Nat → Nat) : (limbC f).toList.length = 24 := by rw [Array.length_toList, limbC_size]
theorem limbC_splice (f : Nat → Nat) (n : Nat) (hn : n ≤ 24) : (splice (limbC zf).toList 0 ((limbC f).toList.take n)).toArray = limbC (firstF f n) := by
  apply Array.ext_getElem?
  intro i
  by_cases hi : i < 24
  · rw [limbC_get _ i hi]
    have h1 : (limbC f).toList[i]? = some (.int .u64 (f i : Nat)) := by rw [Array.getElem?_toList]; exact limbC_get f i hi
    have h2 : (limbC zf).toList[i]? = some (.int .u64 (zf i : Nat)) := by rw [Array.getElem?_toList]; exact limbC_get zf i hi
    have hl := limbC_len f
    simp only [splice, List.take_zero, List.nil_append, List.getElem?_toArray, List.length_take, hl, Nat.zero_add, Nat.min_eq_left hn]
    unfold firstF
    by_cases h : i < n
    · rw [if_pos h, List.getElem?_append_left (by rw [List.length_take, hl]; omega), List.getElem?_take_of_lt h, h1]
    · rw [if_neg h, List.getElem?_append_right (by rw [List.length_take, hl]; omega), List.getElem?_drop, List.length_take, hl, Nat.min_eq_left hn, show n + (i - n) = i from by omega, h2]
      rfl
  · have hs : (splice (limbC zf).toList 0 ((limbC f).toList.take n)).toArray.size = 24 := by
      rw [List.size_toArray, length_splice _ _ _ (by rw [List.length_take, limbC_len, limbC_len]; omega), limbC_len]
    rw [Array.getElem?_eq_none (by omega), Array.getElem?_eq_none (by rw [limbC_size]; omega)]
theorem alloc3_rows (w : World) (o1 o2 o3 : Obj) : (((w.alloc o1).alloc o2).alloc o3).heap[w.heap.size]? = some o1 ∧ (((w.alloc o1).alloc o2).alloc o3).heap[w.heap.size + 1]? = some o2 ∧ (((w.alloc o1).alloc o2).alloc o3).heap[w.heap.size + 1 + 1]? = some o3 := by
  have h1 : ((w.alloc o1).alloc o2).heap.size = w.heap.size + 1 + 1 := by simp
  have h2 := heap_alloc2_old w o1 o2
  have h3 := heap_alloc2_new w o1 o2
  refine ⟨?_, ?_, by rw [← h1]; exact heap_alloc_new _ _⟩
  · rw [heap_alloc_old _ _ (by omega)]
    exact h2
  · rw [heap_alloc_old _ _ (by omega)]
    exact h3
theorem cell_row (w : World) (g : Nat) (cs : Array Value) (t : TypeId) (h : w.heap[g]? = some (.cells cs t (0, 0))) (j : Nat) (v : Value) (hv : cs[j]? = some v) : w.cell? ((⟨g, 0, none⟩ : Addr).add j) = some v := by
  rw [show (⟨g, 0, none⟩ : Addr).add j = ⟨g, j, none⟩ from by unfold Addr.add; split <;> simp_all]
  simp [World.cell?, h, hv]
theorem limbC_one (f : Nat → Nat) (v : Value) (h : v ∈ (limbC f).toList) : v.oneCell' = true := by
  have := limbC_cells f
  rw [Array.all_eq_true'] at this
  exact this v (by simpa using h)
theorem low_mask (x sh : Nat) (hx : x < B64) (hs : sh < 64) : bits BinOp.and IntKind.u64 (x : Int) (IntKind.u64.wrap (IntKind.u64.wrap (2 ^ sh) - 1)) = ((x % 2 ^ sh : Nat) : Int) := by
  have h2 : 2 ^ sh < 18446744073709551616 := Nat.pow_lt_pow_right (a := 2) (n := 64) (by omega) hs
  have h1 : 0 < 2 ^ sh := Nat.two_pow_pos sh
  have e1 : IntKind.u64.wrap ((2 : Int) ^ sh) = ((2 ^ sh : Nat) : Int) := by
    show ((2 : Int) ^ sh) % 18446744073709551616 = _
    rw [show (2 : Int) ^ sh = ((2 ^ sh : Nat) : Int) from by simp]
    generalize 2 ^ sh = m at h1 h2 ⊢
    omega
  have e2 : IntKind.u64.wrap (((2 ^ sh : Nat) : Int) - 1) = ((2 ^ sh - 1 : Nat) : Int) := by
    show (((2 ^ sh : Nat) : Int) - 1) % 18446744073709551616 = _
    generalize 2 ^ sh = m at h1 h2 ⊢
    omega
  rw [e1, e2, u64_and_nat x _ hx (by omega), Nat.and_two_pow_sub_one_eq_mod]
/-- the bits below place p -/
def lowF (f : Nat → Nat) (p : Nat) : Nat → Nat := upd (firstF f (p / 64)) (p / 64) (f (p / 64) % 2 ^ (p % 64))
theorem below_any (f : Nat → Nat) (p : Nat) (hp : p < 1536) (w : World) (hf : ∀ i, f i < B64) :
    Calls Tryd.prog 108 #[.agg (limbC f), .int .i64 p] w fun e w' => e = .returned (.agg (limbC (lowF f p))) ∧ Below w.heap.size w w' := by
  have hz := limbC_zero
  go_enter Tryd.func108, Tryd.ntmps108
  go_wp2
  clear hz
  obtain ⟨hb0, hb1, hb2⟩ := alloc3_rows w (.cells (limbC f) 96) (.cells (limbC zf) 96) (.cells (limbC zf) 96)
  have hbl : Below w.heap.size w (((w.alloc (.cells (limbC f) 96)).alloc (.cells (limbC zf) 96)).alloc (.cells (limbC zf) 96)) := ((((Below.refl _ _).alloc (Nat.le_refl _) _).alloc (by simp) _).alloc (by simp; omega) _)
  have HB0 := Lib.hid hb0
  have HB1 := Lib.hid hb1
  have HB2 := Lib.hid hb2
  have HBL := Lib.hid hbl
  clear hb0 hb1 hb2 hbl
  generalize (((w.alloc (.cells (limbC f) 96)).alloc (.cells (limbC zf) 96)).alloc (.cells (limbC zf) 96)) = w1 at HB0 HB1 HB2 HBL ⊢
  have hn : (p : Int) / 64 = ((p / 64 : Nat) : Int) := by omega
  have hm : (p : Int) % 64 = ((p % 64 : Nat) : Int) := by omega
  have hk : p / 64 < 24 := by omega
  rw [hn, hm]
  clear hn hm
  have hs : p % 64 < 64 := by omega
  generalize hkk : p / 64 = k at hk ⊢
  generalize hss : p % 64 = sh at hs ⊢
  have h24 : (k : Int) ≤ 24 := by omega
  go_region_law (refine step_copy_splice rfl (.tmp 13) (.tmp 15) 146 146 rfl 52 Tryd.underlying146 (by kernel_rfl) (some ⟨w.heap.size + 1 + 1, 0, none⟩) (some ⟨w.heap.size, 0, none⟩) k 24 k 24 rfl rfl (w.heap.size + 1 + 1) 0 (limbC zf).toList 96 (by rw [limbC_list]; exact HB2.out) ((limbC f).toList.take k) (by rw [List.length_take, limbC_len]; simp; omega) (fun _ => ⟨rfl, _, rfl, fun j v hj => cell_row _ _ _ _ HB0.out j v (by rw [← Array.getElem?_toList]; rw [List.getElem?_take] at hj; split at hj <;> simp_all)⟩) (by rw [List.length_take, limbC_len, limbC_len]; omega) (fun v hv => limbC_one f v (List.mem_of_mem_take hv)) (w.heap.size + 1 + 1) _ (Below.refl _ _) (Nat.le_refl _) ?_; intro w4 hg4 hb4)
  have hg5 : w4.heap[w.heap.size + 1 + 1]? = some (.cells (limbC (firstF f k)) 96 (0, 0)) := by rw [hg4.out, limbC_splice f k (by omega)]
  have hl5 : w4.heap[w.heap.size]? = some (.cells (limbC f) 96 (0, 0)) := by rw [hb4.block _ (by omega)]; exact HB0.out
  have HW : Hid (Below w.heap.size w w4) := Lib.hid (HBL.out.drew.trans ⟨hb4.os, hb4.tape, hb4.output, hb4.size, fun j hj => hb4.block j (by omega)⟩)
  have HR : Hid (w4.heap[w.heap.size + 1]? = some (.cells (limbC zf) 96 (0, 0))) := Lib.hid (by rw [hb4.block _ (by omega)]; exact HB1.out)
  clear hg4 hb4 HB0 HB1 HB2 HBL
  clear w1
  have c1 := limbC_get f k hk
  have HF := Lib.hid (hf k)
  clear hf
  have HU := Lib.hid (limbC_set (firstF f k) k (f k % 2 ^ sh) hk)
  generalize hxx : f k = x at c1 HF HU
  have HX : Hid (x = f (p / 64)) := Lib.hid (by rw [hkk, hxx])
  clear hxx
  have HM := Lib.hid (low_mask x sh HF.out hs)
  have hk24 : (k : Int) < 24 := by omega
  have hs64 : (sh : Int) < 64 := by omega
  have g1 : w4.drew.cell? ⟨w.heap.size, k, none⟩ = some (.int .u64 (x : Nat)) := by show w4.cell? _ = _; simp [World.cell?, hl5, c1]
  have g2 : w4.drew.cell? ⟨w.heap.size + 1 + 1, k, none⟩ = some (.int .u64 0) := by
    have c2 := limbC_get (firstF f k) k hk
    rw [firstF, if_neg (Nat.lt_irrefl k)] at c2
    show w4.cell? _ = _; simp [World.cell?, hg5, c2]
  have g3 : w4.drew.frozen? ⟨w.heap.size + 1 + 1, k, none⟩ = false := by show w4.frozen? _ = _; simp [World.frozen?, hg5]
  have HG := Lib.hid hg5
  have HL := Lib.hid hl5
  clear hg5 hl5
  go_wp2
  go_region
  rw [HM.out]
  have hg6 : (w4.setCell ⟨w.heap.size + 1 + 1, k, none⟩ (.int .u64 (x % 2 ^ sh : Nat))).drew.heap[w.heap.size + 1 + 1]? = some (.cells (limbC (upd (firstF f k) k (x % 2 ^ sh))) 96 (0, 0)) := by
    show (w4.setCell _ _).heap[_]? = _
    rw [setCell_eq_setRow w4 _ _ _ _ _ _ HG.out, HU.out]
    exact setRow_heap _ _ _ _ _ _ HG.out
  have hw6 : Below w.heap.size w (w4.setCell ⟨w.heap.size + 1 + 1, k, none⟩ (.int .u64 (x % 2 ^ sh : Nat))).drew := (HW.out.setCell (by show w.heap.size ≤ w.heap.size + 1 + 1; omega) _).drew
  have hr6 : (w4.setCell ⟨w.heap.size + 1 + 1, k, none⟩ (.int .u64 (x % 2 ^ sh : Nat))).drew.heap[w.heap.size + 1]? = some (.cells (limbC zf) 96 (0, 0)) := by
    show (w4.setCell _ _).heap[_]? = _
    rw [Below.heap_setCell _ _ _ _ (by show w.heap.size + 1 ≠ w.heap.size + 1 + 1; omega)]
    exact HR.out
  have HG6 := Lib.hid hg6
  have HR6 := Lib.hid hr6
  have HW6 := Lib.hid hw6
  have HE : Hid (upd (firstF f k) k (x % 2 ^ sh) = lowF f p) := Lib.hid (by rw [← hkk, ← hss, HX.out]; rfl)
  clear hg6 hr6 hw6 HG HL HW HR g1 g2 g3 c1
  generalize (w4.setCell ⟨w.heap.size + 1 + 1, k, none⟩ (.int .u64 (x % 2 ^ sh : Nat))).drew = w6 at HG6 HR6 HW6 ⊢
  clear w4
  go_wp2_with (first | (refine wpList_load_row rfl 96 _ rfl (w.heap.size + 1 + 1) rfl 96 _ _ _ HG6.out Tryd.underlying96 rfl (limb_info _) ?_) | (refine wpList_store_row rfl 96 _ _ rfl (w.heap.size + 1) (limbC (upd (firstF f k) k (x % 2 ^ sh))) rfl rfl 96 _ HR6.out (limb_info _) (by rw [limbC_size, limbC_size]) (limbC_cells _) ?_))
  refine bodyPost_ret (v := .agg (limbC (upd (firstF f k) k (x % 2 ^ sh)))) ?_ rfl ⟨by rw [HE.out], ?_⟩
  · exact results_cell_row Tryd.results108 _ _ (w.heap.size + 1) _ _ _ _ rfl (setRow_heap _ _ _ _ _ _ HR6.out) Tryd.underlying96 rfl (limb_info _)
  · exact below_setRow HW6.out (by omega) _
end Go.Proofs.YtanepboepeijoaaDoor
