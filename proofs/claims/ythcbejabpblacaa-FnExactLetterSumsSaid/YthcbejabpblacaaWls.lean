/-
  CONTRACTS: the specification's sums of letters.
-/
import Derived.Test.YthcbejabpblacaaWds
import Derived.Test.YthcbejabpblacaaArr
import Derived.Laws.Rows
import Derived.Lib.Builder
import Derived.Deep.OwnRows
import Derived.RangeFuncRecord
import Derived.Laws.CopyOwn
namespace Go.Proofs.Ythcbejabpblacaa
open Go.ChangeShapes Go.WideShapes Go.ChangeAt Go.RowKit
open Wd
/-- what a letter adds to a sum -/
def dlt (c : UInt8) (j : Nat) : Int := if (lnum c).toNat / 2 = j then (if lnum c % 2 = 0 then 1 else -1) else 0
/-- the sums of letters -/
def sumL (l : List UInt8) (j : Nat) : Int := l.foldl (fun s c => s + dlt c j) 0
theorem sumL_snoc (l : List UInt8) (c : UInt8) (j : Nat) : sumL (l ++ [c]) j = sumL l j + dlt c j := by simp [sumL, List.foldl_append]
theorem dlt_le (c : UInt8) (j : Nat) : -1 ≤ dlt c j ∧ dlt c j ≤ 1 := by unfold dlt; split <;> (try split) <;> omega
theorem sumL_le (l : List UInt8) (j : Nat) : -(l.length : Int) ≤ sumL l j ∧ sumL l j ≤ l.length := by
  have H : ∀ (l : List UInt8) (s : Int), -(l.length : Int) + s ≤ l.foldl (fun s c => s + dlt c j) s ∧ l.foldl (fun s c => s + dlt c j) s ≤ l.length + s := by
    intro l
    induction l with
    | nil => intro s; simp
    | cons c r ih =>
      intro s
      have h1 := ih (s + dlt c j)
      have h2 := dlt_le c j
      simp only [List.foldl_cons, List.length_cons]
      push_cast
      omega
  have := H l 0
  unfold sumL
  omega
abbrev A4 (l : List UInt8) : Array Value := #[.int .i64 (sumL l 0), .int .i64 (sumL l 1), .int .i64 (sumL l 2), .int .i64 (sumL l 3)]
theorem heap_setCell_at {w : World} {g : Nat} {A : Array Value} {t : TypeId} (h : w.heap[g]? = some (.cells A t (0, 0))) (x : Nat) (v : Value) : (w.setCell ⟨g, x, none⟩ v).heap[g]? = some (.cells (A.setIfInBounds x v) t (0, 0)) := by
  simp [World.setCell, Array.getElem?_modify, h]
theorem heap_setCell_far {w : World} {g k x : Nat} (h : k ≠ g) (v : Value) : (w.setCell ⟨g, x, none⟩ v).heap[k]? = w.heap[k]? := Below.heap_setCell _ _ _ _ h
theorem a4_info (A : Array Value) (h : A.size = 4) : (Try.prog.info? 22).map (·.size) = some A.size := by rw [h]; kernel_rfl
theorem a4_cells (l : List UInt8) : (A4 l).all (·.oneCell') = true := by simp [A4, Value.oneCell']
set_option maxRecDepth 100000 in
set_option maxHeartbeats 4000000 in
theorem sums_any (l : List UInt8) (hl : ∀ c ∈ l, isL c = true) (hm : l.length ≤ 4000000) (w : World) :
    Calls Try.prog 39 #[.string (txt l)] w fun e w' => e = .returned (.agg (A4 l)) ∧ Below w.heap.size w w' := by
  have hs := txt_size l
  have hm' : (l.length : Int) ≤ 4000000 := by omega
  have HL := Lib.hid hl
  clear hl
  go_enter Try.func39, Try.ntmps39
  go_wp2
  go_loopw [4] (fun i wr => ∃ k : Nat, k ≤ l.length ∧ i = .int .i64 (k : Int) ∧ wr.heap[w.heap.size + 1]? = some (.cells (A4 (l.take k)) 22 (0, 0)) ∧ wr.heap[w.heap.size]? = some (.cells (A4 []) 22 (0, 0)) ∧ Below w.heap.size w wr) (fun i _ => l.length - (intOf i).toNat)
  case atStart =>
    refine ⟨0, Nat.zero_le _, rfl, ?_, ?_, ?_⟩
    · have := World.alloc_heap_new (w.alloc (.cells (A4 []) 22)) (.cells (A4 []) 22)
      rw [World.size_alloc] at this
      exact this
    · exact (Below.heap_alloc _ _ _ (by simp)).trans (World.alloc_heap_new w (.cells (A4 []) 22))
    · exact ((Below.refl _ w).alloc (Nat.le_refl _) _).alloc (by simp) _
  case round =>
    obtain ⟨k, hk, rfl, hg, h0, hB⟩ := hrel
    have HG := Lib.hid hg
    have H0 := Lib.hid h0
    have HB := Lib.hid hB
    clear hg h0 hB
    by_cases hlt : k < l.length
    · have t2 : decide (k < l.length) = true := by simpa using hlt
      have hi := idx_txt l k hlt
      have IL : Hid (isL l[k] = true) := Lib.hid (HL.out _ (List.getElem_mem hlt))
      have hlet := Lib.hid (letter_any l[k])
      have SN : Hid (∀ j, sumL (l.take (k + 1)) j = sumL (l.take k) j + dlt l[k] j) := Lib.hid fun j => by rw [take_snoc l k hlt, sumL_snoc]
      have HK := Lib.hid hlt
      have c0 : wr.cell? ⟨w.heap.size + 1, 0, none⟩ = some (.int .i64 (sumL (l.take k) 0)) := Lib.cell_of_heap HG.out 0
      have c1 : wr.cell? ⟨w.heap.size + 1, 1, none⟩ = some (.int .i64 (sumL (l.take k) 1)) := Lib.cell_of_heap HG.out 1
      have c2 : wr.cell? ⟨w.heap.size + 1, 2, none⟩ = some (.int .i64 (sumL (l.take k) 2)) := Lib.cell_of_heap HG.out 2
      have c3 : wr.cell? ⟨w.heap.size + 1, 3, none⟩ = some (.int .i64 (sumL (l.take k) 3)) := Lib.cell_of_heap HG.out 3
      have f0 : wr.frozen? ⟨w.heap.size + 1, 0, none⟩ = false := Lib.frozen_of_heap HG.out 0
      have f1 : wr.frozen? ⟨w.heap.size + 1, 1, none⟩ = false := Lib.frozen_of_heap HG.out 1
      have f2 : wr.frozen? ⟨w.heap.size + 1, 2, none⟩ = false := Lib.frozen_of_heap HG.out 2
      have f3 : wr.frozen? ⟨w.heap.size + 1, 3, none⟩ = false := Lib.frozen_of_heap HG.out 3
      obtain ⟨x0, y0⟩ := sumL_le (l.take k) 0
      obtain ⟨x1, y1⟩ := sumL_le (l.take k) 1
      obtain ⟨x2, y2⟩ := sumL_le (l.take k) 2
      obtain ⟨x3, y3⟩ := sumL_le (l.take k) 3
      have hkl : ((l.take k).length : Int) ≤ 4000000 := by rw [List.length_take]; omega
      have b0 : -4000000 ≤ sumL (l.take k) 0 ∧ sumL (l.take k) 0 ≤ 4000000 := by omega
      have b1 : -4000000 ≤ sumL (l.take k) 1 ∧ sumL (l.take k) 1 ≤ 4000000 := by omega
      have b2 : -4000000 ≤ sumL (l.take k) 2 ∧ sumL (l.take k) 2 ≤ 4000000 := by omega
      have b3 : -4000000 ≤ sumL (l.take k) 3 ∧ sumL (l.take k) 3 ≤ 4000000 := by omega
      obtain ⟨p0, q0⟩ := b0
      obtain ⟨p1, q1⟩ := b1
      obtain ⟨p2, q2⟩ := b2
      obtain ⟨p3, q3⟩ := b3
      clear x0 y0 x1 y1 x2 y2 x3 y3 hkl
      generalize l[k] = c at hi IL hlet SN
      clear hlt
      have HG2 : Hid (wr.heap[w.heap.size + 1]? = some (.cells #[.int .i64 (sumL (l.take k) 0), .int .i64 (sumL (l.take k) 1), .int .i64 (sumL (l.take k) 2), .int .i64 (sumL (l.take k) 3)] 22 (0, 0))) := HG
      clear HG
      have NX : Hid (∀ (a0 a1 a2 a3 : Int), a0 = sumL (l.take k) 0 + dlt c 0 → a1 = sumL (l.take k) 1 + dlt c 1 → a2 = sumL (l.take k) 2 + dlt c 2 → a3 = sumL (l.take k) 3 + dlt c 3 → #[Value.int .i64 a0, .int .i64 a1, .int .i64 a2, .int .i64 a3] = A4 (l.take (k + 1))) := Lib.hid (by
        intro a0 a1 a2 a3 h0 h1 h2 h3
        show _ = #[_, _, _, _]
        rw [SN.out 0, SN.out 1, SN.out 2, SN.out 3, h0, h1, h2, h3])
      generalize sumL (l.take k) 0 = s0 at c0 p0 q0 NX HG2
      generalize sumL (l.take k) 1 = s1 at c1 p1 q1 NX HG2
      generalize sumL (l.take k) 2 = s2 at c2 p2 q2 NX HG2
      generalize sumL (l.take k) 3 = s3 at c3 p3 q3 NX HG2
      clear SN
      rcases lcases IL.out with rfl | rfl | rfl | rfl | rfl | rfl | rfl | rfl
      all_goals
        simp only [show lnum 97 = 0 from rfl, show lnum 65 = 1 from rfl, show lnum 98 = 2 from rfl, show lnum 66 = 3 from rfl, show lnum 99 = 4 from rfl, show lnum 67 = 5 from rfl, show lnum 100 = 6 from rfl, show lnum 68 = 7 from rfl] at hlet
        go_wp2_with (go_at_call 43; refine (hlet.out _).mono ?_; rintro e w' ⟨rfl, rfl⟩)
        go_roundw
        case rel => exact ⟨k + 1, HK.out, by go_num, by rw [heap_setCell_at HG2.out]; refine congrArg some (congrArg (fun A => Obj.cells A _ (0, 0)) ?_); exact NX.out _ _ _ _ (by simp [dlt, lnum] <;> omega) (by simp [dlt, lnum] <;> omega) (by simp [dlt, lnum] <;> omega) (by simp [dlt, lnum] <;> omega), by rw [heap_setCell_far (by omega)]; exact H0.out, HB.out.setCell (p := ⟨w.heap.size + 1, _, none⟩) (by simp) _⟩
        case measure => have := HK.out; simp [intOf]; omega
    · obtain rfl : k = l.length := by omega
      have G1 : Hid (wr.heap[w.heap.size + 1]? = some (.cells (A4 l) 22 (0, 0))) := Lib.hid (by have := HG.out; rwa [List.take_length] at this)
      clear HG
      go_wp2_with (first | (refine wpList_load_row rfl 22 _ rfl (w.heap.size + 1) rfl 22 _ _ _ G1.out Try.underlying22 rfl (a4_info _ rfl) ?_) | (refine wpList_store_row rfl 22 _ _ rfl w.heap.size (A4 l) rfl rfl 22 _ H0.out (a4_info _ rfl) rfl (a4_cells _) ?_))
      refine bodyPost_ret (v := .agg (A4 l)) ?_ rfl ⟨rfl, ?_⟩
      · exact results_cell_row Try.results39 _ _ w.heap.size _ _ _ _ rfl (setRow_heap _ _ _ _ _ _ H0.out) Try.underlying22 rfl (a4_info _ rfl)
      · exact below_setRow HB.out (Nat.le_refl _) _
end Go.Proofs.Ythcbejabpblacaa
