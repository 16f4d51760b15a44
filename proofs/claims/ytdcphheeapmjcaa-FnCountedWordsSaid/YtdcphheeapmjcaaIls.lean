/-
  LetterSums on both sides; the law.
-/
import Derived.Test.YtdcphheeapmjcaaWls
import Derived.Test.YtdcphheeapmjcaaIrw
import Derived.Laws.ResultCell
namespace Go.Proofs.Ytdcphheeapmjcaa
open Go.ChangeShapes Go.WideShapes Go.ChangeAt Go.RowKit
open Wd
theorem results_cell_tmp_row {P : Program} {fn : Func} {p u : Tmp} {ty : TypeId} (h : fn.results = #[.cell p ty, .tmp u]) (tmps : Array Value) (w : World) (g : Nat) (t : TypeId) (cs : Array Value) (fr : Nat × Nat) (d : TypeDesc)
    (hp : tmps.getD p undef = .pointer (some ⟨g, 0, none⟩)) (hg : w.heap[g]? = some (.cells cs t fr))
    (hu : P.underlying ty = some d) (hd : (match d with | .struct _ | .array _ _ => true | _ => false) = true) (hi : (P.info? ty).map (·.size) = some cs.size) :
    (results fn tmps).run P w = .ok (.tuple #[.agg cs, tmps.getD u undef]) w := by
  rw [results_cell_tmp h, hp]
  simp [asAddr, run_loadVar_row w g t ty cs fr d hg hu hd hi]
/-- what LetterSums answers -/
def LsPost (l : List UInt8) (w : World) (e : Ending) (w' : World) : Prop := e = .returned (.tuple #[.agg (if wordB l then A4 l else A4 []), .int .i64 (if wordB l then 0 else 1)]) ∧ Below w.heap.size w w'
theorem cap_any (c : UInt8) (hc : isL c = true) (w : World) :
    Calls Try.prog 82 #[.int .u8 (lnum c)] w fun e w' => e = .returned (.bool (decide (lnum c % 2 ≠ 0))) ∧ w = w' := by
  rcases lcases hc with rfl | rfl | rfl | rfl | rfl | rfl | rfl | rfl
  all_goals
    simp only [show lnum 97 = 0 from rfl, show lnum 65 = 1 from rfl, show lnum 98 = 2 from rfl, show lnum 66 = 3 from rfl, show lnum 99 = 4 from rfl, show lnum 67 = 5 from rfl, show lnum 100 = 6 from rfl, show lnum 68 = 7 from rfl]
    go_enter Try.func82, Try.ntmps82
    go_wp2
    go_ret
    exact ⟨rfl, rfl⟩
theorem gen_lit (c : UInt8) (hc : isL c = true) (w : World) :
    Calls Try.prog 83 #[.int .u8 (lnum c)] w fun e w' => e = .returned (.int .i64 (lnum c / 2)) ∧ w = w' := by
  rcases lcases hc with rfl | rfl | rfl | rfl | rfl | rfl | rfl | rfl
  all_goals
    simp only [show lnum 97 = 0 from rfl, show lnum 65 = 1 from rfl, show lnum 98 = 2 from rfl, show lnum 66 = 3 from rfl, show lnum 99 = 4 from rfl, show lnum 67 = 5 from rfl, show lnum 100 = 6 from rfl, show lnum 68 = 7 from rfl]
    go_enter Try.func83, Try.ntmps83
    go_wp2
    go_ret
    exact ⟨rfl, rfl⟩
set_option maxRecDepth 100000 in
set_option maxHeartbeats 4000000 in
theorem ilsums_any (l : List UInt8) (hm : l.length ≤ 4000000) (w : World) : Calls Try.prog 45 #[.string (txt l)] w (LsPost l w) := by
  unfold LsPost
  have A0 : Below w.heap.size w (w.alloc (.cells (A4 []) 54)) := (Below.refl _ w).alloc (Nat.le_refl _) _
  have H0 : (w.alloc (.cells (A4 []) 54)).heap[w.heap.size]? = some (.cells (A4 []) 54 (0, 0)) := World.alloc_heap_new w _
  cases hb : wordB l
  · have hr := Lib.hid (read_no l hm hb)
    have A := Lib.hid A0
    have H := Lib.hid H0
    clear A0 H0
    go_enter Try.func45, Try.ntmps45
    go_wp2_with fail
    refine (hr.out _).mono ?_
    rintro e w2 ⟨rfl, B2⟩
    have H2 : Hid (w2.heap[w.heap.size]? = some (.cells (A4 []) 54 (0, 0))) := Lib.hid ((B2.block _ (by simp)).trans H.out)
    have C2 : Hid (Below w.heap.size w w2) := Lib.hid (A.out.trans (B2.mono (by simp)))
    clear B2
    go_wp2_with (refine wpList_store_row rfl 54 _ _ rfl w.heap.size (A4 []) rfl rfl 54 _ H2.out (a4_info _ rfl) rfl (a4_cells _) ?_)
    refine bodyPost_ret (v := .tuple #[.agg (A4 []), .int .i64 1]) ?_ rfl ⟨rfl, ?_⟩
    · exact results_cell_tmp_row Try.results45 _ _ w.heap.size _ _ _ _ rfl (setRow_heap _ _ _ _ _ _ H2.out) Try.underlying54 rfl (a4_info _ rfl)
    · exact below_setRow C2.out (Nat.le_refl _) _
  · have hr := Lib.hid (read_yes l hb)
    have HL := Lib.hid (wordB_lets hb)
    have hn := wordB_len hb
    have hm' : (l.length : Int) ≤ 40 := by omega
    have A := Lib.hid A0
    have H := Lib.hid H0
    clear A0 H0
    go_enter Try.func45, Try.ntmps45
    go_wp2_with fail
    refine (hr.out _).mono ?_
    rintro e w1 ⟨v, rfl, O, B⟩
    have hR := O.row
    obtain ⟨a0, cap0, rfl⟩ := hR.len
    have RW := Lib.hid hR
    have H1 : Hid (w1.heap[w.heap.size]? = some (.cells (A4 []) 54 (0, 0))) := Lib.hid ((B.block _ (by simp)).trans H.out)
    have S1 : Hid (w.heap.size < w1.heap.size) := Lib.hid (by have := B.size; simp at this; omega)
    have C1 : Hid (Below w.heap.size w w1) := Lib.hid (A.out.trans (B.mono (by simp)))
    clear O B hR
    go_wp2
    go_loopw [20] (fun i wr => ∃ k : Nat, k ≤ l.length ∧ i = .int .i64 (k : Int) ∧ wr.heap[w1.heap.size]? = some (.cells (A4 (l.take k)) 54 (0, 0)) ∧ Below w1.heap.size w1 wr) (fun i _ => l.length - (intOf i).toNat)
    case atStart => exact ⟨0, Nat.zero_le _, rfl, World.alloc_heap_new w1 (.cells (A4 []) 54), (Below.refl _ w1).alloc (Nat.le_refl _) _⟩
    case round =>
      obtain ⟨k, hk, rfl, hg, hB⟩ := hrel
      have HG := Lib.hid hg
      have HB := Lib.hid hB
      clear hg hB
      by_cases hlt : k < l.length
      · have t2 : decide (k < l.length) = true := by simpa using hlt
        obtain ⟨b, off, rfl, hcell⟩ : ∃ b o, a0 = some ⟨b, o, none⟩ ∧ wr.cell? ⟨b, o + k, none⟩ = some (.int .u8 (lnum (l[k]'hlt))) := by
          rcases RW.out with ⟨h, h'⟩ | ⟨b, o, c, h, hb, hc⟩
          · subst h'; simp at hlt
          · cases h; exact ⟨b, o, rfl, (HB.out.cell (p := ⟨b, o + k, none⟩) hb).trans (hc k hlt)⟩
        have IL : Hid (isL l[k] = true) := Lib.hid (HL.out _ (List.getElem_mem hlt))
        have hcp := Lib.hid (cap_any l[k] IL.out)
        have hgn := Lib.hid (gen_lit l[k] IL.out)
        have SN : Hid (∀ j, sumL (l.take (k + 1)) j = sumL (l.take k) j + dlt l[k] j) := Lib.hid fun j => by rw [take_snoc l k hlt, sumL_snoc]
        have HK := Lib.hid hlt
        have c0 : wr.cell? ⟨w1.heap.size, 0, none⟩ = some (.int .i64 (sumL (l.take k) 0)) := Lib.cell_of_heap HG.out 0
        have c1 : wr.cell? ⟨w1.heap.size, 1, none⟩ = some (.int .i64 (sumL (l.take k) 1)) := Lib.cell_of_heap HG.out 1
        have c2 : wr.cell? ⟨w1.heap.size, 2, none⟩ = some (.int .i64 (sumL (l.take k) 2)) := Lib.cell_of_heap HG.out 2
        have c3 : wr.cell? ⟨w1.heap.size, 3, none⟩ = some (.int .i64 (sumL (l.take k) 3)) := Lib.cell_of_heap HG.out 3
        have f0 : wr.frozen? ⟨w1.heap.size, 0, none⟩ = false := Lib.frozen_of_heap HG.out 0
        have f1 : wr.frozen? ⟨w1.heap.size, 1, none⟩ = false := Lib.frozen_of_heap HG.out 1
        have f2 : wr.frozen? ⟨w1.heap.size, 2, none⟩ = false := Lib.frozen_of_heap HG.out 2
        have f3 : wr.frozen? ⟨w1.heap.size, 3, none⟩ = false := Lib.frozen_of_heap HG.out 3
        obtain ⟨x0, y0⟩ := sumL_le (l.take k) 0
        obtain ⟨x1, y1⟩ := sumL_le (l.take k) 1
        obtain ⟨x2, y2⟩ := sumL_le (l.take k) 2
        obtain ⟨x3, y3⟩ := sumL_le (l.take k) 3
        have hkl : ((l.take k).length : Int) ≤ 40 := by rw [List.length_take]; omega
        obtain ⟨p0, q0⟩ : -40 ≤ sumL (l.take k) 0 ∧ sumL (l.take k) 0 ≤ 40 := by omega
        obtain ⟨p1, q1⟩ : -40 ≤ sumL (l.take k) 1 ∧ sumL (l.take k) 1 ≤ 40 := by omega
        obtain ⟨p2, q2⟩ : -40 ≤ sumL (l.take k) 2 ∧ sumL (l.take k) 2 ≤ 40 := by omega
        obtain ⟨p3, q3⟩ : -40 ≤ sumL (l.take k) 3 ∧ sumL (l.take k) 3 ≤ 40 := by omega
        clear x0 y0 x1 y1 x2 y2 x3 y3 hkl
        generalize l[k] = c at hcell IL hcp hgn SN
        clear hlt
        have HG2 : Hid (wr.heap[w1.heap.size]? = some (.cells #[.int .i64 (sumL (l.take k) 0), .int .i64 (sumL (l.take k) 1), .int .i64 (sumL (l.take k) 2), .int .i64 (sumL (l.take k) 3)] 54 (0, 0))) := HG
        clear HG
        have NX : Hid (∀ (a0 a1 a2 a3 : Int), a0 = sumL (l.take k) 0 + dlt c 0 → a1 = sumL (l.take k) 1 + dlt c 1 → a2 = sumL (l.take k) 2 + dlt c 2 → a3 = sumL (l.take k) 3 + dlt c 3 → #[Value.int .i64 a0, .int .i64 a1, .int .i64 a2, .int .i64 a3] = A4 (l.take (k + 1))) := Lib.hid (by
          intro a0 a1 a2 a3 h0 h1 h2 h3
          show _ = #[_, _, _, _]
          rw [SN.out 0, SN.out 1, SN.out 2, SN.out 3, h0, h1, h2, h3])
        generalize sumL (l.take k) 0 = s0 at c0 p0 q0 NX HG2
        generalize sumL (l.take k) 1 = s1 at c1 p1 q1 NX HG2
        generalize sumL (l.take k) 2 = s2 at c2 p2 q2 NX HG2
        generalize sumL (l.take k) 3 = s3 at c3 p3 q3 NX HG2
        clear SN
        rcases lcases IL.out with rfl | rfl | rfl | rfl | rfl | rfl | rfl | rfl
        all_goals
          simp only [show lnum 97 = 0 from rfl, show lnum 65 = 1 from rfl, show lnum 98 = 2 from rfl, show lnum 66 = 3 from rfl, show lnum 99 = 4 from rfl, show lnum 67 = 5 from rfl, show lnum 100 = 6 from rfl, show lnum 68 = 7 from rfl] at hcp hgn hcell
          go_wp2_with (first | (go_at_call 82; refine (hcp.out _).mono ?_; rintro e w' ⟨rfl, rfl⟩) | (go_at_call 83; refine (hgn.out _).mono ?_; rintro e w' ⟨rfl, rfl⟩))
          go_roundw
          case rel => exact ⟨k + 1, HK.out, by go_num, by rw [heap_setCell_at HG2.out]; refine congrArg some (congrArg (fun A => Obj.cells A _ (0, 0)) ?_); exact NX.out _ _ _ _ (by simp [dlt, lnum] <;> omega) (by simp [dlt, lnum] <;> omega) (by simp [dlt, lnum] <;> omega) (by simp [dlt, lnum] <;> omega), HB.out.setCell (p := ⟨w1.heap.size, _, none⟩) (by simp) _⟩
          case measure => have := HK.out; simp [intOf]; omega
      · obtain rfl : k = l.length := by omega
        have G1 : Hid (wr.heap[w1.heap.size]? = some (.cells (A4 l) 54 (0, 0))) := Lib.hid (by have := HG.out; rwa [List.take_length] at this)
        have H2 : Hid (wr.heap[w.heap.size]? = some (.cells (A4 []) 54 (0, 0))) := Lib.hid ((HB.out.block _ S1.out).trans H1.out)
        have C2 : Hid (Below w.heap.size w wr) := Lib.hid (C1.out.trans (HB.out.mono C1.out.size))
        clear HG
        go_wp2_with (first | (refine wpList_load_row rfl 54 _ rfl w1.heap.size rfl 54 _ _ _ G1.out Try.underlying54 rfl (a4_info _ rfl) ?_) | (refine wpList_store_row rfl 54 _ _ rfl w.heap.size (A4 l) rfl rfl 54 _ H2.out (a4_info _ rfl) rfl (a4_cells _) ?_))
        refine bodyPost_ret (v := .tuple #[.agg (A4 l), .int .i64 0]) ?_ rfl ⟨rfl, ?_⟩
        · exact results_cell_tmp_row Try.results45 _ _ w.heap.size _ _ _ _ rfl (setRow_heap _ _ _ _ _ _ H2.out) Try.underlying54 rfl (a4_info _ rfl)
        · exact below_setRow C2.out (Nat.le_refl _) _
end Go.Proofs.Ytdcphheeapmjcaa
