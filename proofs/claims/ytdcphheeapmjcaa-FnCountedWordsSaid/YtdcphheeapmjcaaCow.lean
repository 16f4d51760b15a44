/-
  CONTRACTS: CodeOfWord of the program and of the specification; the law.
-/
import Derived.Test.YtdcphheeapmjcaaCo
namespace Go.Proofs.Ytdcphheeapmjcaa
open Go.ChangeShapes Go.WideShapes Go.ChangeAt Go.RowKit
open Wd
/-- the code of a word; nothing but zeros if it is none -/
def codeF (l : List UInt8) : Nat → Int := if wordB l then cdF l (3 * l.length) else fun _ => 0
abbrev A16 (f : Nat → Int) : Array Value := #[.int .u8 (f 0), .int .u8 (f 1), .int .u8 (f 2), .int .u8 (f 3), .int .u8 (f 4), .int .u8 (f 5), .int .u8 (f 6), .int .u8 (f 7), .int .u8 (f 8), .int .u8 (f 9), .int .u8 (f 10), .int .u8 (f 11), .int .u8 (f 12), .int .u8 (f 13), .int .u8 (f 14), .int .u8 (f 15)]
theorem arr16 (f : Nat → Int) : arr .u8 16 f = A16 f := rfl
def CwPost (l : List UInt8) (w : World) (e : Ending) (w' : World) : Prop := e = .returned (.tuple #[.agg (arr .u8 16 (codeF l)), .int .i64 (if wordB l then 0 else 1)]) ∧ Below w.heap.size w w'
set_option maxRecDepth 100000 in
set_option maxHeartbeats 2000000 in
theorem icode_any (l : List UInt8) (hm : l.length ≤ 4000000) (w : World) : Calls Try.prog 21 #[.string (txt l)] w (CwPost l w) := by
  unfold CwPost codeF
  have A0 : Below w.heap.size w (w.alloc (.cells (arr .u8 16 (fun _ => 0)) 31)) := (Below.refl _ w).alloc (Nat.le_refl _) _
  have H0 : (w.alloc (.cells (arr .u8 16 (fun _ => 0)) 31)).heap[w.heap.size]? = some (.cells (arr .u8 16 (fun _ => 0)) 31 (0, 0)) := World.alloc_heap_new w _
  cases hb : wordB l
  · have hr := Lib.hid (read_no l hm hb)
    have A := Lib.hid A0
    have H := Lib.hid H0
    clear A0 H0
    go_enter Try.func21, Try.ntmps21
    go_wp2_with fail
    refine (hr.out _).mono ?_
    rintro e w2 ⟨rfl, B2⟩
    have H2 : Hid (w2.heap[w.heap.size]? = some (.cells (arr .u8 16 (fun _ => 0)) 31 (0, 0))) := Lib.hid ((B2.block _ (by simp)).trans H.out)
    have C2 : Hid (Below w.heap.size w w2) := Lib.hid (A.out.trans (B2.mono (by simp)))
    clear B2
    go_wp2_with (refine wpList_store_row rfl 31 _ _ rfl w.heap.size (arr .u8 16 (fun _ => 0)) rfl rfl 31 _ H2.out (code_info _ (arr_size _ _ _)) rfl (arr_cells _ _ _) ?_)
    refine bodyPost_ret (v := .tuple #[.agg (arr .u8 16 (fun _ => 0)), .int .i64 1]) ?_ rfl ⟨rfl, ?_⟩
    · exact results_cell_tmp_row Try.results21 _ _ w.heap.size _ _ _ _ rfl (setRow_heap _ _ _ _ _ _ H2.out) Try.underlying31 rfl (code_info _ (arr_size _ _ _))
    · exact below_setRow C2.out (Nat.le_refl _) _
  · have hr := Lib.hid (read_yes l hb)
    have HL := Lib.hid (wordB_lets hb)
    have hn := wordB_len hb
    have HN := Lib.hid hn
    have A := Lib.hid A0
    have H := Lib.hid H0
    clear A0 H0
    go_enter Try.func21, Try.ntmps21
    go_wp2_with fail
    refine (hr.out _).mono ?_
    rintro e w1 ⟨v, rfl, O, B⟩
    have hR := O.row
    obtain ⟨a0, cap0, rfl⟩ := hR.len
    have H1 : Hid (w1.heap[w.heap.size]? = some (.cells (arr .u8 16 (fun _ => 0)) 31 (0, 0))) := Lib.hid ((B.block _ (by simp)).trans H.out)
    have S1 : Hid (w.heap.size < w1.heap.size) := Lib.hid (by have := B.size; simp at this; omega)
    have C1 : Hid (Below w.heap.size w w1) := Lib.hid (A.out.trans (B.mono (by simp)))
    have CD := Lib.hid (coded_any _ l HL.out HN.out w1 hR)
    clear O B hR
    go_wp2_with fail
    refine CD.out.mono ?_
    rintro e w2 ⟨rfl, B2⟩
    have H2 : Hid (w2.heap[w.heap.size]? = some (.cells (arr .u8 16 (fun _ => 0)) 31 (0, 0))) := Lib.hid ((B2.block _ S1.out).trans H1.out)
    have C2 : Hid (Below w.heap.size w w2) := Lib.hid (C1.out.trans (B2.mono C1.out.size))
    clear B2
    go_wp2_with (refine wpList_store_row rfl 31 _ _ rfl w.heap.size (arr .u8 16 (cdF l (3 * l.length))) rfl rfl 31 _ H2.out (code_info _ (arr_size _ _ _)) (by rw [arr_size, arr_size]) (arr_cells _ _ _) ?_)
    refine bodyPost_ret (v := .tuple #[.agg (arr .u8 16 (cdF l (3 * l.length))), .int .i64 0]) ?_ rfl ⟨rfl, ?_⟩
    · exact results_cell_tmp_row Try.results21 _ _ w.heap.size _ _ _ _ rfl (setRow_heap _ _ _ _ _ _ H2.out) Try.underlying31 rfl (code_info _ (arr_size _ _ _))
    · exact below_setRow C2.out (Nat.le_refl _) _
end Go.Proofs.Ytdcphheeapmjcaa
