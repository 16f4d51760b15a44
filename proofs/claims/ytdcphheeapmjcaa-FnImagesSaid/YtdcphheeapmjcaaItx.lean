/-
  CONTRACTS: the program's (letters).text, (letters).limitedText.
-/
import Derived.Test.YtdcphheeapmjcaaIbw
import Derived.Test.YtdcphheeapmjcaaShS
import Derived.Test.YtdcphheeapmjcaaGa
import Derived.RangeFuncBox
import Derived.RangeFuncRecord
namespace Go.Proofs.Ytdcphheeapmjcaa
open Go.ChangeShapes Go.WideShapes Go.ChangeAt Go.RowKit
open Wd
theorem idx_num (c : UInt8) (hc : isL c = true) (w : World) :
    (Instr.index 9 (.string { data := #[97, 65, 98, 66, 99, 67, 100, 68] }) (.int .u8 (lnum c))).run Try.prog w = .ok (.int .u8 ((c.toNat : Nat) : Int)) w := by
  rcases lcases hc with rfl | rfl | rfl | rfl | rfl | rfl | rfl | rfl
  all_goals
    rw [run_index_string w 9 _ .u8 _ Try.underlying9, dif_pos ⟨by decide, by decide⟩]
    rfl
theorem bc_snoc (l : List UInt8) (k : Nat) (h : k < l.length) : Lib.byteCells (l.take k) ++ [.int .u8 (((l[k]'h).toNat : Nat) : Int)] = Lib.byteCells (l.take (k + 1)) := by
  rw [take_snoc l k h, Lib.byteCells, Lib.byteCells, List.map_append]; rfl
theorem bnew (w : World) : Bld w.heap.size w.heap.size [] (w.alloc (.cells #[.pointer none, .slice none 0 0] 112)) :=
  .inl ⟨Nat.le_refl _, .slice none 0 0, World.alloc_heap_new w _, World.ownsRow_nil _ _ _ _, by simp [Value.ownBlock]⟩
set_option maxRecDepth 100000 in
set_option maxHeartbeats 2000000 in
theorem itext_any (v : Value) (l : List UInt8) (hl : ∀ c ∈ l, isL c = true) (hm : l.length ≤ 4000000) (w : World) (hI : LRow w.heap.size w v l) :
    Calls Try.prog 57 #[v] w fun e w' => e = .returned (.string (txt l)) ∧ Below w.heap.size w w' := by
  obtain ⟨a0, cap0, rfl⟩ := hI.len
  have HI := Lib.hid hI
  have HL := Lib.hid hl
  have hm' : (l.length : Int) ≤ 4000000 := by omega
  clear hI hl
  go_enter Try.func57, Try.ntmps57
  go_wp2
  go_loopw [8] (fun i wr => ∃ k : Nat, k ≤ l.length ∧ i = .int .i64 (k : Int) ∧ Bld w.heap.size w.heap.size (Lib.byteCells (l.take k)) wr ∧ Below w.heap.size w wr) (fun i _ => l.length - (intOf i).toNat)
  case atStart => exact ⟨0, Nat.zero_le _, rfl, bnew w, (Below.refl _ w).alloc (Nat.le_refl _) _⟩
  case round =>
    obtain ⟨k, hk, rfl, hb, hB⟩ := hrel
    have BL := Lib.hid hb
    have BB := Lib.hid hB
    clear hb hB
    by_cases hlt : k < l.length
    · have t2 : decide (k < l.length) = true := by simpa using hlt
      obtain ⟨b, off, rfl, hcell⟩ : ∃ b o, a0 = some ⟨b, o, none⟩ ∧ wr.cell? ⟨b, o + k, none⟩ = some (.int .u8 (lnum (l[k]'hlt))) := by
        rcases HI.out with ⟨h, h'⟩ | ⟨b, o, c, h, hb, hc⟩
        · subst h'; simp at hlt
        · cases h; exact ⟨b, o, rfl, (BB.out.cell (p := ⟨b, o + k, none⟩) hb).trans (hc k hlt)⟩
      have hix := idx_num l[k] (HL.out _ (List.getElem_mem hlt))
      have HS := Lib.hid (bc_snoc l k hlt)
      have hwb := Lib.hid (bwrite_any w.heap.size w.heap.size (Lib.byteCells (l.take k)) (((l[k]'hlt).toNat : Nat) : Int) wr BL.out (by simp [Lib.byteCells]; omega) BB.out.size)
      have HK := Lib.hid hlt
      generalize l[k] = c at hcell hix HS hwb
      go_wp2_with (go_at_call 92; refine (hwb.out).mono ?_; rintro e w2 ⟨rfl, hb2, hB2⟩; have BL2 := Lib.hid hb2; have BB2 := Lib.hid hB2; clear hb2 hB2)
      go_roundw
      case rel => exact ⟨k + 1, HK.out, by go_num, by rw [← HS.out]; exact BL2.out, BB.out.trans BB2.out⟩
      case measure => have := HK.out; simp [intOf]; omega
    · obtain rfl : k = l.length := by omega
      have hst := Lib.hid (Try.Builder_String_any w.heap.size w.heap.size l wr (by have := BL.out; rwa [List.take_length] at this) BB.out.size)
      go_wp2_with (go_at_call 93; refine (hst.out).mono ?_; rintro e w2 ⟨rfl, hB2⟩)
      go_ret
      exact ⟨rfl, BB.out.trans hB2⟩
end Go.Proofs.Ytdcphheeapmjcaa
