/-
  SLICES OF NARROW NUMBERS: what is known of one that came in; the law's own copy of it.
-/
import Derived.Test.YtgjejolfkfpobaaBase
namespace Go.Proofs.Ytgjejolfkfpobaa
open Go.ChangeShapes Go.WideShapes Go.ChangeAt Go.RowKit Go.Deep
open Fl

/-- a row of n cells of which the first k hold numbers of the list, the others zeros -/
def rowC (bs : List Nat) (k n : Nat) : Array Value := ((List.range n).map fun i => if i < k then Value.float .f32 (bs[i]?.getD 0) else Value.float .f32 0).toArray
theorem rowC_size (bs : List Nat) (k n : Nat) : (rowC bs k n).size = n := by simp [rowC]
theorem rowC_get (bs : List Nat) (k n i : Nat) (h : i < n) : (rowC bs k n)[i]? = some (if i < k then Value.float .f32 (bs[i]?.getD 0) else Value.float .f32 0) := by
  simp [rowC, h]
theorem rowC_set (bs : List Nat) (k n : Nat) (h : k < n) : (rowC bs k n).setIfInBounds k (.float .f32 (bs[k]?.getD 0)) = rowC bs (k + 1) n := by
  apply Array.ext_getElem?
  intro i
  rw [Array.getElem?_setIfInBounds]
  by_cases hi : i < n
  · rw [rowC_get bs (k + 1) n i hi]
    by_cases hk : k = i
    · subst hk
      rw [if_pos rfl, if_pos (by rw [rowC_size]; exact h), if_pos (by omega)]
    · rw [if_neg hk, rowC_get bs k n i hi]
      congr 1
      by_cases h1 : i < k
      · rw [if_pos h1, if_pos (by omega)]
      · rw [if_neg h1, if_neg (by omega)]
  · have e1 : (rowC bs (k + 1) n)[i]? = none := Array.getElem?_eq_none (by rw [rowC_size]; omega)
    have e2 : (rowC bs k n)[i]? = none := Array.getElem?_eq_none (by rw [rowC_size]; omega)
    rw [e1]
    by_cases hk : k = i
    · omega
    · rw [if_neg hk, e2]
theorem made_zero (n : Nat) : madeCells #[.float .f32 0] n = rowC [] 0 n := by
  apply Array.ext_getElem?
  intro i
  by_cases hi : i < n
  · rw [rowC_get _ _ _ _ hi]
    simp [madeCells, hi, Nat.mod_one]
  · rw [Array.getElem?_eq_none (by simp [madeCells]; omega), Array.getElem?_eq_none (by rw [rowC_size]; omega)]
theorem rowC_zero (bs : List Nat) (n : Nat) : rowC bs 0 n = rowC [] 0 n := by simp [rowC]
/-- a slice of numbers that came in: it is nil, it is empty, or it leads to cells that hold the numbers -/
def FRow (w : World) (a : Option Addr) (len : Nat) (bs : List Nat) : Prop :=
  bs.length = len ∧ (∀ i, i < len → W32 (bs[i]?.getD 0)) ∧
  (len = 0 ∨ ∃ b off, a = some ⟨b, off, none⟩ ∧ b < w.heap.size ∧ ∀ i, i < len → w.cell? ⟨b, off + i, none⟩ = some (.float .f32 (bs[i]?.getD 0)))
theorem info_f32 : (Try.prog.info? 31).map (fun i => (i.zero, i.size, i.bytes)) = some (some (.float .f32 0), 1, 4) := by kernel_rfl
theorem make_f32 (n : Nat) (h : n ≤ 1048576) (w : World) : (Instr.makeSlice 24 (.int .i64 (n : Int)) (.int .i64 (n : Int))).run Try.prog w = .ok (.slice (some ⟨w.heap.size, 0, none⟩) n n) (w.alloc (.cells (rowC [] 0 n) 31)) := by
  rw [← made_zero]
  exact run_make_row' 24 31 (.float .f32 0) 4 Try.underlying24 info_f32 rfl .i64 .i64 n (by omega) (by omega) w
/-- THE LAW's COPY: a new block that holds the numbers. -/
theorem toF_any (a : Option Addr) (len cap : Nat) (bs : List Nat) (w : World) (h : FRow w a len bs) (hl : len ≤ 1048576) :
    Calls Try.prog 29 #[.slice a len cap] w fun e w' => e = .returned (.slice (some ⟨w.heap.size, 0, none⟩) len len) ∧ w.alloc (.cells (rowC bs len len) 31) = w' := by
  obtain ⟨h1, h2, h3⟩ := h
  have hmk := fun w => make_f32 len hl w
  have hz := rowC_zero bs len
  rw [← hz] at hmk
  clear hz h1 h2
  have hl' : (len : Int) ≤ 1048576 := by omega
  go_enter Try.func29, Try.ntmps29
  go_wp2
  go_loopw [4] (fun i wr => ∃ k : Nat, k ≤ len ∧ i = .int .i64 k ∧ wr = w.alloc (.cells (rowC bs k len) 31)) (fun i _ => len - (intOf i).toNat)
  case atStart => exact ⟨0, Nat.zero_le _, rfl, rfl⟩
  case round =>
    obtain ⟨k, hk, rfl, rfl⟩ := hrel
    by_cases hlt : k < len
    · rcases h3 with h3 | ⟨b, off, rfl, hb, hc⟩
      · omega
      · have g1 : (w.alloc (.cells (rowC bs k len) 31)).cell? ⟨b, off + k, none⟩ = some (.float .f32 (bs[k]?.getD 0)) := by
          rw [World.cell?_alloc_lt _ _ _ hb]; exact hc k hlt
        have g2 : (rowC bs k len)[k]? = some (.float .f32 0) := by
          rw [rowC_get _ _ _ _ hlt, if_neg (by omega)]
        have hset := rowC_set bs k len hlt
        clear hc
        go_wp2
        go_roundw
        case rel => exact ⟨k + 1, by omega, by go_num, rfl⟩
        case measure => simp [intOf]; omega
    · obtain rfl : k = len := by omega
      go_wp2
      go_ret
      exact ⟨rfl, rfl⟩
end Go.Proofs.Ytgjejolfkfpobaa
