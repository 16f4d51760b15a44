/-
  THE LAW's COPY of a slice of bytes.
-/
import Derived.Test.YtfnaddpohkbbnaaUk
namespace Go.Proofs.Ytfnaddpohkbbnaa
open Go.ChangeShapes Go.WideShapes Go.ChangeAt Go.RowKit
def rowY (D : List UInt8) (k n : Nat) : Array Value := ((List.range n).map fun i => if i < k then Value.int .u8 (((D[i]?.getD 0).toNat : Nat) : Int) else Value.int .u8 0).toArray
theorem rowY_size (D : List UInt8) (k n : Nat) : (rowY D k n).size = n := by simp [rowY]
theorem rowY_get (D : List UInt8) (k n i : Nat) (h : i < n) : (rowY D k n)[i]? = some (if i < k then Value.int .u8 (((D[i]?.getD 0).toNat : Nat) : Int) else Value.int .u8 0) := by
  simp [rowY, h]
theorem rowY_set (D : List UInt8) (k n : Nat) (h : k < n) : (rowY D k n).setIfInBounds k (.int .u8 (((D[k]?.getD 0).toNat : Nat) : Int)) = rowY D (k + 1) n := by
  apply Array.ext_getElem?
  intro i
  rw [Array.getElem?_setIfInBounds]
  by_cases hi : i < n
  · rw [rowY_get D (k + 1) n i hi]
    by_cases hk : k = i
    · subst hk
      rw [if_pos rfl, if_pos (by rw [rowY_size]; exact h), if_pos (by omega)]
    · rw [if_neg hk, rowY_get D k n i hi]
      congr 1
      by_cases h1 : i < k
      · rw [if_pos h1, if_pos (by omega)]
      · rw [if_neg h1, if_neg (by omega)]
  · have e1 : (rowY D (k + 1) n)[i]? = none := Array.getElem?_eq_none (by rw [rowY_size]; omega)
    have e2 : (rowY D k n)[i]? = none := Array.getElem?_eq_none (by rw [rowY_size]; omega)
    rw [e1]
    by_cases hk : k = i
    · omega
    · rw [if_neg hk, e2]
theorem madeY_zero (n : Nat) : madeCells #[.int .u8 0] n = rowY [] 0 n := by
  apply Array.ext_getElem?
  intro i
  by_cases hi : i < n
  · rw [rowY_get _ _ _ _ hi]
    simp [madeCells, hi, Nat.mod_one]
  · rw [Array.getElem?_eq_none (by simp [madeCells]; omega), Array.getElem?_eq_none (by rw [rowY_size]; omega)]
theorem rowY_zero (D : List UInt8) (n : Nat) : rowY D 0 n = rowY [] 0 n := by simp [rowY]
theorem make_u8 (n : Nat) (h : n ≤ 1048576) (w : World) : (Instr.makeSlice YS (.int .i64 (n : Int)) (.int .i64 (n : Int))).run Try.prog w = .ok (.slice (some ⟨w.heap.size, 0, none⟩) n n) (w.alloc (.cells (rowY [] 0 n) 5)) := by
  rw [← madeY_zero]
  exact run_make_row' YS 5 (.int .u8 0) 1 Try.underlying29 info_byte rfl .i64 .i64 n (by omega) (by omega) w
theorem toY_any (a : Option Addr) (cap : Nat) (D : List UInt8) (B : Nat) (w : World) (hB : B ≤ w.heap.size) (h : DR B w a D) (hl : D.length ≤ 1048576) :
    Calls Try.prog 25 #[.slice a D.length cap] w fun e w' => e = .returned (.slice (some ⟨w.heap.size, 0, none⟩) D.length D.length) ∧ DR (w.heap.size + 1) w' (some ⟨w.heap.size, 0, none⟩) D ∧ Below w.heap.size w w' ∧ w.heap.size < w'.heap.size := by
  obtain ⟨len, hlen⟩ : ∃ len, D.length = len := ⟨_, rfl⟩
  have HLN := Lib.hid hlen
  have hl2 : len ≤ 1048576 := by omega
  rw [hlen]
  have hmk := fun w => make_u8 len hl2 w
  have hz := rowY_zero D len
  rw [← hz] at hmk
  clear hz hlen hl
  have hl' : (len : Int) ≤ 1048576 := by omega
  go_enter Try.func25, Try.ntmps25
  go_wp2
  go_loopw [4] (fun i wr => ∃ k : Nat, k ≤ len ∧ i = .int .i64 k ∧ wr = w.alloc (.cells (rowY D k len) 5)) (fun i _ => len - (intOf i).toNat)
  case atStart => exact ⟨0, Nat.zero_le _, rfl, rfl⟩
  case round =>
    obtain ⟨k, hk, rfl, rfl⟩ := hrel
    by_cases hlt : k < len
    · rcases h with h3 | ⟨b, off, rfl, hb, hc⟩
      · have := HLN.out; omega
      · have g1 : (w.alloc (.cells (rowY D k len) 5)).cell? ⟨b, off + k, none⟩ = some (.int .u8 (((D[k]?.getD 0).toNat : Nat) : Int)) := by
          rw [World.cell?_alloc_lt _ _ _ (by show b < _; omega), hc k (by have := HLN.out; omega), List.getElem?_eq_getElem (by have := HLN.out; omega)]
          rfl
        have g2 : (rowY D k len)[k]? = some (.int .u8 0) := by
          rw [rowY_get _ _ _ _ hlt, if_neg (by omega)]
        have hset := rowY_set D k len hlt
        clear hc
        go_wp2
        go_roundw
        case rel => exact ⟨k + 1, by omega, by go_num, rfl⟩
        case measure => simp [intOf]; omega
    · obtain rfl : k = len := by omega
      have hD : DR (w.heap.size + 1) (w.alloc (.cells (rowY D k k) 5)) (some ⟨w.heap.size, 0, none⟩) D := .inr ⟨_, 0, rfl, Nat.lt_succ_self _, fun j hj => by
        have hj' : j < k := by have := HLN.out; omega
        rw [Nat.zero_add, Lib.cell_of_heap (World.alloc_heap_new w _) j, rowY_get _ _ _ _ hj', if_pos hj', List.getElem?_eq_getElem hj]
        rfl⟩
      have HDD := Lib.hid hD
      clear hD
      go_wp2
      go_ret
      exact ⟨rfl, HDD.out, (Below.refl _ w).alloc (Nat.le_refl _) _, by simp⟩
end Go.Proofs.Ytfnaddpohkbbnaa
