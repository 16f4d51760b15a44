/-
  KEYS OF POINTS: words of four bytes, the highest one first.
-/
import Derived.Test.YtkijgadkgfapgaaConK
import Derived.Test.YtkijgadkgfapgaaArr
import Derived.LoopTactic
import Derived.Laws.Rows
import Derived.Laws.Tables
import Derived.Laws.CopyOwn
namespace Go.Proofs.Ytkijgadkgfapgaa
open Go.ChangeShapes Go.WideShapes Go.ChangeAt Go.RowKit
open Fl
theorem info_b4 (f : Nat → Int) : (Try.prog.info? 206).map (·.size) = some (arr .u8 4 f).size := by rw [arr_size]; kernel_rfl
theorem info_key (f : Nat → Int) : (Try.prog.info? 156).map (·.size) = some (arr .u8 8 f).size := by rw [arr_size]; kernel_rfl
theorem info_b8 (f : Nat → Int) : (Try.prog.info? 155).map (·.size) = some (arr .u8 8 f).size := by rw [arr_size]; kernel_rfl
/-- the number with the bytes from o on, the highest one first -/
def hdB (f : Nat → Int) (o : Nat) : Nat → Nat
  | 0 => 0
  | k + 1 => hdB f o k * 256 + (f (o + k)).toNat
theorem hdB_lt (f : Nat → Int) (o : Nat) : ∀ k, (∀ i, i < k → 0 ≤ f (o + i) ∧ f (o + i) ≤ 255) → hdB f o k < 256 ^ k
  | 0, _ => by simp [hdB]
  | k + 1, h => by
    have ih := hdB_lt f o k (fun i hi => h i (by omega))
    have hb := h k (by omega)
    have hp : (256 : Nat) ^ (k + 1) = 256 ^ k * 256 := Nat.pow_succ ..
    unfold hdB
    omega
theorem hdB_24 {f : Nat → Int} {o k : Nat} (hk : k < 4) (h : ∀ i, i < k → 0 ≤ f (o + i) ∧ f (o + i) ≤ 255) : hdB f o k ≤ 16777215 := by
  have := hdB_lt f o k h
  have h2 : (256 : Nat) ^ k ≤ 256 ^ 3 := Nat.pow_le_pow_right (by omega) (by omega)
  omega
theorem or_byte (x : Nat) (y : Int) (hx : x ≤ 16777215) (h0 : 0 ≤ y) (h1 : y ≤ 255) : bits .or .u32 ((x : Int) * 256) y = ((x * 256 + y.toNat : Nat) : Int) := by
  obtain ⟨b, rfl⟩ : ∃ b : Nat, y = b := ⟨y.toNat, by omega⟩
  have e : ((x : Int) * 256) = ((x * 256 : Nat) : Int) := by omega
  rw [e, u32_or_nat _ _ (by omega) (by omega)]
  rw [show x * 256 = 2 ^ 8 * x from by omega, Nat.two_pow_add_eq_or_of_lt (by omega) x |>.symm]
  rfl
theorem wordOf_any (f : Nat → Int) (hf : ∀ i, i < 4 → 0 ≤ f i ∧ f i ≤ 255) (w : World) :
    Calls Try.prog 129 #[.agg (arr .u8 4 f)] w fun e w' => e = .returned (.int .u32 (hdB f 0 4 : Nat)) ∧ w.alloc (.cells (arr .u8 4 f) 206) = w' := by
  have HB := Lib.hid (heap_alloc_new w (.cells (arr .u8 4 f) 206 (0, 0)))
  go_enter Try.func129, Try.ntmps129
  go_wp2_with (refine wpList_load_row rfl 206 _ rfl w.heap.size rfl 206 _ _ _ HB.out Try.underlying206 rfl (info_b4 _) ?_)
  go_loop [3, 7] (fun x i => ∃ k : Nat, k ≤ 4 ∧ i = .int .i64 k ∧ x = .int .u32 (hdB f 0 k : Nat)) (fun _ i => 4 - (intOf i).toNat)
  case atStart => exact ⟨0, by omega, rfl, rfl⟩
  case round =>
    obtain ⟨k, hk, rfl, rfl⟩ := hrel
    by_cases hlt : k < 4
    · have hix := fun w => run_index_arr (P := Try.prog) .i64 f k Try.underlying206 Try.underlying5 (by kernel_rfl) hlt w
      have hs : hdB f 0 (k + 1) = hdB f 0 k * 256 + (f k).toNat := by simp [hdB]
      have hx1 := hdB_24 (f := f) (o := 0) hlt (fun i hi => by simpa using hf i (by omega))
      obtain ⟨b0, b1⟩ := hf k hlt
      have hor := or_byte _ _ hx1 b0 b1
      rw [← hs] at hor
      have hx0 : (0 : Int) ≤ (hdB f 0 k : Nat) := by omega
      have hx2 : ((hdB f 0 k : Nat) : Int) ≤ 16777215 := by omega
      clear hf hs hx1
      go_wp2
      go_round
      case rel => exact ⟨k + 1, by omega, by go_num, rfl⟩
      case measure => simp [intOf]; omega
    · obtain rfl : k = 4 := by omega
      clear hf
      go_wp2
      go_ret
      exact ⟨rfl, rfl⟩
end Go.Proofs.Ytkijgadkgfapgaa
