/-
  CONTRACTS: SeekPoint as the law calls it.
-/
import Derived.Test.YtkijgadkgfapgaaYzd
import Derived.Test.YtkijgadkgfapgaaHc
import Derived.Test.YtkijgadkgfapgaaCx
namespace Go.Proofs.Ytkijgadkgfapgaa
open Go.ChangeShapes Go.WideShapes Go.ChangeAt Go.RowKit
def skRe (f : Nat → Int) (n : Nat) (k : Int) : Nat := if skC f n k = 0 then reB (skB f k.toNat) else 0
def skIm (f : Nat → Int) (n : Nat) (k : Int) : Nat := if skC f n k = 0 then imB (skB f k.toNat) else 0
theorem skX_eq (f : Nat → Int) (n : Nat) (k : Int) : skX f n k = .complex .f32 (skRe f n k) (skIm f n k) := by
  unfold skX skRe skIm
  by_cases h : skC f n k = 0
  · rw [if_pos h, if_pos h, if_pos h]
  · rw [if_neg h, if_neg h, if_neg h]
theorem skM_le (f : Nat → Int) (n : Nat) (k : Int) : skM f n k ≤ 1048576 := by
  unfold skM skN
  split
  · split <;> omega
  · omega
theorem SkPost.open {f : Nat → Int} {n : Nat} {k : Int} {w : World} {e : Ending} {w' : World} (h : SkPost f n k w e w') :
    ∃ v, e = .returned (.tuple #[.complex .f32 (skRe f n k) (skIm f n k), v, .int .i64 (skC f n k)]) ∧ PR 1 w.heap.size w'.heap.size w' v (skM f n k) (FL (skQ k.toNat)) ∧ Below w.heap.size w w' := by
  obtain ⟨v, he, hp, hb⟩ := h
  exact ⟨v, by rw [he, skX_eq], hp, hb⟩
theorem sSeekU_any (n : Nat) (hn : n ≤ 1048576) (f : Nat → Int) (hf : ByF (16 * n) f) (k : Int) (a : Option Addr) (cap : Nat) (w : World) (h : FrR w.heap.size w a n f) :
    Calls Try.prog 33 #[.slice a n cap, .int .i64 k] w fun e w' => ∃ v, e = .returned (.tuple #[.complex .f32 (skRe f n k) (skIm f n k), v, .int .i64 (skC f n k)]) ∧ PR 1 w.heap.size w'.heap.size w' v (skM f n k) (FL (skQ k.toNat)) ∧ Below w.heap.size w w' :=
  (sSeek_any n hn f hf a cap w h k).mono fun _ _ h => h.open
theorem iSeekU_any (n : Nat) (hn : n ≤ 1048576) (f : Nat → Int) (hf : ByF (16 * n) f) (k : Int) (a : Option Addr) (cap : Nat) (w : World) (h : FrR w.heap.size w a n f) (hk : SlOk a n cap) :
    Calls Try.prog 34 #[.slice a n cap, .int .i64 k] w fun e w' => ∃ v, e = .returned (.tuple #[.complex .f32 (skRe f n k) (skIm f n k), v, .int .i64 (skC f n k)]) ∧ PR 1 w.heap.size w'.heap.size w' v (skM f n k) (FL (skQ k.toNat)) ∧ Below w.heap.size w w' :=
  (iSeek_any n hn f hf a cap w h hk k).mono fun _ _ h => h.open
end Go.Proofs.Ytkijgadkgfapgaa
