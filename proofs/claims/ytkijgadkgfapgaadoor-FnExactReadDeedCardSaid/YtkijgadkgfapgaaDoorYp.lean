/-
  strconv.FormatInt at base 10.
-/
import Derived.Test.YtkijgadkgfapgaaDoorQd
import Derived.Test.YtkijgadkgfapgaaDoorShN
import Derived.Lib.IndexLaws
import Derived.Lib.LaidTab
namespace Go.Proofs.YtkijgadkgfapgaaDoor
open Go.ChangeShapes Go.WideShapes Go.ChangeAt Go.RowKit
open Fl «Sort»
/-- the table of the powers of ten -/
def Pow (w : World) : Prop := Lib.TabIs Tryd.prog w "internal/strconv.uint64pow10" .u64 Lib.pow10Tab
theorem gP : Tryd.prog.globalNamed "internal/strconv.uint64pow10" = some 1 := by kernel_rfl
theorem Pow.below {B : Nat} {w w' : World} (h : Pow w) (hb : Below B w w') (hB : 1 < B) : Pow w' := by
  unfold Pow Lib.TabIs World.var? at *
  rw [gP] at h ⊢
  simp only [Option.bind_some] at h ⊢
  rw [hb.block _ hB]
  exact h
theorem below_grow (w : World) (k : Nat) (os : Array Obj) : Below w.heap.size w (grow (w.drewN k) os) := by
  refine ⟨rfl, rfl, rfl, ?_, fun j hj => ?_⟩
  · show w.heap.size ≤ (w.heap ++ os).size
    simp
  · show (w.heap ++ os)[j]? = w.heap[j]?
    rw [Array.getElem?_append_left hj]
theorem formatInt_any (n : Nat) (hn : n ≤ 1000000000) (w : World) (hT : Pow w) :
    Calls Tryd.prog 32 #[.int .i64 (n : Int), .int .i64 10] w fun e w' => e = .returned (.string ⟨(Lib.decDigits n).toArray⟩) ∧ Below w.heap.size w w' := by
  have H := Lib.hid (fun w h => Tryd.internal_strconv_FormatInt_10 (n : Int) (by omega) (by omega) w h)
  have e1 : Lib.itoa (n : Int) = Lib.decDigits n := by unfold Lib.itoa; rw [if_neg (by omega)]; simp
  rw [← e1]
  generalize (⟨(Lib.itoa (n : Int)).toArray⟩ : ByteArray) = T at H ⊢
  have HT := Lib.hid hT
  clear hT e1
  go_enter Tryd.func32, Tryd.ntmps32
  go_wp2_with fail
  refine (H.out _ HT.out).mono ?_
  rintro e w' ⟨rfl, k, os, rfl⟩
  have B := Lib.hid (below_grow w k os)
  generalize grow (w.drewN k) os = w1 at B ⊢
  go_wp2
  go_ret
  exact ⟨rfl, B.out⟩
end Go.Proofs.YtkijgadkgfapgaaDoor
