/-
  MORE LAWS OF WORDS, given the program's own contracts: the law returns true.
-/
import Derived.Test.YtdcphheeapmjcaaWdl
import Derived.Test.YtdcphheeapmjcaaWdu
namespace Go.Proofs.Ytdcphheeapmjcaa
open Go.ChangeShapes Go.WideShapes Go.ChangeAt Go.RowKit
open Wd
theorem drewN_below {B : Nat} {w w1 : World} (h : ∃ n, w1 = w.drewN n) : Below B w w1 := by
  obtain ⟨n, rfl⟩ := h
  exact ⟨rfl, rfl, rfl, Nat.le_refl _, fun _ _ => rfl⟩
theorem same_below {B : Nat} {w w1 : World} (h : w = w1) : Below B w w1 := h ▸ Below.refl _ _
end Go.Proofs.Ytdcphheeapmjcaa
