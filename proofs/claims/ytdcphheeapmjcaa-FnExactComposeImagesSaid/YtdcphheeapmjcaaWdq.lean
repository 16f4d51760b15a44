/-
  CONTRACTS: the specification's IsReduced, JoinReduced.
-/
import Derived.Test.YtdcphheeapmjcaaWdn
namespace Go.Proofs.Ytdcphheeapmjcaa
open Go.ChangeShapes Go.WideShapes Go.ChangeAt Go.RowKit
open Wd
theorem txt_inj {a b : List UInt8} : txt a = txt b ↔ a = b := by
  constructor
  · intro h
    have := congrArg (fun t => t.data.toList) h
    simpa [txt] using this
  · rintro rfl; rfl
theorem txt_beq (a b : List UInt8) : ((txt a).toList == (txt b).toList) = decide (a = b) := by
  rw [ByteArray.toList_eq, ByteArray.toList_eq]
  simp only [txt]
  by_cases h : a = b
  · subst h; simp
  · simp [h]
end Go.Proofs.Ytdcphheeapmjcaa
