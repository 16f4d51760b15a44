/-
  CONTRACTS: the specification's ValidWord, InverseWord, ReduceWord, l05Told, PowerWord.
-/
import Derived.Test.YtdcphheeapmjcaaWde
namespace Go.Proofs.Ytdcphheeapmjcaa
open Go.ChangeShapes Go.WideShapes Go.ChangeAt Go.RowKit
open Wd
/-- a text and a code -/
def TextPost (r : List UInt8) (c : Int) (w : World) (e : Ending) (w' : World) : Prop := e = .returned (.tuple #[.string (txt r), .int .i64 c]) ∧ Below w.heap.size w w'
theorem told_any (l : List UInt8) (hm : l.length ≤ 4000000) (w : World) :
    Calls Try.prog 68 #[.string (txt l)] w fun e w' => e = .returned (.tuple #[.string (txt (if l.length ≤ 40 then l else [])), .int .i64 (if l.length ≤ 40 then 0 else 3)]) ∧ w = w' := by
  have hs := txt_size l
  by_cases h : l.length ≤ 40
  · rw [if_pos h, if_pos h]
    have t1 : decide ((40 : Int) < (l.length : Int)) = false := by simp; omega
    go_enter Try.func68, Try.ntmps68
    go_wp2
    go_ret2
    exact ⟨rfl, rfl⟩
  · rw [if_neg h, if_neg h]
    have t1 : decide ((40 : Int) < (l.length : Int)) = true := by simp; omega
    go_enter Try.func68, Try.ntmps68
    go_wp2
    go_ret2
    exact ⟨rfl, rfl⟩
end Go.Proofs.Ytdcphheeapmjcaa
