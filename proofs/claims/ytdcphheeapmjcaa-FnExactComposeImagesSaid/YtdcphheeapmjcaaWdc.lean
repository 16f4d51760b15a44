/-
  CONTRACTS: the specification's letters.
-/
import Derived.Test.YtdcphheeapmjcaaSf
import Derived.Test.YtdcphheeapmjcaaWd
import Derived.LoopTactic
import Derived.Lib.Hide
namespace Go.Proofs.Ytdcphheeapmjcaa
open Go.ChangeShapes Go.WideShapes Go.ChangeAt Go.RowKit
open Wd
theorem u8ne {c d : UInt8} (h : c ≠ d) : (((d.toNat : Nat) : Int) == ((c.toNat : Nat) : Int)) = false := by
  have : d.toNat ≠ c.toNat := fun e => h (UInt8.toNat_inj.1 e.symm)
  simp; omega
theorem letter_no (c : UInt8) (h : isL c = false) (w : World) :
    Calls Try.prog 63 #[.int .u8 ((c.toNat : Nat) : Int)] w fun e w' => e = .returned (.int .i64 (-1)) ∧ w = w' := by
  obtain ⟨h0, h1, h2, h3, h4, h5, h6, h7⟩ := nocase h
  have t0 : ((97 : Int) == ((c.toNat : Nat) : Int)) = false := u8ne h0
  have t1 : ((65 : Int) == ((c.toNat : Nat) : Int)) = false := u8ne h1
  have t2 : ((98 : Int) == ((c.toNat : Nat) : Int)) = false := u8ne h2
  have t3 : ((66 : Int) == ((c.toNat : Nat) : Int)) = false := u8ne h3
  have t4 : ((99 : Int) == ((c.toNat : Nat) : Int)) = false := u8ne h4
  have t5 : ((67 : Int) == ((c.toNat : Nat) : Int)) = false := u8ne h5
  have t6 : ((100 : Int) == ((c.toNat : Nat) : Int)) = false := u8ne h6
  have t7 : ((68 : Int) == ((c.toNat : Nat) : Int)) = false := u8ne h7
  clear h h0 h1 h2 h3 h4 h5 h6 h7
  generalize ((c.toNat : Nat) : Int) = x at t0 t1 t2 t3 t4 t5 t6 t7 ⊢
  have e0 : (({ data := #[97, 65, 98, 66, 99, 67, 100, 68] } : ByteArray)[0]'(by decide)).toNat = 97 := rfl
  have e1 : (({ data := #[97, 65, 98, 66, 99, 67, 100, 68] } : ByteArray)[1]'(by decide)).toNat = 65 := rfl
  have e2 : (({ data := #[97, 65, 98, 66, 99, 67, 100, 68] } : ByteArray)[2]'(by decide)).toNat = 98 := rfl
  have e3 : (({ data := #[97, 65, 98, 66, 99, 67, 100, 68] } : ByteArray)[3]'(by decide)).toNat = 66 := rfl
  have e4 : (({ data := #[97, 65, 98, 66, 99, 67, 100, 68] } : ByteArray)[4]'(by decide)).toNat = 99 := rfl
  have e5 : (({ data := #[97, 65, 98, 66, 99, 67, 100, 68] } : ByteArray)[5]'(by decide)).toNat = 67 := rfl
  have e6 : (({ data := #[97, 65, 98, 66, 99, 67, 100, 68] } : ByteArray)[6]'(by decide)).toNat = 100 := rfl
  have e7 : (({ data := #[97, 65, 98, 66, 99, 67, 100, 68] } : ByteArray)[7]'(by decide)).toNat = 68 := rfl
  go_enter Try.func63, Try.ntmps63
  go_wp2
  refine wp_loop_rounds 9 ?_
  iterate 9 (rw [rounds_succ]; go_wp2)
  go_ret
  exact ⟨rfl, rfl⟩
theorem letter_at (b : Int) (n : Nat) (hb : (b = 97 ∧ n = 0) ∨ (b = 65 ∧ n = 1) ∨ (b = 98 ∧ n = 2) ∨ (b = 66 ∧ n = 3) ∨ (b = 99 ∧ n = 4) ∨ (b = 67 ∧ n = 5) ∨ (b = 100 ∧ n = 6) ∨ (b = 68 ∧ n = 7)) (w : World) :
    Calls Try.prog 63 #[.int .u8 b] w fun e w' => e = .returned (.int .i64 (n : Nat)) ∧ w = w' := by
  rcases hb with ⟨rfl, rfl⟩ | ⟨rfl, rfl⟩ | ⟨rfl, rfl⟩ | ⟨rfl, rfl⟩ | ⟨rfl, rfl⟩ | ⟨rfl, rfl⟩ | ⟨rfl, rfl⟩ | ⟨rfl, rfl⟩
  all_goals
    have e0 : (({ data := #[97, 65, 98, 66, 99, 67, 100, 68] } : ByteArray)[0]'(by decide)).toNat = 97 := rfl
    have e1 : (({ data := #[97, 65, 98, 66, 99, 67, 100, 68] } : ByteArray)[1]'(by decide)).toNat = 65 := rfl
    have e2 : (({ data := #[97, 65, 98, 66, 99, 67, 100, 68] } : ByteArray)[2]'(by decide)).toNat = 98 := rfl
    have e3 : (({ data := #[97, 65, 98, 66, 99, 67, 100, 68] } : ByteArray)[3]'(by decide)).toNat = 66 := rfl
    have e4 : (({ data := #[97, 65, 98, 66, 99, 67, 100, 68] } : ByteArray)[4]'(by decide)).toNat = 99 := rfl
    have e5 : (({ data := #[97, 65, 98, 66, 99, 67, 100, 68] } : ByteArray)[5]'(by decide)).toNat = 67 := rfl
    have e6 : (({ data := #[97, 65, 98, 66, 99, 67, 100, 68] } : ByteArray)[6]'(by decide)).toNat = 100 := rfl
    have e7 : (({ data := #[97, 65, 98, 66, 99, 67, 100, 68] } : ByteArray)[7]'(by decide)).toNat = 68 := rfl
    go_enter Try.func63, Try.ntmps63
    go_wp2
    refine wp_loop_rounds 9 ?_
    repeat (rw [rounds_succ]; go_wp2)
    go_ret
    exact ⟨rfl, rfl⟩
theorem letter_any (c : UInt8) (w : World) :
    Calls Try.prog 63 #[.int .u8 ((c.toNat : Nat) : Int)] w fun e w' => e = .returned (.int .i64 (lnum c)) ∧ w = w' := by
  cases h : isL c
  · rw [lnum_no h]; exact letter_no c h w
  · rcases lcases h with rfl | rfl | rfl | rfl | rfl | rfl | rfl | rfl
    · exact letter_at 97 0 (by simp) w
    · exact letter_at 65 1 (by simp) w
    · exact letter_at 98 2 (by simp) w
    · exact letter_at 66 3 (by simp) w
    · exact letter_at 99 4 (by simp) w
    · exact letter_at 67 5 (by simp) w
    · exact letter_at 100 6 (by simp) w
    · exact letter_at 68 7 (by simp) w
end Go.Proofs.Ytdcphheeapmjcaa
