/-
  HEXADECIMAL DIGITS, plain.
-/
import Derived.Test.YtkijgadkgfapgaaOwn
import Derived.Laws.BitsAllLaws
namespace Go.Proofs.Ytkijgadkgfapgaa
open Go.ChangeShapes Go.WideShapes Go.ChangeAt Go.RowKit
def hexC (d : Nat) : UInt8 := if d < 10 then UInt8.ofNat (48 + d) else UInt8.ofNat (87 + d)
def dig16 : ByteArray := ⟨#[48, 49, 50, 51, 52, 53, 54, 55, 56, 57, 97, 98, 99, 100, 101, 102]⟩
def dig36 : ByteArray := ⟨#[48, 49, 50, 51, 52, 53, 54, 55, 56, 57, 97, 98, 99, 100, 101, 102, 103, 104, 105, 106, 107, 108, 109, 110, 111, 112, 113, 114, 115, 116, 117, 118, 119, 120, 121, 122]⟩
theorem at16 : ∀ d : Fin 16, dig16[d.val]'(by have := d.isLt; exact this) = hexC d.val := by decide
theorem at36 : ∀ d : Fin 16, dig36[d.val]'(by have := d.isLt; exact Nat.lt_trans this (by decide)) = hexC d.val := by decide
theorem idx16 {P : Program} (t : TypeId) (ht : P.underlying t = some .string) (k : IntKind) (d : Nat) (hd : d < 16) (w : World) :
    (Instr.index t (.string dig16) (.int k (d : Int))).run P w = .ok (.int .u8 ((hexC d).toNat : Int)) w := by
  rw [run_index_string w t dig16 k _ ht, dif_pos ⟨by omega, by show (d : Int) < 16; omega⟩, ← at16 ⟨d, hd⟩]
  simp
  rfl
theorem idx36 {P : Program} (t : TypeId) (ht : P.underlying t = some .string) (k : IntKind) (d : Nat) (hd : d < 16) (w : World) :
    (Instr.index t (.string dig36) (.int k (d : Int))).run P w = .ok (.int .u8 ((hexC d).toNat : Int)) w := by
  rw [run_index_string w t dig36 k _ ht, dif_pos ⟨by omega, by show (d : Int) < 36; omega⟩, ← at36 ⟨d, hd⟩]
  simp
/-- the first k of eight digits -/
def hexT (b : Nat) : Nat → List UInt8
  | 0 => []
  | k + 1 => hexT b k ++ [hexC (b / 16 ^ (7 - k) % 16)]
theorem hexT_len (b : Nat) : ∀ k, (hexT b k).length = k
  | 0 => rfl
  | k + 1 => by simp [hexT, hexT_len b k]
theorem and15 (x : Nat) (hx : x < 4294967296) : bits .and .u32 (x : Int) 15 = ((x % 16 : Nat) : Int) := by
  rw [show (15 : Int) = ((15 : Nat) : Int) from rfl, u32_and_nat x _ hx (by omega), show (15 : Nat) = 2 ^ 4 - 1 from rfl, Nat.and_two_pow_sub_one_eq_mod]
end Go.Proofs.Ytkijgadkgfapgaa
