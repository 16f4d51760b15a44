/-
  CONTRACT: UnpackMask of the program.
-/
import Derived.Test.YtfnaddpohkbbnaaUs
import Derived.Test.YtfnaddpohkbbnaaRb
import Derived.Test.YtfnaddpohkbbnaaMr
namespace Go.Proofs.Ytfnaddpohkbbnaa
open Go.ChangeShapes Go.WideShapes Go.ChangeAt Go.RowKit
def txN (p : List Nat) : ByteArray := ⟨(p.map fun n => UInt8.ofNat n).toArray⟩
def txD (D : List UInt8) : ByteArray := ⟨D.toArray⟩
theorem conv_own {base : Nat} {v : Value} {p : List Nat} (hp : ∀ n ∈ p, n ≤ 255) {W : World} (h : W.ownsRow base 5 1 v p.length (bytesN p)) : (convert 29 9 v).run Try.prog W = .ok (.string (txN p)) W := by
  have hb : bytesN p = Lib.byteCells (p.map fun n => UInt8.ofNat n) := by
    unfold bytesN Lib.byteCells
    rw [List.map_map]
    apply List.map_congr_left
    intro n hn
    have := hp n hn
    simp
    omega
  rcases h.2 with ⟨rfl, h0⟩ | ⟨g, cap, cur, rfl, _⟩
  · have : p = [] := List.eq_nil_of_length_eq_zero h0
    subst this
    rw [run_convert_bytes_string W 29 9 5 none 0 0 Try.underlying29 Try.underlying5 Try.underlying9]
    rfl
  · have := run_convert_bytes_back W 29 9 5 ⟨g, 0, none⟩ cap (p.map fun n => UInt8.ofNat n) Try.underlying29 Try.underlying5 Try.underlying9 (fun j hj => by
      have hj' : j < p.length := by simpa using hj
      rw [addr_offB, Nat.zero_add, h.cellAt j (by omega), hb]
      simp [Lib.byteCells, hj'])
    rwa [List.length_map] at this
theorem conv_DR {B : Nat} {W : World} {av : Option Addr} {D : List UInt8} (cap : Nat) (h : DR B W av D) : (convert 29 9 (.slice av D.length cap)).run Try.prog W = .ok (.string (txD D)) W := by
  rcases h with h | ⟨g, off, rfl, _, hc⟩
  · have : D = [] := List.eq_nil_of_length_eq_zero h
    subst this
    cases av with
    | none =>
      rw [run_convert_bytes_string W 29 9 5 none _ _ Try.underlying29 Try.underlying5 Try.underlying9]
      rfl
    | some a => exact run_convert_bytes_back W 29 9 5 a cap [] Try.underlying29 Try.underlying5 Try.underlying9 (fun j hj => by simp at hj)
  · exact run_convert_bytes_back W 29 9 5 ⟨g, off, none⟩ cap D Try.underlying29 Try.underlying5 Try.underlying9 (fun j hj => by rw [addr_offB]; exact hc j hj)
theorem tx_eq {p : List Nat} (hp : ∀ n ∈ p, n ≤ 255) (D : List UInt8) : ((txN p).toList == (txD D).toList) = decide (p = natD D) := by
  rw [ByteArray.toList_eq, ByteArray.toList_eq]
  simp only [txN, txD]
  have e : (p.map (fun n => UInt8.ofNat n) = D) ↔ p = natD D := by
    constructor
    · rintro rfl
      unfold natD
      rw [List.map_map]
      conv => lhs; rw [← List.map_id p]
      apply List.map_congr_left
      intro n hn
      have := hp n hn
      simp
      omega
    · rintro rfl
      unfold natD
      rw [List.map_map]
      conv => rhs; rw [← List.map_id D]
      apply List.map_congr_left
      intro c _
      simp
  by_cases h : p = natD D
  · have := e.2 h
    rw [this]
    simp [h]
  · have h2 : ¬ (p.map (fun n => UInt8.ofNat n) = D) := fun h' => h (e.1 h')
    rw [decide_eq_false h]
    simpa using h2
theorem bequal_any {base : Nat} {v : Value} {p : List Nat} (hp : ∀ n ∈ p, n ≤ 255) (D : List UInt8) (av : Option Addr) (cap B : Nat) (w : World) (hO : w.ownsRow base 5 1 v p.length (bytesN p)) (hR : DR B w av D) :
    Calls Try.prog 63 #[v, .slice av D.length cap] w fun e w' => e = .returned (.bool (decide (p = natD D))) ∧ w = w' := by
  have c1 := conv_own hp hO
  have c2 := conv_DR cap hR
  have te := tx_eq hp D
  clear hO hR hp
  generalize decide (p = natD D) = b at te ⊢
  generalize txN p = U at c1 te
  generalize txD D = V at c2 te
  go_enter Try.func63, Try.ntmps63
  go_wp2
  go_ret
  exact ⟨by simp [te], rfl⟩
def boolV (l : List Bool) : List Value := l.map Value.bool
theorem boolV_app (l : List Bool) (n : Nat) (b : Bool) : boolV l ++ List.replicate n (Value.bool b) = boolV (l ++ List.replicate n b) := by simp [boolV]
theorem boolV_len (l : List Bool) : (boolV l).length = l.length := by simp [boolV]
end Go.Proofs.Ytfnaddpohkbbnaa
