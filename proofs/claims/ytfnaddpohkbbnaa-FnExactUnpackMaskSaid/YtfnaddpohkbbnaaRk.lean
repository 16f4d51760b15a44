/-
  MASKS OF SIGNS: what ReadMask answers.
-/
import Derived.Test.YtfnaddpohkbbnaaTm
import Derived.Test.YtfnaddpohkbbnaaMs
namespace Go.Proofs.Ytfnaddpohkbbnaa
open Go.ChangeShapes Go.WideShapes Go.ChangeAt Go.RowKit
/-- the first k cells, set as g says -/
def mkF (g : Nat → Bool) : Nat → Nat → Int
  | 0 => zI
  | k + 1 => if g k then setF (mkF g k) (k % 16) (k / 16) else mkF g k
def mkW (g : Nat → Bool) : Nat → Nat → Int
  | 0 => zI
  | k + 1 => withF (mkW g k) (k % 16) (k / 16) (g k)
theorem mkF_yes {g : Nat → Bool} {x y : Nat} (hx : x < 16) (h : g (16 * y + x) = true) : mkF g (16 * y + x + 1) = setF (mkF g (16 * y + x)) x y := by
  show (if g (16 * y + x) then setF (mkF g (16 * y + x)) ((16 * y + x) % 16) ((16 * y + x) / 16) else _) = _
  rw [if_pos h, show (16 * y + x) % 16 = x by omega, show (16 * y + x) / 16 = y by omega]
theorem mkF_no {g : Nat → Bool} {k : Nat} (h : g k = false) : mkF g (k + 1) = mkF g k := by
  show (if g k then setF (mkF g k) (k % 16) (k / 16) else _) = _
  rw [if_neg (by rw [h]; simp)]
theorem mkF_MB (g : Nat → Bool) (k : Nat) : MB (mkF g k) := by
  induction k with
  | zero => exact zero_MB
  | succ k ih =>
    show MB (if g k then setF (mkF g k) (k % 16) (k / 16) else mkF g k)
    split
    · exact setF_MB ih _ _
    · exact ih
theorem mkW_MB (g : Nat → Bool) (k : Nat) : MB (mkW g k) := by
  induction k with
  | zero => exact zero_MB
  | succ k ih => exact withF_MB ih _ _ _
theorem hasF_mk (g : Nat → Bool) (x y : Nat) (hx : x < 16) (hy : y < 16) : ∀ k, k ≤ 256 → hasF (mkF g k) x y = (decide (16 * y + x < k) && g (16 * y + x)) := by
  intro k
  induction k with
  | zero => intro _; show hasF zI x y = _; rw [hasF_zero]; simp
  | succ k ih =>
    intro hk
    have h := ih (by omega)
    by_cases e : k = 16 * y + x
    · subst e
      cases hg : g (16 * y + x)
      · rw [mkF_no hg, h, hg]; simp
      · rw [mkF_yes hx hg, hasF_set (mkF_MB _ _) hx hy]; simp
    · have e1 : decide (16 * y + x < k + 1) = decide (16 * y + x < k) := by simp; omega
      rw [e1, ← h]
      show hasF (if g k then setF (mkF g k) (k % 16) (k / 16) else mkF g k) x y = _
      split
      · rw [hasF_set (mkF_MB _ _) (by omega) (by omega)]
        have : (decide (x = k % 16) && decide (y = k / 16)) = false := by
          rw [Bool.and_eq_false_iff]
          by_cases h1 : x = k % 16
          · right; simp; omega
          · left; simpa using h1
        rw [this, Bool.or_false]
      · rfl
theorem hasF_mkW (g : Nat → Bool) (x y : Nat) (hx : x < 16) (hy : y < 16) : ∀ k, k ≤ 256 → hasF (mkW g k) x y = (decide (16 * y + x < k) && g (16 * y + x)) := by
  intro k
  induction k with
  | zero => intro _; show hasF zI x y = _; rw [hasF_zero]; simp
  | succ k ih =>
    intro hk
    have h := ih (by omega)
    show hasF (withF (mkW g k) (k % 16) (k / 16) (g k)) x y = _
    rw [hasF_with (mkW_MB _ _) (by omega) (by omega) _ _ _ hx]
    split
    · rename_i e
      have e2 : k = 16 * y + x := by omega
      subst e2; simp
    · rename_i e
      rw [h]
      have : decide (16 * y + x < k + 1) = decide (16 * y + x < k) := by simp; omega
      rw [this]
theorem mk_both (g : Nat → Bool) : M16 (mkW g 256) = M16 (mkF g 256) := mask_ext (mkW_MB _ _) (mkF_MB _ _) fun x y hx hy => by rw [hasF_mk g x y hx hy 256 (Nat.le_refl _), hasF_mkW g x y hx hy 256 (Nat.le_refl _)]
/-- the sign of a place in a mask's text -/
def rdB (T : ByteArray) (i : Nat) : Bool := (T.data[17 * (i / 16) + i % 16]?.map fun c => decide ((c.toNat : Int) = 35)) == some true
def rdF (T : ByteArray) : Nat → Int := mkF (rdB T) 256
def RmOk (T : ByteArray) : Prop := T.size = 272 ∧ txB (rdF T) = T
instance (T : ByteArray) : Decidable (RmOk T) := inferInstanceAs (Decidable (_ ∧ _))
def rmF (T : ByteArray) : Nat → Int := if RmOk T then rdF T else zI
def rmC (T : ByteArray) : Int := if RmOk T then 0 else 5
def RmPost (T : ByteArray) (w : World) (e : Ending) (w' : World) : Prop := e = .returned (.tuple #[.agg (M16 (rmF T)), .int .i64 (rmC T)]) ∧ Below w.heap.size w w'
theorem rd_at (T : ByteArray) (hT : T.size = 272) {x y : Nat} (hx : x < 16) (hy : y < 16) : ∃ c : Int, (∀ w, (Instr.index 9 (.string T) (.int .i64 (17 * (y : Int) + (x : Int)))).run Try.prog w = .ok (.int .u8 c) w) ∧ (c == 35) = rdB T (16 * y + x) ∧ (∀ h : 17 * y + x < T.data.size, c = ((T.data[17 * y + x]'h).toNat : Int)) := by
  have hlt : 17 * y + x < T.data.size := by have : T.data.size = T.size := rfl; omega
  refine ⟨((T.data[17 * y + x]'hlt).toNat : Int), fun w => ?_, ?_, fun _ => rfl⟩
  · rw [run_index_string w 9 T .i64 _ Try.underlying9]
    have hs : (17 * (y : Int) + (x : Int)).toNat = 17 * y + x := by omega
    rw [dif_pos ⟨by omega, by have : T.data.size = T.size := rfl; omega⟩]
    have e : ∀ (i : Nat) (h : i < T.size), i = 17 * y + x → (T[i]'h).toNat = (T.data[17 * y + x]'hlt).toNat := by
      intro i h e; subst e; rfl
    rw [e _ _ hs]
  · unfold rdB
    rw [show (16 * y + x) / 16 = y by omega, show (16 * y + x) % 16 = x by omega, Array.getElem?_eq_getElem hlt]
    simp only [Option.map_some]
    by_cases h : ((T.data[17 * y + x]'hlt).toNat : Int) = 35 <;> simp [h]
theorem rm_yes {T : ByteArray} (h : RmOk T) : rmF T = rdF T ∧ rmC T = 0 := by unfold rmF rmC; rw [if_pos h, if_pos h]; exact ⟨rfl, rfl⟩
theorem rm_no {T : ByteArray} (h : ¬ RmOk T) : rmF T = zI ∧ rmC T = 5 := by unfold rmF rmC; rw [if_neg h, if_neg h]; exact ⟨rfl, rfl⟩
theorem texts_ne {U T : ByteArray} (h : ¬ U = T) : (U.toList == T.toList) = false := by
  rw [ByteArray.toList_eq, ByteArray.toList_eq]
  cases hb : U.data.toList == T.data.toList
  · rfl
  · exact absurd (Go.WideShapes.bytes_inj (eq_of_beq hb)) h
end Go.Proofs.Ytfnaddpohkbbnaa
