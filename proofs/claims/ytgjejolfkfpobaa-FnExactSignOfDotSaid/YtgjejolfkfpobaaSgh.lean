/-
  CONTRACTS: the program's sign of a sum of products.
-/
import Derived.Test.YtgjejolfkfpobaaSgg
namespace Go.Proofs.Ytgjejolfkfpobaa
open Go.ChangeShapes Go.WideShapes Go.ChangeAt Go.RowKit Go.Deep
open Fl
theorem sumC_range {w : World} {b : Nat} {f : Nat → Nat} {o : Bool × Bool × Bool} (h : SumAt w b f o) : w.rangeAt b 0 (limbC f).toList := by
  intro j v hj
  rw [Array.getElem?_toList] at hj
  have hj2 : j < 24 := by
    rcases Nat.lt_or_ge j 24 with h | h
    · exact h
    · rw [Array.getElem?_eq_none (by rw [limbC_size]; omega)] at hj; cases hj
  rw [limbC_get f j hj2] at hj
  cases hj
  rw [Nat.zero_add]
  exact h.cell j hj2
theorem limbC_len (f : Nat → Nat) : (limbC f).toList.length = 24 := by rw [Array.length_toList, limbC_size]
theorem limbC_list (f : Nat → Nat) : (limbC f).toList.toArray = limbC f := by simp
/-- are all limbs 0? -/
def allZero (f : Nat → Nat) : Bool := (List.range 24).all fun i => f i == zf i
theorem allZero_iff (f : Nat → Nat) : allZero f = true ↔ pv f 24 = 0 := by
  rw [pv_eq_zero]
  unfold allZero
  rw [List.all_eq_true]
  constructor
  · intro h i hi
    have := h i (by simpa using hi)
    simpa [zf] using this
  · intro h i hi
    have := h i (by simpa using hi)
    simp [zf, this]
theorem run_eqZero (f : Nat → Nat) (v : Bool) (h : allZero f = v) (w : World) : (Op.equalIn 10000 85 (.agg (limbC f)) (.agg #[Value.int .u64 0, .int .u64 0, .int .u64 0, .int .u64 0, .int .u64 0, .int .u64 0, .int .u64 0, .int .u64 0, .int .u64 0, .int .u64 0, .int .u64 0, .int .u64 0, .int .u64 0, .int .u64 0, .int .u64 0, .int .u64 0, .int .u64 0, .int .u64 0, .int .u64 0, .int .u64 0, .int .u64 0, .int .u64 0, .int .u64 0, .int .u64 0])).run Try.prog w = .ok v w := by
  rw [limbC_zero, ← h]
  exact eqLimbs f zf w
set_option maxRecDepth 8000 in
theorem implSign_any (b len : Nat) (bs cs : List Nat) (w : World) (hb : AllFin bs len) (hc : AllFin cs len) (hl : len ≤ 256) (hS : ImplAcc b bs cs len w) :
    Calls Try.prog 69 #[.pointer (some ⟨b, 0, none⟩)] w fun e w' => e = .returned (.int .i64 (sg (PS true bs cs len) (PS false bs cs len))) ∧ Below w.heap.size w w' := by
  obtain ⟨hlt, f, hsum, hat⟩ := hS
  have HR := Lib.hid (sumC_range hat)
  have HL := Lib.hid (limbC_len f)
  have HI := Lib.hid (limb_info f)
  obtain ⟨s1, s2⟩ := hsum.sign hb hc hl
  have S2 := Lib.hid s2
  have S1 : Hid (allZero f = true ↔ PS true bs cs len = PS false bs cs len) := Lib.hid ((allZero_iff f).trans s1)
  clear hsum hat s1 s2 hb hc
  cases hz : allZero f
  · have hq := run_eqZero f false hz
    have N : Hid (PS true bs cs len ≠ PS false bs cs len) := Lib.hid fun e => by
      have := S1.out.2 e
      rw [hz] at this; cases this
    clear hz
    by_cases hn : 9223372036854775808 ≤ f 23
    · have R : Hid (sg (PS true bs cs len) (PS false bs cs len) = -1) := Lib.hid (sg_lt (S2.out.1 hn))
      have t : decide (9223372036854775808 ≤ f 23) = true := by simpa using hn
      clear hn
      go_enter Try.func69, Try.ntmps69
      go_wp2_with (first | (refine wpList_load_mid rfl 85 _ rfl b 0 rfl (limbC f).toList _ HR.out Try.underlying85 rfl (by rw [HL.out]; kernel_rfl) ?_; rw [limbC_list]) | (go_at_call 95; refine (isNeg_any f _).mono ?_; rintro e w' ⟨rfl, rfl⟩))
      go_ret
      exact ⟨ret_int (by rw [R.out]), (Below.refl _ _).alloc (Nat.le_refl _) _⟩
    · have R : Hid (sg (PS true bs cs len) (PS false bs cs len) = 1) := Lib.hid (by
        have h1 : ¬ PS true bs cs len < PS false bs cs len := fun h => hn (S2.out.2 h)
        have h2 := N.out
        exact sg_gt (by omega))
      have t : decide (9223372036854775808 ≤ f 23) = false := by simpa using hn
      clear hn
      go_enter Try.func69, Try.ntmps69
      go_wp2_with (first | (refine wpList_load_mid rfl 85 _ rfl b 0 rfl (limbC f).toList _ HR.out Try.underlying85 rfl (by rw [HL.out]; kernel_rfl) ?_; rw [limbC_list]) | (go_at_call 95; refine (isNeg_any f _).mono ?_; rintro e w' ⟨rfl, rfl⟩))
      go_ret
      exact ⟨ret_int (by rw [R.out]), (Below.refl _ _).alloc (Nat.le_refl _) _⟩
  · have hq := run_eqZero f true hz
    have R : Hid (sg (PS true bs cs len) (PS false bs cs len) = 0) := Lib.hid (sg_eq (S1.out.1 hz))
    clear hz
    go_enter Try.func69, Try.ntmps69
    go_wp2_with (refine wpList_load_mid rfl 85 _ rfl b 0 rfl (limbC f).toList _ HR.out Try.underlying85 rfl (by rw [HL.out]; kernel_rfl) ?_; rw [limbC_list])
    go_ret
    exact ⟨ret_int (by rw [R.out]), Below.refl _ _⟩
end Go.Proofs.Ytgjejolfkfpobaa
