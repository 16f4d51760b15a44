/-
  CONTRACTS: numbers in limbs: their sign, their highest bit, what lies below a bit, their opposite, how they are rounded.
-/
import Derived.Test.YtanepboepeijoaaDoorAdd
import Derived.Test.YtanepboepeijoaaDoorSf
import Derived.Test.YtanepboepeijoaaDoorShelf
import Derived.Laws.Rows
import Derived.Laws.Tables
import Derived.Laws.CopyOwn
namespace Go.Proofs.YtanepboepeijoaaDoor
open Go.ChangeShapes Go.WideShapes Go.ChangeAt Go.RowKit Go.Deep
open Fl
theorem isNeg_any (f : Nat → Nat) (w : World) :
    Calls Tryd.prog 105 #[.agg (limbC f)] w fun e w' => e = .returned (.bool (decide (9223372036854775808 ≤ f 23))) ∧ w.alloc (.cells (limbC f) 96) = w' := by
  have c := limbC_get f 23 (by omega)
  go_enter Tryd.func105, Tryd.ntmps105
  go_wp2
  go_ret
  refine ⟨ret_bool ?_, rfl⟩
  rw [Bool.eq_iff_iff]
  simp
  omega
theorem bitLenAux_log2 : ∀ n x, x ≠ 0 → x < 2 ^ n → Lib.bitLenAux n x = x.log2 + 1
  | 0, x, h0, h1 => by rw [Nat.pow_zero] at h1; omega
  | n + 1, x, h0, h1 => by
    show (if x = 0 then 0 else 1 + Lib.bitLenAux n (x / 2)) = _
    rw [if_neg h0, Nat.log2_def]
    by_cases h2 : 2 ≤ x
    · rw [if_pos h2, bitLenAux_log2 n (x / 2) (by omega) (by rw [Nat.pow_succ] at h1; omega)]; omega
    · rw [if_neg h2]
      have hx : x / 2 = 0 := by omega
      rw [hx]
      cases n <;> rfl
theorem bitLen_log2 (x : Nat) (h0 : x ≠ 0) (h1 : x < B64) : Lib.bitLen x = x.log2 + 1 := bitLenAux_log2 64 x h0 h1
theorem len64 (x : Nat) (h0 : x ≠ 0) (h1 : x < B64) (w : World) : Calls Tryd.prog 92 #[.int .u64 (x : Nat)] w fun e w' => e = .returned (.int .i64 ((x.log2 : Nat) + 1 : Int)) ∧ w = w' :=
  (Tryd.bits_Len64 (x : Int) w (by omega) (by unfold B64 at h1; omega)).mono fun e w' ⟨he, hw⟩ => ⟨by
    rw [he, Int.toNat_natCast, bitLen_log2 x h0 h1]; rfl, hw.symm⟩
/-- the highest bit's place; -1 where there is none -/
def topB (V : Nat) : Int := if V = 0 then -1 else (V.log2 : Nat)
theorem topPlace_any (f : Nat → Nat) (w : World) (hf : ∀ i, f i < B64) :
    Calls Tryd.prog 107 #[.agg (limbC f)] w fun e w' => e = .returned (.int .i64 (topB (pv f 24))) ∧ w.alloc (.cells (limbC f) 96) = w' := by
  go_enter Tryd.func107, Tryd.ntmps107
  go_wp2
  go_loop [3] (fun i => ∃ k : Nat, k ≤ 24 ∧ i = .int .i64 ((k : Int) - 1) ∧ ∀ j, k ≤ j → j < 24 → f j = 0) (fun i => (intOf i + 1).toNat)
  case atStart => exact ⟨24, Nat.le_refl _, rfl, fun j h1 h2 => absurd h2 (by omega)⟩
  case round =>
    obtain ⟨k, hk, rfl, hz⟩ := hrel
    have HZ := Lib.hid hz
    have HF := Lib.hid hf
    clear hz
    by_cases h0 : k = 0
    · subst h0
      have HV : Hid (pv f 24 = 0) := Lib.hid ((pv_eq_zero 24).2 fun i hi => HZ.out i (by omega) hi)
      go_wp2
      go_ret
      exact ⟨ret_int (by rw [topB, if_pos HV.out]), rfl⟩
    · obtain ⟨m, rfl⟩ : ∃ m, k = m + 1 := ⟨k - 1, by omega⟩
      have e : ((m + 1 : Nat) : Int) - 1 = (m : Int) := by omega
      rw [e]
      clear e h0
      have c := limbC_get f m (by omega)
      by_cases hm : f m = 0
      · have g : (((f m : Nat) : Int) != 0) = false := by rw [hm]; rfl
        have HM := Lib.hid hm
        clear hm hf
        go_wp2
        go_round
        case rel => exact ⟨m, by omega, rfl, fun j h1 h2 => by
          by_cases hj : j = m
          · rw [hj]; exact HM.out
          · exact HZ.out j (by omega) h2⟩
        case measure => simp [intOf]
      · have g : (((f m : Nat) : Int) != 0) = true := by simpa using hm
        have hm2 : (m : Int) ≤ 23 := by omega
        have hlt := HF.out m
        have hl1 : ((f m).log2 : Int) ≤ 63 := by
          have := log2_le (k := 63) hm (by unfold B64 at hlt; exact hlt)
          omega
        have HL : Hid (topB (pv f 24) = (m : Int) * 64 + ((f m).log2 : Int)) := Lib.hid (by
          have ht := top_bit HF.out m (23 - m) hm (fun j h1 h2 => HZ.out j (by omega) (by omega))
          rw [show m + (23 - m + 1) = 24 from by omega] at ht
          have hne : pv f 24 ≠ 0 := fun h => hm ((pv_eq_zero 24).1 h m (by omega))
          rw [topB, if_neg hne, ht]; omega)
        have HM := Lib.hid hm
        have HLT := Lib.hid hlt
        clear hm hf hlt
        go_wp2_with (go_at_call 92; refine (len64 _ HM.out HLT.out _).mono ?_; rintro e w' ⟨rfl, rfl⟩)
        go_ret
        exact ⟨ret_int (by rw [HL.out]; omega), rfl⟩
/-- the first k limbs are those of the opposite -/
def mixn (f : Nat → Nat) (k : Nat) : Nat → Nat := fun j => if j < k then df zf f j else f j
theorem mixn_zero (f : Nat → Nat) : mixn f 0 = f := by funext j; simp [mixn]
theorem mixn_step (f : Nat → Nat) (k : Nat) : upd (mixn f k) k (df zf f k) = mixn f (k + 1) := by
  funext j
  unfold upd mixn
  by_cases h : j = k
  · subst h; rw [if_pos rfl, if_pos (by omega)]
  · by_cases h2 : j < k
    · rw [if_neg h, if_pos h2, if_pos (by omega)]
    · rw [if_neg h, if_neg h2, if_neg (by omega)]
theorem mixn_at (f : Nat → Nat) (k : Nat) : mixn f k k = f k := by unfold mixn; rw [if_neg (by omega)]
theorem limbC_congr {f g : Nat → Nat} (h : ∀ i, i < 24 → f i = g i) : limbC f = limbC g := by
  unfold limbC
  congr 1
  refine List.map_congr_left fun i hi => ?_
  rw [h i (by simpa using hi)]
theorem limbC_cells (f : Nat → Nat) : (limbC f).all (·.oneCell') = true := by
  rw [Array.all_eq_true]
  intro i hi
  have h24 : i < 24 := by rw [limbC_size] at hi; exact hi
  have h := limbC_get f i h24
  rw [Array.getElem?_eq_getElem hi] at h
  rw [Option.some.inj h]; rfl
theorem limb_info (f : Nat → Nat) : (Tryd.prog.info? 96).map (·.size) = some (limbC f).size := by rw [limbC_size]; kernel_rfl
theorem hng {f : Nat → Nat} (hf : ∀ i, f i < B64) (k : Nat) (w : World) :
    (callFunc 89 #[.int .u64 0, .int .u64 (f k : Nat), .int .u64 (bo zf f k : Nat)]).run Tryd.prog w = .ok (.value (.tuple #[.int .u64 (df zf f k : Nat), .int .u64 (bo zf f (k + 1) : Nat)])) w :=
  hbo (f := zf) (g := f) (fun _ => B64_pos) hf k w
theorem negated_any (f : Nat → Nat) (w : World) (hf : ∀ i, f i < B64) :
    Calls Tryd.prog 106 #[.agg (limbC f)] w fun e w' => e = .returned (.agg (limbC (df zf f))) ∧ Below w.heap.size w w' := by
  have hz := limbC_zero
  go_enter Tryd.func106, Tryd.ntmps106
  go_wp2
  clear hz
  have hrow : ∀ k, (limbC (mixn f k)) = limbC (mixn f k) := fun _ => rfl
  clear hrow
  rw [← mixn_zero f]
  go_loopw [3, 4, 5] (fun c _ i wr => ∃ k : Nat, k ≤ 24 ∧ i = .int .i64 k ∧ c = .int .u64 (bo zf f k : Nat) ∧ wr = (w.alloc (.cells (limbC (mixn f k)) 96)).alloc (.cells (limbC zf) 96)) (fun _ _ i _ => 24 - (intOf i).toNat)
  case atStart => exact ⟨0, Nat.zero_le _, rfl, rfl, rfl⟩
  case round =>
    obtain ⟨k, hk, rfl, rfl, rfl⟩ := hrel
    by_cases hlt : k < 24
    · have c1 : (limbC (mixn f k))[k]? = some (.int .u64 (f k : Nat)) := by rw [limbC_get _ k hlt, mixn_at]
      have c2 : (limbC (mixn f k)).setIfInBounds k (.int .u64 (df zf f k : Nat)) = limbC (mixn f (k + 1)) := by rw [limbC_set _ _ _ hlt, mixn_step]
      have hs := hng hf k
      clear hf
      go_wp2
      go_roundw
      case rel => exact ⟨k + 1, by omega, by go_num, rfl, rfl⟩
      case measure => simp [intOf]; omega
    · obtain rfl : k = 24 := by omega
      have HE : Hid (limbC (mixn f 24) = limbC (df zf f)) := Lib.hid (limbC_congr fun i hi => by unfold mixn; rw [if_pos hi])
      clear hf
      have hb0 : ((w.alloc (.cells (limbC (mixn f 24)) 96)).alloc (.cells (limbC zf) 96)).heap[w.heap.size]? = some (.cells (limbC (mixn f 24)) 96 (0, 0)) := heap_alloc2_old _ _ _
      have hb1 : ((w.alloc (.cells (limbC (mixn f 24)) 96)).alloc (.cells (limbC zf) 96)).heap[w.heap.size + 1]? = some (.cells (limbC zf) 96 (0, 0)) := heap_alloc2_new _ _ _
      have HB0 := Lib.hid hb0
      have HB1 := Lib.hid hb1
      clear hb0 hb1
      go_wp2_with (first | (refine wpList_load_row rfl 96 _ rfl w.heap.size rfl 96 _ _ _ HB0.out Tryd.underlying96 rfl (limb_info _) ?_) | (refine wpList_store_row rfl 96 _ _ rfl (w.heap.size + 1) (limbC (mixn f 24)) rfl rfl 96 _ HB1.out (limb_info _) (by rw [limbC_size, limbC_size]) (limbC_cells _) ?_))
      refine bodyPost_ret (v := .agg (limbC (mixn f 24))) ?_ rfl ⟨by rw [HE.out], ?_⟩
      · exact results_cell_row Tryd.results106 _ _ (w.heap.size + 1) _ _ _ _ rfl (setRow_heap _ _ _ _ _ _ HB1.out) Tryd.underlying96 rfl (limb_info _)
      · exact below_setRow (((Below.refl _ _).alloc (Nat.le_refl _) _).alloc (by simp) _) (by omega) _
end Go.Proofs.YtanepboepeijoaaDoor
