import Derived.Test.YtanepboepeijoaaDoorLre
import Derived.Deep.MidRow
namespace Go.Proofs.YtanepboepeijoaaDoor
open Go.ChangeShapes Go.WideShapes Go.ChangeAt Go.RowKit Go.Deep
open Fl
theorem sumC_hi (f : Nat → Nat) (o : Bool × Bool × Bool) : (sumC f o)[24]? = some (.bool o.1) ∧ (sumC f o)[25]? = some (.bool o.2.1) ∧ (sumC f o)[26]? = some (.bool o.2.2) := by
  unfold sumC
  have hs := limbC_size f
  refine ⟨?_, ?_, ?_⟩ <;> simp [Array.getElem?_append, hs]
theorem sumC_range {w : World} {b : Nat} {f : Nat → Nat} {o : Bool × Bool × Bool} (h : SumAt w b f o) : w.rangeAt b 0 (limbC f).toList := by
  intro j v hj
  rw [Array.getElem?_toList] at hj
  have hj2 : j < 24 := by
    rcases Nat.lt_or_ge j 24 with h | h
    · exact h
    · rw [Array.getElem?_eq_none (by rw [limbC_size]; omega)] at hj; cases hj
  rw [limbC_get f j hj2] at hj
  cases hj
  rw [Nat.zero_add]
  exact h.cell j hj2
theorem odd_cell {w : World} {b : Nat} {f : Nat → Nat} {o : Bool × Bool × Bool} (h : SumAt w b f o) : w.cell? ⟨b, 24, none⟩ = some (.bool o.1) ∧ w.cell? ⟨b, 25, none⟩ = some (.bool o.2.1) ∧ w.cell? ⟨b, 26, none⟩ = some (.bool o.2.2) := by
  obtain ⟨h1, h2, h3⟩ := sumC_hi f o
  unfold SumAt at h
  refine ⟨?_, ?_, ?_⟩ <;> simp [World.cell?, h, h1, h2, h3]
/-- what the rounding of limbs wants: no bit of the number is lost -/
structure Exact (f : Nat → Nat) (V : Nat) : Prop where
  lt : ∀ i, f i < B64
  pv : Go.Proofs.YtanepboepeijoaaDoor.Fl.pv f 24 = V
  bound : V < 2 ^ bigE
  even : V / 2 ^ (lastBit V - 1) % 2 = 0
theorem lrd_x (f : Nat → Nat) (V : Nat) (h : Exact f V) (w : World) :
    Calls Tryd.prog 90 #[.agg (limbC f)] w fun e w' => e = .returned (.float .f32 (wordE V)) ∧ Below w.heap.size w w' := by
  obtain ⟨h1, h2⟩ := top_lt h.bound
  refine lrd_exact f V w h.lt h.pv (top_pos (by rw [h.pv]; exact h.bound)) h1 h2 h.even ?_
  intro q s hq hs
  have e := window h.lt q (22 - q) s hs
  rw [show q + (22 - q + 2) = 24 from by omega, h.pv] at e
  exact e.symm
attribute [-go_sem] call_f32from in
set_option maxRecDepth 8000 in
theorem sumRounded_x (b : Nat) (f : Nat → Nat) (V : Nat) (h : Exact f V) (w : World) (hS : SumAt w b f (false, false, false)) :
    Calls Tryd.prog 68 #[.pointer (some ⟨b, 0, none⟩)] w fun e w' => e = .returned (.float .f32 (wordE V)) ∧ Below w.heap.size w w' := by
  obtain ⟨c1, c2, c3⟩ := odd_cell hS
  have HR := Lib.hid (sumC_range hS)
  have HL := Lib.hid (limbC_len f)
  have HI := Lib.hid (limb_info f)
  clear hS
  go_enter Tryd.func68, Tryd.ntmps68
  go_wp2_with (first | (refine wpList_load_mid rfl 96 _ rfl b 0 rfl (limbC f).toList _ HR.out Tryd.underlying96 rfl (by rw [HL.out]; kernel_rfl) ?_; rw [limbC_list]) | (go_at_call 90; refine (lrd_x f V h _).mono ?_; rintro e w1 ⟨rfl, hb1⟩; have B1 := Lib.hid hb1; clear hb1))
  go_ret
  exact ⟨rfl, B1.out⟩
theorem sumC_zero : #[Value.int .u64 0, .int .u64 0, .int .u64 0, .int .u64 0, .int .u64 0, .int .u64 0, .int .u64 0, .int .u64 0, .int .u64 0, .int .u64 0, .int .u64 0, .int .u64 0, .int .u64 0, .int .u64 0, .int .u64 0, .int .u64 0, .int .u64 0, .int .u64 0, .int .u64 0, .int .u64 0, .int .u64 0, .int .u64 0, .int .u64 0, .int .u64 0, .bool false, .bool false, .bool false] = sumC zf (false, false, false) := by
  unfold sumC
  rw [← limbC_zero]
  rfl
theorem Off.below {w w1 : World} {o : Obj} {o2 : Obj} (h : Off w.heap.size ((w.alloc o).alloc o2) w1) : Below w.heap.size w w1 := by
  obtain ⟨h1, h2, h3, h4, h5⟩ := h
  refine ⟨h1, h2, h3, by rw [h4]; simp; omega, fun k hk => ?_⟩
  rw [h5 k (by omega)]
  have := (((Below.refl w.heap.size w).alloc (Nat.le_refl _) o).alloc (by simp) o2).block k hk
  exact this
theorem exact_one {fr p : Nat} (hf : fr < 16777216) (hp0 : 491 ≤ p) (hp1 : p ≤ 760) : Exact (mix zf (termF fr p) 24) (fr * 2 ^ p) := by
  have hF : ∀ i, zf i < B64 := fun i => B64_pos
  have hT : ∀ i, termF fr p i < B64 := fun i => termF_lt (by omega) i
  have hlt : fr * 2 ^ p < 2 ^ bigE := by
    have h1 : fr * 2 ^ p < 2 ^ 24 * 2 ^ p := Nat.mul_lt_mul_of_pos_right hf (Nat.two_pow_pos p)
    rw [← Nat.pow_add] at h1
    exact Nat.lt_of_lt_of_le h1 (Nat.pow_le_pow_right (n := 2) (by omega) (by unfold bigE; omega))
  refine ⟨fun i => ?_, ?_, hlt, ?_⟩
  · unfold mix
    split
    · exact sm_lt _ _ _
    · exact hF i
  · have e1 : pv (mix zf (termF fr p) 24) 24 = pv (sm zf (termF fr p)) 24 := pv_congr 24 fun i hi => by unfold mix; rw [if_pos hi]
    have e2 : pv zf 24 = 0 := pv_zero 24
    rw [e1, pv_sum, e2, Nat.zero_add, pv_term (by omega), Nat.mod_eq_of_lt]
    refine Nat.lt_of_lt_of_le hlt ?_
    exact B64_ge 24 bigE (by unfold bigE; omega)
  · have hl : lastBit (fr * 2 ^ p) ≤ p := by
      unfold lastBit
      rcases Nat.eq_zero_or_pos fr with h0 | h0
      · subst h0; rw [Nat.zero_mul]; simp; omega
      · rw [log2_scale (by omega)]
        have := log2_lt24 hf
        omega
    have hl1 : 491 ≤ lastBit (fr * 2 ^ p) := by unfold lastBit; omega
    obtain ⟨d, hd⟩ : ∃ d, p = (lastBit (fr * 2 ^ p) - 1) + (d + 1) := ⟨p - lastBit (fr * 2 ^ p), by omega⟩
    generalize lastBit (fr * 2 ^ p) - 1 = q at hd
    subst hd
    rw [Nat.pow_add, ← Nat.mul_assoc, Nat.mul_right_comm, Nat.mul_div_cancel _ (Nat.two_pow_pos q), Nat.pow_succ, ← Nat.mul_assoc, Nat.mul_mod_left]
set_option maxRecDepth 8000 in
theorem joinParts_x (s : Bool) (fr p : Nat) (ex : Int) (hf : fr < 16777216) (hp : ex + 640 = p) (hp0 : 491 ≤ p) (hp1 : p ≤ 760) (w : World) :
    Calls Tryd.prog 49 #[.bool s, .int .i64 fr, .int .i64 ex] w fun e w' => e = .returned (.float .f32 (if s then opp (wordE (fr * 2 ^ p)) else wordE (fr * 2 ^ p))) ∧ Below w.heap.size w w' := by
  have HX := Lib.hid (exact_one hf hp0 hp1)
  have HW : Hid (W32 (wordE (fr * 2 ^ p))) := Lib.hid (by unfold W32 wordE sizeZ; omega)
  have HT := Lib.hid fun i => termF_lt (fr := fr) (p := p) (by omega) i
  have HP := Lib.hid hp
  have HZ := Lib.hid sumC_zero
  clear hp
  go_enter Tryd.func49, Tryd.ntmps49
  go_wp2_with fail
  rw [HZ.out]
  refine (addPlus_any w.heap.size zf _ fr p ex _ HP.out (by omega) (by omega) (fun i => B64_pos) HT.out (by simp) (heap_alloc_new _ _)).mono ?_
  rintro e w1 ⟨rfl, S1, O1⟩
  have B1 := Lib.hid (Off.below O1)
  have S1 := Lib.hid S1
  clear O1
  go_wp2_with fail
  refine (sumRounded_x w.heap.size _ _ HX.out _ S1.out).mono ?_
  rintro e w2 ⟨rfl, b2⟩
  have B2 := Lib.hid (B1.out.trans (b2.mono B1.out.size))
  clear b2 B1 S1
  go_wp2_with fail
  refine (withSign_any s _ HW.out _).mono ?_
  rintro e w3 ⟨rfl, rfl⟩
  go_wp2
  all_goals
    go_ret
    exact ⟨rfl, B2.out⟩
end Go.Proofs.YtanepboepeijoaaDoor
