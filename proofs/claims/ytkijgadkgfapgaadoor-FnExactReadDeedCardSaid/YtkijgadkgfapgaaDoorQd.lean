/-
  DECIMAL NUMERALS: the specification's Decimal.
-/
import Derived.Test.YtkijgadkgfapgaaDoorQm
import Derived.Test.YtkijgadkgfapgaaDoorSpw
import Derived.Test.YtkijgadkgfapgaaDoorRi
import Derived.Deep.RegionHeld3
namespace Go.Proofs.YtkijgadkgfapgaaDoor
open Go.ChangeShapes Go.WideShapes Go.ChangeAt Go.RowKit
theorem conv_one (d : Nat) (c : UInt8) (hc : (c.toNat : Int) = 48 + (d : Int)) (W : World) (g : Nat) (h : W.cell? ⟨g, 0, none⟩ = some (.int .u8 (48 + (d : Int)))) :
    (convert 32 9 (.slice (some ⟨g, 0, none⟩) 1 1)).run Tryd.prog W = .ok (.string ⟨#[c]⟩) W := by
  refine run_convert_bytes_back W 32 9 5 ⟨g, 0, none⟩ 1 [c] Tryd.underlying32 Tryd.underlying5 Tryd.underlying9 ?_
  intro j hj
  obtain rfl : j = 0 := by simpa using hj
  simp only [List.getElem_cons_zero, hc]
  simpa [Addr.add] using h
theorem cell_new (w : World) (c : Value) (t : TypeId) : (w.alloc (.cells #[c] t)).cell? ⟨w.heap.size, 0, none⟩ = some c := by
  have h : (w.alloc (.cells #[c] t)).heap[w.heap.size]? = some (.cells #[c] t (0, 0)) := by
    show (w.heap.push _)[w.heap.size]? = _
    exact Array.getElem?_push_size
  unfold World.cell?
  rw [h]
  rfl
theorem wrap_dig (d : Nat) (hd : d < 10) : IntKind.u8.wrap (48 + (d : Int)) = 48 + (d : Int) := by
  have key : ∀ a : Fin 10, IntKind.u8.wrap (48 + (a.val : Int)) = 48 + (a.val : Int) := by decide +kernel
  exact key ⟨d, hd⟩
theorem nDigits_le : ∀ (n k : Nat), n < 10 ^ (k + 1) → Lib.nDigits n ≤ k + 1 := by
  intro n k h
  by_cases h0 : n < 10
  · rw [Lib.nDigits_small h0]; omega
  · cases k with
    | zero => omega
    | succ k =>
      rw [Lib.nDigits_big h0]
      have := nDigits_le (n / 10) k (by rw [Nat.pow_succ] at h; omega)
      omega
theorem dig_nat (d : Nat) (hd : d < 10) : ((UInt8.ofNat (48 + d)).toNat : Int) = 48 + (d : Int) := by
  have key : ∀ a : Fin 10, ((UInt8.ofNat (48 + a.val)).toNat : Int) = 48 + (a.val : Int) := by decide +kernel
  exact key ⟨d, hd⟩
set_option maxHeartbeats 4000000 in
set_option maxRecDepth 8000 in
theorem decimal_any : ∀ (n : Nat), n ≤ 1000000000 → ∀ w, Calls Tryd.prog 28 #[.int .i64 (n : Int)] w fun e w' => e = .returned (.string ⟨(Lib.decDigits n).toArray⟩) ∧ Below w.heap.size w w' := by
  intro n
  induction n using Nat.strongRecOn with
  | ind n ih =>
    intro hn w
    by_cases h10 : n < 10
    · have h10' : (n : Int) < 10 := by omega
      have e2 := wrap_dig n h10
      have hd := dig_nat n h10
      rw [Lib.decDigits_one h10]
      generalize UInt8.ofNat (48 + n) = c at hd ⊢
      have hcv := conv_one n c hd (w.alloc (.cells #[Value.int IntKind.u8 (48 + (n : Int))] 5)) w.heap.size (cell_new _ _ _)
      have B1 : Hid (Below w.heap.size w (w.alloc (.cells #[Value.int IntKind.u8 (48 + (n : Int))] 5))) := Lib.hid ((Below.refl _ _).alloc (Nat.le_refl _) _)
      go_enter Tryd.func28, Tryd.ntmps28
      go_wp2
      go_ret
      exact ⟨rfl, B1.out⟩
    · have h10' : (10 : Int) ≤ (n : Int) := by omega
      have IH := Lib.hid (ih (n / 10) (by omega) (by omega))
      have hw := wrap_dig (n % 10) (by omega)
      have hd := dig_nat (n % 10) (by omega)
      have hcat0 : (⟨(Lib.decDigits (n / 10)).toArray⟩ : ByteArray) ++ ⟨#[UInt8.ofNat (48 + n % 10)]⟩ = ⟨(Lib.decDigits n).toArray⟩ := by
        rw [Lib.decDigits.eq_def n, dif_neg h10]
        apply ByteArray.ext
        simp
      have hsz : (Lib.decDigits (n / 10)).length ≤ 10 := by rw [Lib.decDigits_length]; exact nDigits_le (n / 10) 9 (by omega)
      have SZ : ¬ (9223372036854775807 : Nat) < (⟨(Lib.decDigits (n / 10)).toArray⟩ : ByteArray).size + 1 := by
        show ¬ (9223372036854775807 : Nat) < (Lib.decDigits (n / 10)).toArray.size + 1
        simp; omega
      clear ih
      generalize UInt8.ofNat (48 + n % 10) = c at hd hcat0
      generalize (⟨(Lib.decDigits (n / 10)).toArray⟩ : ByteArray) = T1 at hcat0 IH SZ
      generalize (⟨(Lib.decDigits n).toArray⟩ : ByteArray) = T at hcat0 ⊢
      go_enter Tryd.func28, Tryd.ntmps28
      go_wp2
      refine wp_region_inv (by kernel_rfl) (fun listed act W => listed.size = 11 ∧ Below w.heap.size w W ∧ ∃ x0 x1 x2 x3 x4 x5 x6 x7 x8 x9 x10, act = { tmps := #[.int .i64 (n : Int), undef, x10, .int .i64 (n : Int), .bool (decide ((n : Int) < 0)), undef, undef, undef, undef, .int .i64 (n : Int), .bool (decide ((n : Int) < 10)), undef, undef, undef, undef, undef, x0, x1, x2, x3, x4, x5, x6, x7, x8, x9], defers := [] } ∧ (listed.getD 0 false = true → x0 = .int .i64 (n : Int)) ∧ (listed.getD 1 false = true → x1 = .int .i64 ((n / 10 : Nat) : Int)) ∧ (listed.getD 2 false = true → x2 = .string T1) ∧ (listed.getD 3 false = true → x3 = .int .i64 (n : Int)) ∧ (listed.getD 4 false = true → x4 = .int .i64 ((n % 10 : Nat) : Int)) ∧ (listed.getD 5 false = true → x5 = .int .i64 (48 + (n % 10 : Nat) : Int)) ∧ (listed.getD 6 false = true → x6 = .int .u8 (48 + (n % 10 : Nat) : Int)) ∧ (listed.getD 7 false = true → (∃ g, x7 = .slice (some ⟨g, 0, none⟩) 1 1 ∧ W.cell? ⟨g, 0, none⟩ = some (.int .u8 (48 + (n % 10 : Nat) : Int)))) ∧ (listed.getD 8 false = true → x8 = .string ⟨#[c]⟩) ∧ (listed.getD 9 false = true → x9 = .string T) ∧ (listed.getD 10 false = true → x10 = .string T)) (by kernel_rfl) ?h01 (fun _ _ _ h => h.1) ?hstep1 ?hend1
      case h01 =>
        refine ⟨rfl, (Below.refl _ _).drew, _, _, _, _, _, _, _, _, _, _, _, rfl, ?_, ?_, ?_, ?_, ?_, ?_, ?_, ?_, ?_, ?_, ?_⟩ <;> (intro h; exact absurd h (by decide))
      case hstep1 =>
        rintro listed act W i o ⟨hs, hB, x0, x1, x2, x3, x4, x5, x6, x7, x8, x9, x10, rfl, e0, e1, e2, e3, e4, e5, e6, e7, e8, e9, e10⟩ hun hio hpre
        have HB := Lib.hid hB
        have E0 := Lib.hid e0
        have E1 := Lib.hid e1
        have E2 := Lib.hid e2
        have E3 := Lib.hid e3
        have E4 := Lib.hid e4
        have E5 := Lib.hid e5
        have E6 := Lib.hid e6
        have E7 := Lib.hid e7
        have E8 := Lib.hid e8
        have E9 := Lib.hid e9
        have E10 := Lib.hid e10
        have HS := Lib.hid hs
        have HU := Lib.hid hun
        have PRE := Lib.hid hpre
        clear e0 e1 e2 e3 e4 e5 e6 e7 e8 e9 e10 hs hpre hB hun
        match i, hio with
        | 0, hio =>
          clear hio
          refine wpOp_by rfl fun K HK => ?_
          go_wp2_with (fail)
          exact HK.out _ _ ⟨by rw [Array.size_setIfInBounds, HS.out], HB.out, _, _, _, _, _, _, _, _, _, _, _, rfl, fun _ => rfl, fun h => E1.out ((listed_set h).resolve_left (by decide)), fun h => E2.out ((listed_set h).resolve_left (by decide)), fun h => E3.out ((listed_set h).resolve_left (by decide)), fun h => E4.out ((listed_set h).resolve_left (by decide)), fun h => E5.out ((listed_set h).resolve_left (by decide)), fun h => E6.out ((listed_set h).resolve_left (by decide)), fun h => (E7.out ((listed_set h).resolve_left (by decide))), fun h => E8.out ((listed_set h).resolve_left (by decide)), fun h => E9.out ((listed_set h).resolve_left (by decide)), fun h => E10.out ((listed_set h).resolve_left (by decide))⟩
        | 1, hio =>
          simp only [List.getElem?_toArray, List.getElem?_cons_succ, List.getElem?_cons_zero, Option.some.injEq] at hio
          subst hio
          have p0 := PRE.out ⟨0, .data⟩ (by simp) rfl
          obtain rfl := E0.out p0
          refine wpOp_by rfl fun K HK => ?_
          go_wp2_with (fail)
          exact HK.out _ _ ⟨by rw [Array.size_setIfInBounds, HS.out], HB.out, _, _, _, _, _, _, _, _, _, _, _, rfl, fun _ => rfl, fun _ => rfl, fun h => E2.out ((listed_set h).resolve_left (by decide)), fun h => E3.out ((listed_set h).resolve_left (by decide)), fun h => E4.out ((listed_set h).resolve_left (by decide)), fun h => E5.out ((listed_set h).resolve_left (by decide)), fun h => E6.out ((listed_set h).resolve_left (by decide)), fun h => (E7.out ((listed_set h).resolve_left (by decide))), fun h => E8.out ((listed_set h).resolve_left (by decide)), fun h => E9.out ((listed_set h).resolve_left (by decide)), fun h => E10.out ((listed_set h).resolve_left (by decide))⟩
        | 2, hio =>
          simp only [List.getElem?_toArray, List.getElem?_cons_succ, List.getElem?_cons_zero, Option.some.injEq] at hio
          subst hio
          have p1 := PRE.out ⟨1, .data⟩ (by simp) rfl
          obtain rfl := E1.out p1
          refine wpOp_by rfl fun K HK => ?_
          go_wp2_with fail
          refine (IH.out _).mono ?_
          rintro e W' ⟨rfl, hb⟩
          go_wp2
          exact HK.out _ _ ⟨by rw [Array.size_setIfInBounds, HS.out], HB.out.trans (hb.mono HB.out.size), _, _, _, _, _, _, _, _, _, _, _, rfl, fun h => E0.out ((listed_set h).resolve_left (by decide)), fun _ => rfl, fun _ => rfl, fun h => E3.out ((listed_set h).resolve_left (by decide)), fun h => E4.out ((listed_set h).resolve_left (by decide)), fun h => E5.out ((listed_set h).resolve_left (by decide)), fun h => E6.out ((listed_set h).resolve_left (by decide)), fun h => (by obtain ⟨g, e1, e2⟩ := (E7.out ((listed_set h).resolve_left (by decide))); exact ⟨g, e1, (hb.cell (World.block_lt_of_cell? _ _ e2)).trans e2⟩), fun h => E8.out ((listed_set h).resolve_left (by decide)), fun h => E9.out ((listed_set h).resolve_left (by decide)), fun h => E10.out ((listed_set h).resolve_left (by decide))⟩
        | 3, hio =>
          clear hio
          refine wpOp_by rfl fun K HK => ?_
          go_wp2_with (fail)
          exact HK.out _ _ ⟨by rw [Array.size_setIfInBounds, HS.out], HB.out, _, _, _, _, _, _, _, _, _, _, _, rfl, fun h => E0.out ((listed_set h).resolve_left (by decide)), fun h => E1.out ((listed_set h).resolve_left (by decide)), fun h => E2.out ((listed_set h).resolve_left (by decide)), fun _ => rfl, fun h => E4.out ((listed_set h).resolve_left (by decide)), fun h => E5.out ((listed_set h).resolve_left (by decide)), fun h => E6.out ((listed_set h).resolve_left (by decide)), fun h => (E7.out ((listed_set h).resolve_left (by decide))), fun h => E8.out ((listed_set h).resolve_left (by decide)), fun h => E9.out ((listed_set h).resolve_left (by decide)), fun h => E10.out ((listed_set h).resolve_left (by decide))⟩
        | 4, hio =>
          simp only [List.getElem?_toArray, List.getElem?_cons_succ, List.getElem?_cons_zero, Option.some.injEq] at hio
          subst hio
          have p3 := PRE.out ⟨3, .data⟩ (by simp) rfl
          obtain rfl := E3.out p3
          refine wpOp_by rfl fun K HK => ?_
          go_wp2_with (fail)
          exact HK.out _ _ ⟨by rw [Array.size_setIfInBounds, HS.out], HB.out, _, _, _, _, _, _, _, _, _, _, _, rfl, fun h => E0.out ((listed_set h).resolve_left (by decide)), fun h => E1.out ((listed_set h).resolve_left (by decide)), fun h => E2.out ((listed_set h).resolve_left (by decide)), fun _ => rfl, fun _ => rfl, fun h => E5.out ((listed_set h).resolve_left (by decide)), fun h => E6.out ((listed_set h).resolve_left (by decide)), fun h => (E7.out ((listed_set h).resolve_left (by decide))), fun h => E8.out ((listed_set h).resolve_left (by decide)), fun h => E9.out ((listed_set h).resolve_left (by decide)), fun h => E10.out ((listed_set h).resolve_left (by decide))⟩
        | 5, hio =>
          simp only [List.getElem?_toArray, List.getElem?_cons_succ, List.getElem?_cons_zero, Option.some.injEq] at hio
          subst hio
          have p4 := PRE.out ⟨4, .data⟩ (by simp) rfl
          obtain rfl := E4.out p4
          refine wpOp_by rfl fun K HK => ?_
          go_wp2_with (fail)
          exact HK.out _ _ ⟨by rw [Array.size_setIfInBounds, HS.out], HB.out, _, _, _, _, _, _, _, _, _, _, _, rfl, fun h => E0.out ((listed_set h).resolve_left (by decide)), fun h => E1.out ((listed_set h).resolve_left (by decide)), fun h => E2.out ((listed_set h).resolve_left (by decide)), fun h => E3.out ((listed_set h).resolve_left (by decide)), fun _ => rfl, fun _ => rfl, fun h => E6.out ((listed_set h).resolve_left (by decide)), fun h => (E7.out ((listed_set h).resolve_left (by decide))), fun h => E8.out ((listed_set h).resolve_left (by decide)), fun h => E9.out ((listed_set h).resolve_left (by decide)), fun h => E10.out ((listed_set h).resolve_left (by decide))⟩
        | 6, hio =>
          simp only [List.getElem?_toArray, List.getElem?_cons_succ, List.getElem?_cons_zero, Option.some.injEq] at hio
          subst hio
          have p5 := PRE.out ⟨5, .data⟩ (by simp) rfl
          obtain rfl := E5.out p5
          have hw2 := hw
          refine wpOp_by rfl fun K HK => ?_
          go_wp2_with (fail)
          exact HK.out _ _ ⟨by rw [Array.size_setIfInBounds, HS.out], HB.out, _, _, _, _, _, _, _, _, _, _, _, rfl, fun h => E0.out ((listed_set h).resolve_left (by decide)), fun h => E1.out ((listed_set h).resolve_left (by decide)), fun h => E2.out ((listed_set h).resolve_left (by decide)), fun h => E3.out ((listed_set h).resolve_left (by decide)), fun h => E4.out ((listed_set h).resolve_left (by decide)), fun _ => rfl, fun _ => rfl, fun h => (E7.out ((listed_set h).resolve_left (by decide))), fun h => E8.out ((listed_set h).resolve_left (by decide)), fun h => E9.out ((listed_set h).resolve_left (by decide)), fun h => E10.out ((listed_set h).resolve_left (by decide))⟩
        | 7, hio =>
          simp only [List.getElem?_toArray, List.getElem?_cons_succ, List.getElem?_cons_zero, Option.some.injEq] at hio
          subst hio
          have p6 := PRE.out ⟨6, .data⟩ (by simp) rfl
          obtain rfl := E6.out p6
          refine wpOp_by rfl fun K HK => ?_
          go_wp2_with (fail)
          exact HK.out _ _ ⟨by rw [Array.size_setIfInBounds, HS.out], HB.out.alloc (HB.out.size) _, _, _, _, _, _, _, _, _, _, _, _, rfl, fun h => E0.out ((listed_set h).resolve_left (by decide)), fun h => E1.out ((listed_set h).resolve_left (by decide)), fun h => E2.out ((listed_set h).resolve_left (by decide)), fun h => E3.out ((listed_set h).resolve_left (by decide)), fun h => E4.out ((listed_set h).resolve_left (by decide)), fun h => E5.out ((listed_set h).resolve_left (by decide)), fun _ => rfl, fun _ => ⟨_, rfl, cell_new _ _ _⟩, fun h => E8.out ((listed_set h).resolve_left (by decide)), fun h => E9.out ((listed_set h).resolve_left (by decide)), fun h => E10.out ((listed_set h).resolve_left (by decide))⟩
        | 8, hio =>
          simp only [List.getElem?_toArray, List.getElem?_cons_succ, List.getElem?_cons_zero, Option.some.injEq] at hio
          subst hio
          have p7 := PRE.out ⟨7, .data⟩ (by simp) rfl
          obtain ⟨g7, rfl, hg7⟩ := E7.out p7
          have hcv := conv_one (n % 10) c hd W g7 hg7
          refine wpOp_by rfl fun K HK => ?_
          go_wp2_with (fail)
          exact HK.out _ _ ⟨by rw [Array.size_setIfInBounds, HS.out], HB.out, _, _, _, _, _, _, _, _, _, _, _, rfl, fun h => E0.out ((listed_set h).resolve_left (by decide)), fun h => E1.out ((listed_set h).resolve_left (by decide)), fun h => E2.out ((listed_set h).resolve_left (by decide)), fun h => E3.out ((listed_set h).resolve_left (by decide)), fun h => E4.out ((listed_set h).resolve_left (by decide)), fun h => E5.out ((listed_set h).resolve_left (by decide)), fun h => E6.out ((listed_set h).resolve_left (by decide)), fun _ => ⟨g7, rfl, hg7⟩, fun _ => rfl, fun h => E9.out ((listed_set h).resolve_left (by decide)), fun h => E10.out ((listed_set h).resolve_left (by decide))⟩
        | 9, hio =>
          simp only [List.getElem?_toArray, List.getElem?_cons_succ, List.getElem?_cons_zero, Option.some.injEq] at hio
          subst hio
          have p2 := PRE.out ⟨2, .data⟩ (by simp) rfl
          have p8 := PRE.out ⟨8, .data⟩ (by simp) rfl
          obtain rfl := E2.out p2
          obtain rfl := E8.out p8
          have hcat := hcat0
          refine wpOp_by rfl fun K HK => ?_
          go_wp2_with (fail)
          exact HK.out _ _ ⟨by rw [Array.size_setIfInBounds, HS.out], HB.out, _, _, _, _, _, _, _, _, _, _, _, rfl, fun h => E0.out ((listed_set h).resolve_left (by decide)), fun h => E1.out ((listed_set h).resolve_left (by decide)), fun _ => rfl, fun h => E3.out ((listed_set h).resolve_left (by decide)), fun h => E4.out ((listed_set h).resolve_left (by decide)), fun h => E5.out ((listed_set h).resolve_left (by decide)), fun h => E6.out ((listed_set h).resolve_left (by decide)), fun h => (E7.out ((listed_set h).resolve_left (by decide))), fun _ => rfl, fun _ => rfl, fun h => E10.out ((listed_set h).resolve_left (by decide))⟩
        | 10, hio =>
          simp only [List.getElem?_toArray, List.getElem?_cons_succ, List.getElem?_cons_zero, Option.some.injEq] at hio
          subst hio
          have p9 := PRE.out ⟨9, .data⟩ (by simp) rfl
          obtain rfl := E9.out p9
          refine wpOp_by rfl fun K HK => ?_
          go_wp2_with (fail)
          exact HK.out _ _ ⟨by rw [Array.size_setIfInBounds, HS.out], HB.out, _, _, _, _, _, _, _, _, _, _, _, rfl, fun h => E0.out ((listed_set h).resolve_left (by decide)), fun h => E1.out ((listed_set h).resolve_left (by decide)), fun h => E2.out ((listed_set h).resolve_left (by decide)), fun h => E3.out ((listed_set h).resolve_left (by decide)), fun h => E4.out ((listed_set h).resolve_left (by decide)), fun h => E5.out ((listed_set h).resolve_left (by decide)), fun h => E6.out ((listed_set h).resolve_left (by decide)), fun h => (E7.out ((listed_set h).resolve_left (by decide))), fun h => E8.out ((listed_set h).resolve_left (by decide)), fun _ => rfl, fun _ => rfl⟩
        | k + 11, hio => simp at hio
      case hend1 =>
        rintro listed act W1 ⟨hs, hB, x0, x1, x2, x3, x4, x5, x6, x7, x8, x9, x10, rfl, e0, e1, e2, e3, e4, e5, e6, e7, e8, e9, e10⟩ hall
        obtain rfl := e0 (hall 0 (by decide))
        obtain rfl := e1 (hall 1 (by decide))
        obtain rfl := e2 (hall 2 (by decide))
        obtain rfl := e3 (hall 3 (by decide))
        obtain rfl := e4 (hall 4 (by decide))
        obtain rfl := e5 (hall 5 (by decide))
        obtain rfl := e6 (hall 6 (by decide))
        obtain ⟨g7, rfl, hg7⟩ := e7 (hall 7 (by decide))
        obtain rfl := e8 (hall 8 (by decide))
        obtain rfl := e9 (hall 9 (by decide))
        obtain rfl := e10 (hall 10 (by decide))
        clear hs hall
        have HB1 := Lib.hid hB
        clear hB
        go_wp2
        go_ret
        exact ⟨rfl, HB1.out⟩
end Go.Proofs.YtkijgadkgfapgaaDoor
