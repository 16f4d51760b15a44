/-
  THE SPECIFICATION's ReadNumber.
-/
import Derived.Test.YtaihooljphkpeaaDoorQd
import Derived.Test.YtaihooljphkpeaaDoorQg
import Derived.Test.YtaihooljphkpeaaDoorQi
namespace Go.Proofs.YtaihooljphkpeaaDoor
open Go.ChangeShapes Go.WideShapes Go.ChangeAt Go.RowKit
open Fl
def specR : Option Nat → Value
  | some r => .tuple #[.float .f32 r, .bool true]
  | none => .tuple #[.float .f32 0, .bool false]
/-- the divisor so far: the one of the texts below k that is b -/
def ByInv (l : List UInt8) (k d : Nat) : Prop := (∃ j, 1 ≤ j ∧ j < k ∧ l = decT j ∧ d = 2 ^ j) ∨ (d = 0 ∧ ∀ j, 1 ≤ j → j < k → l ≠ decT j)
theorem ByInv.start (l : List UInt8) : ByInv l 1 0 := .inr ⟨rfl, fun j h1 h2 => by omega⟩
theorem ByInv.hit {l : List UInt8} {k d : Nat} (h1 : 1 ≤ k) (h : l = decT k) : ByInv l (k + 1) (2 ^ k) := .inl ⟨k, h1, by omega, h, rfl⟩
theorem ByInv.miss {l : List UInt8} {k d : Nat} (hi : ByInv l k d) (h : l ≠ decT k) : ByInv l (k + 1) d := by
  rcases hi with ⟨j, a, b, c, e⟩ | ⟨a, b⟩
  · exact .inl ⟨j, a, by omega, c, e⟩
  · refine .inr ⟨a, fun j h1 h2 => ?_⟩
    by_cases hj : j = k
    · subst hj; exact h
    · exact b j h1 (by omega)
theorem ByInv.fin {l : List UInt8} {d : Nat} (hi : ByInv l 11 d) : (byV l = none ∧ d = 0) ∨ ∃ k, byV l = some k ∧ d = 2 ^ k ∧ 1 ≤ k ∧ k ≤ 10 := by
  rcases hi with ⟨j, a, b, c, e⟩ | ⟨a, b⟩
  · exact .inr ⟨j, byV_iff a (by omega) c, e, a, by omega⟩
  · refine .inl ⟨?_, a⟩
    cases h : byV l with
    | none => rfl
    | some k => obtain ⟨h1, h2, h3⟩ := byV_some h; exact absurd h3 (b k h1 (by omega))
theorem shl_ok (k : Nat) (hk : k ≤ 10) : IntKind.i64.wrap (1 * 2 ^ k) = ((2 ^ k : Nat) : Int) := by
  have key : ∀ a : Fin 11, IntKind.i64.wrap (1 * 2 ^ a.val) = ((2 ^ a.val : Nat) : Int) := by decide +kernel
  exact key ⟨k, by omega⟩
theorem shl_ok2 (k : Nat) (hk : k ≤ 10) : wrap64 ((2 : Int) ^ k) = ((2 ^ k : Nat) : Int) := by
  have key : ∀ a : Fin 11, wrap64 ((2 : Int) ^ a.val) = ((2 ^ a.val : Nat) : Int) := by decide +kernel
  exact key ⟨k, by omega⟩
theorem splitL_len (c : UInt8) : ∀ l : List UInt8, (splitL c l).length ≤ l.length + 1
  | [] => by simp [splitL]
  | x :: r => by
    have ih := splitL_len c r
    rw [splitL]
    split
    · simp; omega
    · obtain ⟨a, q, e⟩ := splitL_ne c r
      rw [e] at ih ⊢
      simp at ih ⊢
      omega
theorem split47 (U : ByteArray) (hm : U.size ≤ 1048576) (w : World) :
    Calls Tryd.prog 22 #[.string U, .int .u8 47] w fun e w' => ∃ (a : ByteArray) (q : List ByteArray) (g cap : Nat), e = .returned (.slice (some ⟨g, 0, none⟩) (q.length + 1) cap) ∧ splitL 47 U.data.toList = a.data.toList :: q.map (·.data.toList) ∧
      w'.cell? ⟨g, 0, none⟩ = some (.string a) ∧ (∀ b q', q = b :: q' → w'.cell? ⟨g, 1, none⟩ = some (.string b)) ∧ q.length ≤ 1048576 ∧ Below w.heap.size w w' := by
  refine (l01Split_any U 47 hm w).mono ?_
  rintro e w' ⟨⟨g, cap, q, rfl, h1, h2, h3⟩, hb⟩
  obtain ⟨x, r, e1⟩ := splitL_ne 47 U.data.toList
  cases q with
  | nil => rw [e1] at h1; cases h1
  | cons a q =>
    refine ⟨a, q, g, cap, rfl, h1, h3 0 (by simp), ?_, ?_, hb⟩
    · rintro b q' rfl
      exact h3 1 (by simp)
    · have := splitL_len 47 U.data.toList
      have hU : U.data.toList.length = U.size := by rw [Array.length_toList]; rfl
      rw [h1] at this
      simp at this
      omega
set_option maxHeartbeats 8000000 in
set_option maxRecDepth 8000 in
theorem l08_H1 (t : ByteArray) (hm : t.size ≤ 1048576) (w : World) (hng : isNeg t.data.toList = true) :
    Calls Tryd.prog 17 #[.string t] w fun e w' => e = .returned (specR (numV (splitL 47) t.data.toList)) ∧ Below w.heap.size w w' := by
  obtain ⟨r0, hr0⟩ : ∃ r, t.data.toList = 45 :: r := by
    unfold isNeg at hng
    cases h : t.data.toList with
    | nil => rw [h] at hng; cases hng
    | cons x r => rw [h] at hng; simp at hng; subst hng; exact ⟨r, rfl⟩
  have hs : t.data.toList.length = t.size := by rw [Array.length_toList]; rfl
  have hp : 0 < t.size := by rw [← hs, hr0]; simp
  have t1 : (0 : Int) < (t.size : Int) := by omega
  have hx : ∀ w, (Instr.index 9 (.string t) (.int .i64 0)).run Tryd.prog w = .ok (.int .u8 45) w := fun w => by
    have := idx_str t 0 (by omega) w
    simp only [hr0, List.getElem_cons_zero] at this
    exact this
  have hsl : ∀ w, (Instr.slice 9 (.string t) (some (.int .i64 1)) none none).run Tryd.prog w = .ok (.string (t.extract 1 t.size)) w := fun w => by
    rw [run_slice_string_from_if w 9 t .i64 1 Tryd.underlying9, if_pos ⟨by omega, by omega⟩]
    rfl
  have hU : (t.extract 1 t.size).data.toList = rest t.data.toList := by
    rw [extract_list, List.take_of_length_le (by rw [List.length_drop]; omega)]
    unfold rest
    rw [if_pos hng]
  have hUs : (t.extract 1 t.size).size ≤ 1048576 := by simp; omega
  generalize t.extract 1 t.size = U at hsl hU hUs
  have SPL := Lib.hid (fun w => split47 U hUs w)
  have SM := Lib.hid (fun a h w => l01Small_any a h w)
  have DE := Lib.hid decimal_any
  have HQ := Lib.hid quo_ok
  have NUM : Hid (∀ a q, splitL 47 U.data.toList = a :: q → numV (splitL 47) t.data.toList = (partsV (a :: q)).bind fun p => quoB (-(p.1 : Int)) p.2) := Lib.hid fun a q e => by
    unfold numV
    rw [← hU, e, hng]
    rfl
  clear hU hUs hng hm hs
  generalize numV (splitL 47) t.data.toList = RES at NUM ⊢
  go_enter Tryd.func17, Tryd.ntmps17
  go_wp2_with fail
  refine (SPL.out _).mono ?_
  rintro e w1 ⟨a, q, g, cap, rfl, hspl, hc0, hc1, hql, hb1⟩
  have B1 := Lib.hid hb1
  have NR := Lib.hid (NUM.out _ _ hspl)
  have C1 := Lib.hid hc1
  have SLT : Hid (∀ v, smallV a.data.toList = some v → v < 1000000) := Lib.hid fun v h => smallV_lt h
  have S6 : Hid (6 < a.size → smallV a.data.toList = none) := Lib.hid fun h => by
    have e : a.data.toList.length = a.size := by rw [Array.length_toList]; rfl
    unfold smallV; rw [if_pos (Or.inr (by omega))]
  clear hb1 hspl hc1 SPL NUM
  have SMa : Hid (a.size ≤ 6 → ∀ w, Calls Tryd.prog 23 #[.string a] w fun e w' => e = .returned (.int .i64 (smallI (smallV a.data.toList))) ∧ w = w') := Lib.hid fun h w => SM.out a h w
  clear SM
  generalize hVV : smallV a.data.toList = V at SMa SLT S6
  have VV := Lib.hid hVV
  clear hVV
  by_cases h6 : a.size ≤ 6
  · have a6 : (a.size : Int) ≤ 6 := by omega
    rcases q with _ | ⟨b, _ | ⟨c, q⟩⟩
    · go_wp2_with fail
      refine (SMa.out h6 _).mono ?_
      rintro e w2 ⟨rfl, rfl⟩
      clear SMa S6
      cases V with
      | none =>
        simp only [smallI]
        have er : RES = none := by rw [NR.out]; unfold partsV; simp only [List.map_nil, VV.out]; rfl
        subst er
        go_wp2
        go_ret2
        exact ⟨rfl, B1.out⟩
      | some n =>
        obtain ⟨r, hr, _⟩ := HQ.out (-(n : Int)) 0 (by have := SLT.out n rfl; omega) (by first | omega | exact hk10)
        have er : RES = some r := by rw [NR.out]; unfold partsV; simp only [List.map_nil, VV.out]; exact hr
        subst er
        have hop : ∀ w, (binOp .quo 26 (.float .f32 (floatOfInt .f32 (-(n : Int)))) (.float .f32 (floatOfInt .f32 1))).run Tryd.prog w = .ok (.float .f32 r) w := fun w => run_float_arith w .quo 26 .f32 _ _ r hr
        have hlt := SLT.out n rfl
        have wn : IntKind.i64.wrap (-(n : Int)) = -(n : Int) := by rw [IntKind.wrap_i64]; omega
        have nn : ¬ ((n : Int) < 0) := by omega
        have n0 : (0 : Int) ≤ (n : Int) := by omega
        simp only [smallI]
        clear hr HQ
        go_wp2
        go_ret2
        exact ⟨rfl, B1.out⟩
    · have hc1 := C1.out b [] rfl
      go_wp2_with fail
      refine (SMa.out h6 _).mono ?_
      rintro e w2 ⟨rfl, rfl⟩
      have G0 := Lib.hid (World.block_lt_of_cell? _ _ hc1)
      have TQ : Hid (∀ k : Nat, (b.toList == (⟨(Lib.decDigits (2 ^ k)).toArray⟩ : ByteArray).toList) = decide (b.data.toList = decT k)) := Lib.hid fun k => text_beq _ _
      have CB := Lib.hid hc1
      clear hc1 C1
      go_wp2
      clear hc0
      have I0 : Hid (ByInv b.data.toList 1 0) := Lib.hid (ByInv.start _)
      go_loopw [7, 8] (fun vby vk wr => ∃ k d : Nat, 1 ≤ k ∧ k ≤ 11 ∧ vk = .int .u64 (k : Int) ∧ vby = .int .i64 (d : Int) ∧ Below w1.heap.size w1 wr ∧ Hid (ByInv b.data.toList k d)) (fun _ vk _ => 11 - (intOf vk).toNat)
      case atStart => exact ⟨1, 0, by omega, by omega, rfl, rfl, Below.refl _ _, I0⟩
      case round =>
        obtain ⟨k, d, hk1, hk2, rfl, rfl, hb, HI⟩ := hrel
        have HB := Lib.hid hb
        clear hb
        by_cases hlt : k ≤ 10
        · have HK := Lib.hid hlt
          have HK1 := Lib.hid hk1
          have hp : (2 : Nat) ^ k ≤ 2 ^ 10 := Nat.pow_le_pow_right (by decide) hlt
          have ep : (2 : Nat) ^ 10 = 1024 := by decide
          have DEk : Hid (∀ w, Calls Tryd.prog 8 #[.int .i64 ((2 ^ k : Nat) : Int)] w fun e w' => e = .returned (.string ⟨(Lib.decDigits (2 ^ k)).toArray⟩) ∧ Below w.heap.size w w') := Lib.hid fun w => DE.out (2 ^ k) (by omega) w
          have tq := TQ.out k
          have tk : (k : Int) ≤ 10 := by omega
          have tk0 : (0 : Int) ≤ (k : Int) := by omega
          have hsh : IntKind.i64.wrap (1 * 2 ^ k) = ((2 ^ k : Nat) : Int) := shl_ok k hlt
          have hsh2 := shl_ok2 k hlt
          generalize (⟨(Lib.decDigits (2 ^ k)).toArray⟩ : ByteArray) = T at DEk tq
          go_wp2
          go_wp2_with fail
          have HBw := HB
          have CW : Hid (wr.cell? ⟨g, 1, none⟩ = some (.string b)) := Lib.hid ((HB.out.cell (p := ⟨g, 1, none⟩) G0.out).trans CB.out)
          refine wp_region_inv (by kernel_rfl) (fun listed act W => listed.size = 7 ∧ Below wr.heap.size wr W ∧ ∃ x0 x1 x2 x3 x4 x5 x6, act = { tmps := #[.string U, undef, .float .f32 0, .bool false, .bool true, .slice (some ⟨g, 0, none⟩) 2 cap, .int .i64 (smallI V), .int .i64 (d : Int), .int .u64 (k : Int), .string t, .int .i64 (t.size : Int), .bool true, .bool true, .string t, .int .u8 45, .bool true, .bool true, .bool true, .string t, .string U, .string U, .slice (some ⟨g, 0, none⟩) 2 cap, .slice (some ⟨g, 0, none⟩) 2 cap, .pointer (some ⟨g, 0, none⟩), .string a, .int .i64 (a.size : Int), .bool true, .slice (some ⟨g, 0, none⟩) 2 cap, .pointer (some ⟨g, 0, none⟩), .string a, .int .i64 (smallI V), .slice (some ⟨g, 0, none⟩) 2 cap, .int .i64 2, .bool true, .int .u64 (k : Int), .bool true, u36, u37, x0, x1, x2, x3, x4, x5, x6, u45, u46, undef, undef, undef, undef, undef, undef, undef, undef, undef, undef, undef, undef, undef, undef, undef, undef, undef, undef, undef], defers := [] } ∧ (listed.getD 0 false = true → x0 = .slice (some ⟨g, 0, none⟩) 2 cap) ∧ (listed.getD 1 false = true → x1 = .pointer (some ⟨g, 1, none⟩)) ∧ (listed.getD 2 false = true → x2 = .string b) ∧ (listed.getD 3 false = true → x3 = .int .u64 (k : Int)) ∧ (listed.getD 4 false = true → x4 = .int .i64 ((2 ^ k : Nat) : Int)) ∧ (listed.getD 5 false = true → x5 = .string T) ∧ (listed.getD 6 false = true → x6 = .bool (decide (b.data.toList = decT k)))) (by kernel_rfl) ?h01 (fun _ _ _ h => h.1) ?hstep1 ?hend1
          case h01 =>
            refine ⟨rfl, (Below.refl _ _).drew, _, _, _, _, _, _, _, rfl, ?_, ?_, ?_, ?_, ?_, ?_, ?_⟩ <;> (intro h; exact absurd h (by decide))
          case hstep1 =>
            rintro listed act W i o ⟨hs, hB, x0, x1, x2, x3, x4, x5, x6, rfl, e0, e1, e2, e3, e4, e5, e6⟩ hun hio hpre
            have HB := Lib.hid hB
            have E0 := Lib.hid e0
            have E1 := Lib.hid e1
            have E2 := Lib.hid e2
            have E3 := Lib.hid e3
            have E4 := Lib.hid e4
            have E5 := Lib.hid e5
            have E6 := Lib.hid e6
            have HS := Lib.hid hs
            have HU := Lib.hid hun
            have PRE := Lib.hid hpre
            clear e0 e1 e2 e3 e4 e5 e6 hs hpre hB hun
            match i, hio with
            | 0, hio =>
              clear hio
              refine wpOp_by rfl fun K HK => ?_
              go_wp2_with (fail)
              exact HK.out _ _ ⟨by rw [Array.size_setIfInBounds, HS.out], HB.out, _, _, _, _, _, _, _, rfl, fun _ => rfl, fun h => E1.out ((listed_set h).resolve_left (by decide)), fun h => E2.out ((listed_set h).resolve_left (by decide)), fun h => E3.out ((listed_set h).resolve_left (by decide)), fun h => E4.out ((listed_set h).resolve_left (by decide)), fun h => E5.out ((listed_set h).resolve_left (by decide)), fun h => E6.out ((listed_set h).resolve_left (by decide))⟩
            | 1, hio =>
              simp only [List.getElem?_toArray, List.getElem?_cons_succ, List.getElem?_cons_zero, Option.some.injEq] at hio
              subst hio
              have p0 := PRE.out ⟨0, .data⟩ (by simp) rfl
              obtain rfl := E0.out p0
              refine wpOp_by rfl fun K HK => ?_
              go_wp2_with (fail)
              exact HK.out _ _ ⟨by rw [Array.size_setIfInBounds, HS.out], HB.out, _, _, _, _, _, _, _, rfl, fun _ => rfl, fun _ => rfl, fun h => E2.out ((listed_set h).resolve_left (by decide)), fun h => E3.out ((listed_set h).resolve_left (by decide)), fun h => E4.out ((listed_set h).resolve_left (by decide)), fun h => E5.out ((listed_set h).resolve_left (by decide)), fun h => E6.out ((listed_set h).resolve_left (by decide))⟩
            | 2, hio =>
              simp only [List.getElem?_toArray, List.getElem?_cons_succ, List.getElem?_cons_zero, Option.some.injEq] at hio
              subst hio
              have p1 := PRE.out ⟨1, .data⟩ (by simp) rfl
              obtain rfl := E1.out p1
              have hcc := (HB.out.cell (p := ⟨g, 1, none⟩) (by have := G0.out; have := HBw.out.size; show g < _; omega)).trans CW.out
              refine wpOp_by rfl fun K HK => ?_
              go_wp2_with (fail)
              exact HK.out _ _ ⟨by rw [Array.size_setIfInBounds, HS.out], HB.out, _, _, _, _, _, _, _, rfl, fun h => E0.out ((listed_set h).resolve_left (by decide)), fun _ => rfl, fun _ => rfl, fun h => E3.out ((listed_set h).resolve_left (by decide)), fun h => E4.out ((listed_set h).resolve_left (by decide)), fun h => E5.out ((listed_set h).resolve_left (by decide)), fun h => E6.out ((listed_set h).resolve_left (by decide))⟩
            | 3, hio =>
              clear hio
              refine wpOp_by rfl fun K HK => ?_
              go_wp2_with (fail)
              exact HK.out _ _ ⟨by rw [Array.size_setIfInBounds, HS.out], HB.out, _, _, _, _, _, _, _, rfl, fun h => E0.out ((listed_set h).resolve_left (by decide)), fun h => E1.out ((listed_set h).resolve_left (by decide)), fun h => E2.out ((listed_set h).resolve_left (by decide)), fun _ => rfl, fun h => E4.out ((listed_set h).resolve_left (by decide)), fun h => E5.out ((listed_set h).resolve_left (by decide)), fun h => E6.out ((listed_set h).resolve_left (by decide))⟩
            | 4, hio =>
              simp only [List.getElem?_toArray, List.getElem?_cons_succ, List.getElem?_cons_zero, Option.some.injEq] at hio
              subst hio
              have p3 := PRE.out ⟨3, .data⟩ (by simp) rfl
              obtain rfl := E3.out p3
              refine wpOp_by rfl fun K HK => ?_
              go_wp2_with (fail)
              exact HK.out _ _ ⟨by rw [Array.size_setIfInBounds, HS.out], HB.out, _, _, _, _, _, _, _, rfl, fun h => E0.out ((listed_set h).resolve_left (by decide)), fun h => E1.out ((listed_set h).resolve_left (by decide)), fun h => E2.out ((listed_set h).resolve_left (by decide)), fun _ => rfl, fun _ => rfl, fun h => E5.out ((listed_set h).resolve_left (by decide)), fun h => E6.out ((listed_set h).resolve_left (by decide))⟩
            | 5, hio =>
              simp only [List.getElem?_toArray, List.getElem?_cons_succ, List.getElem?_cons_zero, Option.some.injEq] at hio
              subst hio
              have p4 := PRE.out ⟨4, .data⟩ (by simp) rfl
              obtain rfl := E4.out p4
              refine wpOp_by rfl fun K HK => ?_
              go_wp2_with fail
              refine (DEk.out _).mono ?_
              rintro e W' ⟨rfl, hb⟩
              go_wp2
              exact HK.out _ _ ⟨by rw [Array.size_setIfInBounds, HS.out], HB.out.trans (hb.mono HB.out.size), _, _, _, _, _, _, _, rfl, fun h => E0.out ((listed_set h).resolve_left (by decide)), fun h => E1.out ((listed_set h).resolve_left (by decide)), fun h => E2.out ((listed_set h).resolve_left (by decide)), fun h => E3.out ((listed_set h).resolve_left (by decide)), fun _ => rfl, fun _ => rfl, fun h => E6.out ((listed_set h).resolve_left (by decide))⟩
            | 6, hio =>
              simp only [List.getElem?_toArray, List.getElem?_cons_succ, List.getElem?_cons_zero, Option.some.injEq] at hio
              subst hio
              have p2 := PRE.out ⟨2, .data⟩ (by simp) rfl
              have p5 := PRE.out ⟨5, .data⟩ (by simp) rfl
              obtain rfl := E2.out p2
              obtain rfl := E5.out p5
              refine wpOp_by rfl fun K HK => ?_
              go_wp2_with (fail)
              exact HK.out _ _ ⟨by rw [Array.size_setIfInBounds, HS.out], HB.out, _, _, _, _, _, _, _, rfl, fun h => E0.out ((listed_set h).resolve_left (by decide)), fun h => E1.out ((listed_set h).resolve_left (by decide)), fun _ => rfl, fun h => E3.out ((listed_set h).resolve_left (by decide)), fun h => E4.out ((listed_set h).resolve_left (by decide)), fun _ => rfl, fun _ => rfl⟩
            | k + 7, hio => simp at hio
          case hend1 =>
            rintro listed act W1 ⟨hs, hB, x0, x1, x2, x3, x4, x5, x6, rfl, e0, e1, e2, e3, e4, e5, e6⟩ hall
            obtain rfl := e0 (hall 0 (by decide))
            obtain rfl := e1 (hall 1 (by decide))
            obtain rfl := e2 (hall 2 (by decide))
            obtain rfl := e3 (hall 3 (by decide))
            obtain rfl := e4 (hall 4 (by decide))
            obtain rfl := e5 (hall 5 (by decide))
            obtain rfl := e6 (hall 6 (by decide))
            clear hs hall
            have HB1 := Lib.hid (HBw.out.trans (hB.mono HBw.out.size))
            clear hB
            by_cases heq : b.data.toList = decT k
            · have HN : Hid (ByInv b.data.toList (k + 1) (2 ^ k)) := Lib.hid (ByInv.hit (d := d) HK1.out heq)
              rw [decide_eq_true heq]
              clear heq
              go_wp2
              go_roundw
              case rel => exact ⟨k + 1, 2 ^ k, by omega, by have := HK.out; omega, by go_num, by first | rfl | go_num, HB1.out, HN⟩
              case measure => have := HK.out; simp [intOf]; omega
            · have HN : Hid (ByInv b.data.toList (k + 1) d) := Lib.hid (ByInv.miss HI.out heq)
              rw [decide_eq_false heq]
              clear heq
              go_wp2
              go_roundw
              case rel => exact ⟨k + 1, d, by omega, by have := HK.out; omega, by go_num, by first | rfl | go_num, HB1.out, HN⟩
              case measure => have := HK.out; simp [intOf]; omega
        · obtain rfl : k = 11 := by omega
          have B2 := Lib.hid (B1.out.trans (HB.out.mono B1.out.size))
          rcases HI.out.fin with ⟨hbv, hd⟩ | ⟨kk, hbv, hd, hk1, hk10⟩
          · subst hd
            have BV := Lib.hid hbv
            clear hbv
            cases V with
            | none =>
              simp only [smallI]
              have er : RES = none := by rw [NR.out]; unfold partsV; simp only [List.map_cons, List.map_nil, VV.out]; rfl
              subst er
              go_wp2
              go_ret2
              exact ⟨rfl, B2.out⟩
            | some n =>
              have hlt2 := SLT.out n rfl
              have nn : ¬ ((n : Int) < 0) := by omega
              have n0 : (0 : Int) ≤ (n : Int) := by omega
              simp only [smallI]
              have er : RES = none := by rw [NR.out]; unfold partsV; simp only [List.map_cons, List.map_nil, VV.out, BV.out, Option.map_none, Option.bind_some]; rfl
              subst er
              go_wp2
              go_ret2
              exact ⟨rfl, B2.out⟩
          · have BV := Lib.hid hbv
            have HPP := Lib.hid hd
            have hd2 : 2 ≤ d := by
              have : (2 : Nat) ^ 1 ≤ 2 ^ kk := Nat.pow_le_pow_right (by decide) hk1
              omega
            have hdz : ((d : Int) == 0) = false := beq_eq_false_iff_ne.2 (by omega)
            clear hbv hd
            cases V with
            | none =>
              simp only [smallI]
              have er : RES = none := by rw [NR.out]; unfold partsV; simp only [List.map_cons, List.map_nil, VV.out]; rfl
              subst er
              go_wp2
              go_ret2
              exact ⟨rfl, B2.out⟩
            | some n =>
              obtain ⟨r, hr, _⟩ := HQ.out (-(n : Int)) kk (by have := SLT.out n rfl; omega) (by first | omega | exact hk10)
              have er : RES = some r := by rw [NR.out]; unfold partsV; simp only [List.map_cons, List.map_nil, VV.out, BV.out, Option.map_some, Option.bind_some]; exact hr
              subst er
              have hop : ∀ w, (binOp .quo 26 (.float .f32 (floatOfInt .f32 (-(n : Int)))) (.float .f32 (floatOfInt .f32 (d : Int)))).run Tryd.prog w = .ok (.float .f32 r) w := fun w => run_float_arith w .quo 26 .f32 _ _ r (by rw [HPP.out]; exact hr)
              have hlt := SLT.out n rfl
              have wn : IntKind.i64.wrap (-(n : Int)) = -(n : Int) := by rw [IntKind.wrap_i64]; omega
              have nn : ¬ ((n : Int) < 0) := by omega
              have n0 : (0 : Int) ≤ (n : Int) := by omega
              simp only [smallI]
              clear hr HQ
              go_wp2
              go_ret2
              exact ⟨rfl, B2.out⟩
    · have er : RES = none := by rw [NR.out]; rfl
      subst er
      have hl3 : (2 : Int) < ((q.length + 1 + 1 + 1 : Nat) : Int) := by omega
      have hl2 : (((q.length + 1 + 1 + 1 : Nat) : Int) == 2) = false := beq_eq_false_iff_ne.2 (by omega)
      simp only [List.length_cons] at hql ⊢
      generalize q.length + 1 + 1 + 1 = ln at hl3 hl2 ⊢
      go_wp2_with fail
      refine (SMa.out h6 _).mono ?_
      rintro e w2 ⟨rfl, rfl⟩
      clear SMa S6
      cases V with
      | none =>
        simp only [smallI]
        go_wp2
        go_ret2
        exact ⟨rfl, B1.out⟩
      | some n =>
        have nn : ¬ ((n : Int) < 0) := by omega
        have n0 : (0 : Int) ≤ (n : Int) := by omega
        simp only [smallI]
        go_wp2
        go_ret2
        exact ⟨rfl, B1.out⟩
  · have a6 : ¬ ((a.size : Int) ≤ 6) := by omega
    have a7 : (6 : Int) < (a.size : Int) := by omega
    have h6 : 6 < a.size := by omega
    rcases q with _ | ⟨b, _ | ⟨c, q⟩⟩
    · have hV := S6.out h6
      subst hV
      clear SLT S6
      have er : RES = none := by rw [NR.out]; unfold partsV; simp only [List.map_nil, VV.out]; rfl
      subst er
      go_wp2
      go_ret2
      exact ⟨rfl, B1.out⟩
    · have hc1 := C1.out b [] rfl
      have G0 := Lib.hid (World.block_lt_of_cell? _ _ hc1)
      have TQ : Hid (∀ k : Nat, (b.toList == (⟨(Lib.decDigits (2 ^ k)).toArray⟩ : ByteArray).toList) = decide (b.data.toList = decT k)) := Lib.hid fun k => text_beq _ _
      have CB := Lib.hid hc1
      clear hc1 C1
      go_wp2
      clear hc0
      have I0 : Hid (ByInv b.data.toList 1 0) := Lib.hid (ByInv.start _)
      go_loopw [7, 8] (fun vby vk wr => ∃ k d : Nat, 1 ≤ k ∧ k ≤ 11 ∧ vk = .int .u64 (k : Int) ∧ vby = .int .i64 (d : Int) ∧ Below w1.heap.size w1 wr ∧ Hid (ByInv b.data.toList k d)) (fun _ vk _ => 11 - (intOf vk).toNat)
      case atStart => exact ⟨1, 0, by omega, by omega, rfl, rfl, Below.refl _ _, I0⟩
      case round =>
        obtain ⟨k, d, hk1, hk2, rfl, rfl, hb, HI⟩ := hrel
        have HB := Lib.hid hb
        clear hb
        by_cases hlt : k ≤ 10
        · have HK := Lib.hid hlt
          have HK1 := Lib.hid hk1
          have hp : (2 : Nat) ^ k ≤ 2 ^ 10 := Nat.pow_le_pow_right (by decide) hlt
          have ep : (2 : Nat) ^ 10 = 1024 := by decide
          have DEk : Hid (∀ w, Calls Tryd.prog 8 #[.int .i64 ((2 ^ k : Nat) : Int)] w fun e w' => e = .returned (.string ⟨(Lib.decDigits (2 ^ k)).toArray⟩) ∧ Below w.heap.size w w') := Lib.hid fun w => DE.out (2 ^ k) (by omega) w
          have tq := TQ.out k
          have tk : (k : Int) ≤ 10 := by omega
          have tk0 : (0 : Int) ≤ (k : Int) := by omega
          have hsh : IntKind.i64.wrap (1 * 2 ^ k) = ((2 ^ k : Nat) : Int) := shl_ok k hlt
          have hsh2 := shl_ok2 k hlt
          generalize (⟨(Lib.decDigits (2 ^ k)).toArray⟩ : ByteArray) = T at DEk tq
          go_wp2
          go_wp2_with fail
          have HBw := HB
          have CW : Hid (wr.cell? ⟨g, 1, none⟩ = some (.string b)) := Lib.hid ((HB.out.cell (p := ⟨g, 1, none⟩) G0.out).trans CB.out)
          refine wp_region_inv (by kernel_rfl) (fun listed act W => listed.size = 7 ∧ Below wr.heap.size wr W ∧ ∃ x0 x1 x2 x3 x4 x5 x6, act = { tmps := #[.string U, undef, .float .f32 0, .bool false, .bool true, .slice (some ⟨g, 0, none⟩) 2 cap, .int .i64 (-1), .int .i64 (d : Int), .int .u64 (k : Int), .string t, .int .i64 (t.size : Int), .bool true, .bool true, .string t, .int .u8 45, .bool true, .bool true, .bool true, .string t, .string U, .string U, .slice (some ⟨g, 0, none⟩) 2 cap, .slice (some ⟨g, 0, none⟩) 2 cap, .pointer (some ⟨g, 0, none⟩), .string a, .int .i64 (a.size : Int), .bool (decide ((a.size : Int) ≤ 6)), undef, undef, undef, undef, .slice (some ⟨g, 0, none⟩) 2 cap, .int .i64 2, .bool true, .int .u64 (k : Int), .bool true, u36, u37, x0, x1, x2, x3, x4, x5, x6, u45, u46, undef, undef, undef, undef, undef, undef, undef, undef, undef, undef, undef, undef, undef, undef, undef, undef, undef, undef, undef], defers := [] } ∧ (listed.getD 0 false = true → x0 = .slice (some ⟨g, 0, none⟩) 2 cap) ∧ (listed.getD 1 false = true → x1 = .pointer (some ⟨g, 1, none⟩)) ∧ (listed.getD 2 false = true → x2 = .string b) ∧ (listed.getD 3 false = true → x3 = .int .u64 (k : Int)) ∧ (listed.getD 4 false = true → x4 = .int .i64 ((2 ^ k : Nat) : Int)) ∧ (listed.getD 5 false = true → x5 = .string T) ∧ (listed.getD 6 false = true → x6 = .bool (decide (b.data.toList = decT k)))) (by kernel_rfl) ?h01 (fun _ _ _ h => h.1) ?hstep1 ?hend1
          case h01 =>
            refine ⟨rfl, (Below.refl _ _).drew, _, _, _, _, _, _, _, rfl, ?_, ?_, ?_, ?_, ?_, ?_, ?_⟩ <;> (intro h; exact absurd h (by decide))
          case hstep1 =>
            rintro listed act W i o ⟨hs, hB, x0, x1, x2, x3, x4, x5, x6, rfl, e0, e1, e2, e3, e4, e5, e6⟩ hun hio hpre
            have HB := Lib.hid hB
            have E0 := Lib.hid e0
            have E1 := Lib.hid e1
            have E2 := Lib.hid e2
            have E3 := Lib.hid e3
            have E4 := Lib.hid e4
            have E5 := Lib.hid e5
            have E6 := Lib.hid e6
            have HS := Lib.hid hs
            have HU := Lib.hid hun
            have PRE := Lib.hid hpre
            clear e0 e1 e2 e3 e4 e5 e6 hs hpre hB hun
            match i, hio with
            | 0, hio =>
              clear hio
              refine wpOp_by rfl fun K HK => ?_
              go_wp2_with (fail)
              exact HK.out _ _ ⟨by rw [Array.size_setIfInBounds, HS.out], HB.out, _, _, _, _, _, _, _, rfl, fun _ => rfl, fun h => E1.out ((listed_set h).resolve_left (by decide)), fun h => E2.out ((listed_set h).resolve_left (by decide)), fun h => E3.out ((listed_set h).resolve_left (by decide)), fun h => E4.out ((listed_set h).resolve_left (by decide)), fun h => E5.out ((listed_set h).resolve_left (by decide)), fun h => E6.out ((listed_set h).resolve_left (by decide))⟩
            | 1, hio =>
              simp only [List.getElem?_toArray, List.getElem?_cons_succ, List.getElem?_cons_zero, Option.some.injEq] at hio
              subst hio
              have p0 := PRE.out ⟨0, .data⟩ (by simp) rfl
              obtain rfl := E0.out p0
              refine wpOp_by rfl fun K HK => ?_
              go_wp2_with (fail)
              exact HK.out _ _ ⟨by rw [Array.size_setIfInBounds, HS.out], HB.out, _, _, _, _, _, _, _, rfl, fun _ => rfl, fun _ => rfl, fun h => E2.out ((listed_set h).resolve_left (by decide)), fun h => E3.out ((listed_set h).resolve_left (by decide)), fun h => E4.out ((listed_set h).resolve_left (by decide)), fun h => E5.out ((listed_set h).resolve_left (by decide)), fun h => E6.out ((listed_set h).resolve_left (by decide))⟩
            | 2, hio =>
              simp only [List.getElem?_toArray, List.getElem?_cons_succ, List.getElem?_cons_zero, Option.some.injEq] at hio
              subst hio
              have p1 := PRE.out ⟨1, .data⟩ (by simp) rfl
              obtain rfl := E1.out p1
              have hcc := (HB.out.cell (p := ⟨g, 1, none⟩) (by have := G0.out; have := HBw.out.size; show g < _; omega)).trans CW.out
              refine wpOp_by rfl fun K HK => ?_
              go_wp2_with (fail)
              exact HK.out _ _ ⟨by rw [Array.size_setIfInBounds, HS.out], HB.out, _, _, _, _, _, _, _, rfl, fun h => E0.out ((listed_set h).resolve_left (by decide)), fun _ => rfl, fun _ => rfl, fun h => E3.out ((listed_set h).resolve_left (by decide)), fun h => E4.out ((listed_set h).resolve_left (by decide)), fun h => E5.out ((listed_set h).resolve_left (by decide)), fun h => E6.out ((listed_set h).resolve_left (by decide))⟩
            | 3, hio =>
              clear hio
              refine wpOp_by rfl fun K HK => ?_
              go_wp2_with (fail)
              exact HK.out _ _ ⟨by rw [Array.size_setIfInBounds, HS.out], HB.out, _, _, _, _, _, _, _, rfl, fun h => E0.out ((listed_set h).resolve_left (by decide)), fun h => E1.out ((listed_set h).resolve_left (by decide)), fun h => E2.out ((listed_set h).resolve_left (by decide)), fun _ => rfl, fun h => E4.out ((listed_set h).resolve_left (by decide)), fun h => E5.out ((listed_set h).resolve_left (by decide)), fun h => E6.out ((listed_set h).resolve_left (by decide))⟩
            | 4, hio =>
              simp only [List.getElem?_toArray, List.getElem?_cons_succ, List.getElem?_cons_zero, Option.some.injEq] at hio
              subst hio
              have p3 := PRE.out ⟨3, .data⟩ (by simp) rfl
              obtain rfl := E3.out p3
              refine wpOp_by rfl fun K HK => ?_
              go_wp2_with (fail)
              exact HK.out _ _ ⟨by rw [Array.size_setIfInBounds, HS.out], HB.out, _, _, _, _, _, _, _, rfl, fun h => E0.out ((listed_set h).resolve_left (by decide)), fun h => E1.out ((listed_set h).resolve_left (by decide)), fun h => E2.out ((listed_set h).resolve_left (by decide)), fun _ => rfl, fun _ => rfl, fun h => E5.out ((listed_set h).resolve_left (by decide)), fun h => E6.out ((listed_set h).resolve_left (by decide))⟩
            | 5, hio =>
              simp only [List.getElem?_toArray, List.getElem?_cons_succ, List.getElem?_cons_zero, Option.some.injEq] at hio
              subst hio
              have p4 := PRE.out ⟨4, .data⟩ (by simp) rfl
              obtain rfl := E4.out p4
              refine wpOp_by rfl fun K HK => ?_
              go_wp2_with fail
              refine (DEk.out _).mono ?_
              rintro e W' ⟨rfl, hb⟩
              go_wp2
              exact HK.out _ _ ⟨by rw [Array.size_setIfInBounds, HS.out], HB.out.trans (hb.mono HB.out.size), _, _, _, _, _, _, _, rfl, fun h => E0.out ((listed_set h).resolve_left (by decide)), fun h => E1.out ((listed_set h).resolve_left (by decide)), fun h => E2.out ((listed_set h).resolve_left (by decide)), fun h => E3.out ((listed_set h).resolve_left (by decide)), fun _ => rfl, fun _ => rfl, fun h => E6.out ((listed_set h).resolve_left (by decide))⟩
            | 6, hio =>
              simp only [List.getElem?_toArray, List.getElem?_cons_succ, List.getElem?_cons_zero, Option.some.injEq] at hio
              subst hio
              have p2 := PRE.out ⟨2, .data⟩ (by simp) rfl
              have p5 := PRE.out ⟨5, .data⟩ (by simp) rfl
              obtain rfl := E2.out p2
              obtain rfl := E5.out p5
              refine wpOp_by rfl fun K HK => ?_
              go_wp2_with (fail)
              exact HK.out _ _ ⟨by rw [Array.size_setIfInBounds, HS.out], HB.out, _, _, _, _, _, _, _, rfl, fun h => E0.out ((listed_set h).resolve_left (by decide)), fun h => E1.out ((listed_set h).resolve_left (by decide)), fun _ => rfl, fun h => E3.out ((listed_set h).resolve_left (by decide)), fun h => E4.out ((listed_set h).resolve_left (by decide)), fun _ => rfl, fun _ => rfl⟩
            | k + 7, hio => simp at hio
          case hend1 =>
            rintro listed act W1 ⟨hs, hB, x0, x1, x2, x3, x4, x5, x6, rfl, e0, e1, e2, e3, e4, e5, e6⟩ hall
            obtain rfl := e0 (hall 0 (by decide))
            obtain rfl := e1 (hall 1 (by decide))
            obtain rfl := e2 (hall 2 (by decide))
            obtain rfl := e3 (hall 3 (by decide))
            obtain rfl := e4 (hall 4 (by decide))
            obtain rfl := e5 (hall 5 (by decide))
            obtain rfl := e6 (hall 6 (by decide))
            clear hs hall
            have HB1 := Lib.hid (HBw.out.trans (hB.mono HBw.out.size))
            clear hB
            by_cases heq : b.data.toList = decT k
            · have HN : Hid (ByInv b.data.toList (k + 1) (2 ^ k)) := Lib.hid (ByInv.hit (d := d) HK1.out heq)
              rw [decide_eq_true heq]
              clear heq
              go_wp2
              go_roundw
              case rel => exact ⟨k + 1, 2 ^ k, by omega, by have := HK.out; omega, by go_num, by first | rfl | go_num, HB1.out, HN⟩
              case measure => have := HK.out; simp [intOf]; omega
            · have HN : Hid (ByInv b.data.toList (k + 1) d) := Lib.hid (ByInv.miss HI.out heq)
              rw [decide_eq_false heq]
              clear heq
              go_wp2
              go_roundw
              case rel => exact ⟨k + 1, d, by omega, by have := HK.out; omega, by go_num, by first | rfl | go_num, HB1.out, HN⟩
              case measure => have := HK.out; simp [intOf]; omega
        · obtain rfl : k = 11 := by omega
          have B2 := Lib.hid (B1.out.trans (HB.out.mono B1.out.size))
          have hV := S6.out h6
          subst hV
          clear SLT S6
          have er : RES = none := by rw [NR.out]; unfold partsV; simp only [List.map_cons, List.map_nil, VV.out]; rfl
          subst er
          go_wp2
          go_ret2
          exact ⟨rfl, B2.out⟩
    · have hV := S6.out h6
      subst hV
      clear SLT S6
      have er : RES = none := by rw [NR.out]; rfl
      subst er
      have hl3 : (2 : Int) < ((q.length + 1 + 1 + 1 : Nat) : Int) := by omega
      have hl2 : (((q.length + 1 + 1 + 1 : Nat) : Int) == 2) = false := beq_eq_false_iff_ne.2 (by omega)
      simp only [List.length_cons] at hql ⊢
      generalize q.length + 1 + 1 + 1 = ln at hl3 hl2 ⊢
      go_wp2
      go_ret2
      exact ⟨rfl, B1.out⟩
set_option maxHeartbeats 8000000 in
set_option maxRecDepth 8000 in
theorem l08_H2 (t : ByteArray) (hm : t.size ≤ 1048576) (w : World) (hz : t.size = 0) :
    Calls Tryd.prog 17 #[.string t] w fun e w' => e = .returned (specR (numV (splitL 47) t.data.toList)) ∧ Below w.heap.size w w' := by
  have hs : t.data.toList.length = t.size := by rw [Array.length_toList]; rfl
  have hnil : t.data.toList = [] := List.eq_nil_of_length_eq_zero (by omega)
  have hng : isNeg t.data.toList = false := by rw [hnil]; rfl
  have t1 : ¬ ((0 : Int) < (t.size : Int)) := by omega
  have tz : (t.size : Int) = 0 := by omega
  have hU : t.data.toList = rest t.data.toList := by unfold rest; rw [hng]; rfl
  have hUs : t.size ≤ 1048576 := hm
  obtain ⟨U, hUU⟩ : ∃ U, U = t := ⟨_, rfl⟩
  have SPL := Lib.hid (fun w => split47 t hUs w)
  have SM := Lib.hid (fun a h w => l01Small_any a h w)
  have DE := Lib.hid decimal_any
  have HQ := Lib.hid quo_ok
  have NUM : Hid (∀ a q, splitL 47 t.data.toList = a :: q → numV (splitL 47) t.data.toList = (partsV (a :: q)).bind fun p => quoB ((p.1 : Int)) p.2) := Lib.hid fun a q e => by
    unfold numV
    rw [← hU, e, hng]
    rfl
  clear hU hUs hng hm hs
  generalize numV (splitL 47) t.data.toList = RES at NUM ⊢
  go_enter Tryd.func17, Tryd.ntmps17
  go_wp2_with fail
  refine (SPL.out _).mono ?_
  rintro e w1 ⟨a, q, g, cap, rfl, hspl, hc0, hc1, hql, hb1⟩
  have B1 := Lib.hid hb1
  have NR := Lib.hid (NUM.out _ _ hspl)
  have C1 := Lib.hid hc1
  have SLT : Hid (∀ v, smallV a.data.toList = some v → v < 1000000) := Lib.hid fun v h => smallV_lt h
  have S6 : Hid (6 < a.size → smallV a.data.toList = none) := Lib.hid fun h => by
    have e : a.data.toList.length = a.size := by rw [Array.length_toList]; rfl
    unfold smallV; rw [if_pos (Or.inr (by omega))]
  clear hb1 hspl hc1 SPL NUM
  have SMa : Hid (a.size ≤ 6 → ∀ w, Calls Tryd.prog 23 #[.string a] w fun e w' => e = .returned (.int .i64 (smallI (smallV a.data.toList))) ∧ w = w') := Lib.hid fun h w => SM.out a h w
  clear SM
  generalize hVV : smallV a.data.toList = V at SMa SLT S6
  have VV := Lib.hid hVV
  clear hVV
  by_cases h6 : a.size ≤ 6
  · have a6 : (a.size : Int) ≤ 6 := by omega
    rcases q with _ | ⟨b, _ | ⟨c, q⟩⟩
    · go_wp2_with fail
      refine (SMa.out h6 _).mono ?_
      rintro e w2 ⟨rfl, rfl⟩
      clear SMa S6
      cases V with
      | none =>
        simp only [smallI]
        have er : RES = none := by rw [NR.out]; unfold partsV; simp only [List.map_nil, VV.out]; rfl
        subst er
        go_wp2
        go_ret2
        exact ⟨rfl, B1.out⟩
      | some n =>
        obtain ⟨r, hr, _⟩ := HQ.out (n : Int) 0 (by have := SLT.out n rfl; omega) (by first | omega | exact hk10)
        have er : RES = some r := by rw [NR.out]; unfold partsV; simp only [List.map_nil, VV.out]; exact hr
        subst er
        have hop : ∀ w, (binOp .quo 26 (.float .f32 (floatOfInt .f32 (n : Int))) (.float .f32 (floatOfInt .f32 1))).run Tryd.prog w = .ok (.float .f32 r) w := fun w => run_float_arith w .quo 26 .f32 _ _ r hr
        have hlt := SLT.out n rfl
        have nn : ¬ ((n : Int) < 0) := by omega
        have n0 : (0 : Int) ≤ (n : Int) := by omega
        simp only [smallI]
        clear hr HQ
        go_wp2
        go_ret2
        exact ⟨rfl, B1.out⟩
    · have hc1 := C1.out b [] rfl
      go_wp2_with fail
      refine (SMa.out h6 _).mono ?_
      rintro e w2 ⟨rfl, rfl⟩
      have G0 := Lib.hid (World.block_lt_of_cell? _ _ hc1)
      have TQ : Hid (∀ k : Nat, (b.toList == (⟨(Lib.decDigits (2 ^ k)).toArray⟩ : ByteArray).toList) = decide (b.data.toList = decT k)) := Lib.hid fun k => text_beq _ _
      have CB := Lib.hid hc1
      clear hc1 C1
      go_wp2
      clear hc0
      have I0 : Hid (ByInv b.data.toList 1 0) := Lib.hid (ByInv.start _)
      go_loopw [7, 8] (fun vby vk wr => ∃ k d : Nat, 1 ≤ k ∧ k ≤ 11 ∧ vk = .int .u64 (k : Int) ∧ vby = .int .i64 (d : Int) ∧ Below w1.heap.size w1 wr ∧ Hid (ByInv b.data.toList k d)) (fun _ vk _ => 11 - (intOf vk).toNat)
      case atStart => exact ⟨1, 0, by omega, by omega, rfl, rfl, Below.refl _ _, I0⟩
      case round =>
        obtain ⟨k, d, hk1, hk2, rfl, rfl, hb, HI⟩ := hrel
        have HB := Lib.hid hb
        clear hb
        by_cases hlt : k ≤ 10
        · have HK := Lib.hid hlt
          have HK1 := Lib.hid hk1
          have hp : (2 : Nat) ^ k ≤ 2 ^ 10 := Nat.pow_le_pow_right (by decide) hlt
          have ep : (2 : Nat) ^ 10 = 1024 := by decide
          have DEk : Hid (∀ w, Calls Tryd.prog 8 #[.int .i64 ((2 ^ k : Nat) : Int)] w fun e w' => e = .returned (.string ⟨(Lib.decDigits (2 ^ k)).toArray⟩) ∧ Below w.heap.size w w') := Lib.hid fun w => DE.out (2 ^ k) (by omega) w
          have tq := TQ.out k
          have tk : (k : Int) ≤ 10 := by omega
          have tk0 : (0 : Int) ≤ (k : Int) := by omega
          have hsh : IntKind.i64.wrap (1 * 2 ^ k) = ((2 ^ k : Nat) : Int) := shl_ok k hlt
          have hsh2 := shl_ok2 k hlt
          generalize (⟨(Lib.decDigits (2 ^ k)).toArray⟩ : ByteArray) = T at DEk tq
          go_wp2
          go_wp2_with fail
          have HBw := HB
          have CW : Hid (wr.cell? ⟨g, 1, none⟩ = some (.string b)) := Lib.hid ((HB.out.cell (p := ⟨g, 1, none⟩) G0.out).trans CB.out)
          refine wp_region_inv (by kernel_rfl) (fun listed act W => listed.size = 7 ∧ Below wr.heap.size wr W ∧ ∃ x0 x1 x2 x3 x4 x5 x6, act = { tmps := #[.string t, undef, .float .f32 0, .bool false, .bool false, .slice (some ⟨g, 0, none⟩) 2 cap, .int .i64 (smallI V), .int .i64 (d : Int), .int .u64 (k : Int), .string t, .int .i64 0, .bool false, .bool false, undef, undef, undef, .bool false, .bool false, undef, undef, .string t, .slice (some ⟨g, 0, none⟩) 2 cap, .slice (some ⟨g, 0, none⟩) 2 cap, .pointer (some ⟨g, 0, none⟩), .string a, .int .i64 (a.size : Int), .bool true, .slice (some ⟨g, 0, none⟩) 2 cap, .pointer (some ⟨g, 0, none⟩), .string a, .int .i64 (smallI V), .slice (some ⟨g, 0, none⟩) 2 cap, .int .i64 2, .bool true, .int .u64 (k : Int), .bool true, u36, u37, x0, x1, x2, x3, x4, x5, x6, u45, u46, undef, undef, undef, undef, undef, undef, undef, undef, undef, undef, undef, undef, undef, undef, undef, undef, undef, undef, undef], defers := [] } ∧ (listed.getD 0 false = true → x0 = .slice (some ⟨g, 0, none⟩) 2 cap) ∧ (listed.getD 1 false = true → x1 = .pointer (some ⟨g, 1, none⟩)) ∧ (listed.getD 2 false = true → x2 = .string b) ∧ (listed.getD 3 false = true → x3 = .int .u64 (k : Int)) ∧ (listed.getD 4 false = true → x4 = .int .i64 ((2 ^ k : Nat) : Int)) ∧ (listed.getD 5 false = true → x5 = .string T) ∧ (listed.getD 6 false = true → x6 = .bool (decide (b.data.toList = decT k)))) (by kernel_rfl) ?h01 (fun _ _ _ h => h.1) ?hstep1 ?hend1
          case h01 =>
            refine ⟨rfl, (Below.refl _ _).drew, _, _, _, _, _, _, _, rfl, ?_, ?_, ?_, ?_, ?_, ?_, ?_⟩ <;> (intro h; exact absurd h (by decide))
          case hstep1 =>
            rintro listed act W i o ⟨hs, hB, x0, x1, x2, x3, x4, x5, x6, rfl, e0, e1, e2, e3, e4, e5, e6⟩ hun hio hpre
            have HB := Lib.hid hB
            have E0 := Lib.hid e0
            have E1 := Lib.hid e1
            have E2 := Lib.hid e2
            have E3 := Lib.hid e3
            have E4 := Lib.hid e4
            have E5 := Lib.hid e5
            have E6 := Lib.hid e6
            have HS := Lib.hid hs
            have HU := Lib.hid hun
            have PRE := Lib.hid hpre
            clear e0 e1 e2 e3 e4 e5 e6 hs hpre hB hun
            match i, hio with
            | 0, hio =>
              clear hio
              refine wpOp_by rfl fun K HK => ?_
              go_wp2_with (fail)
              exact HK.out _ _ ⟨by rw [Array.size_setIfInBounds, HS.out], HB.out, _, _, _, _, _, _, _, rfl, fun _ => rfl, fun h => E1.out ((listed_set h).resolve_left (by decide)), fun h => E2.out ((listed_set h).resolve_left (by decide)), fun h => E3.out ((listed_set h).resolve_left (by decide)), fun h => E4.out ((listed_set h).resolve_left (by decide)), fun h => E5.out ((listed_set h).resolve_left (by decide)), fun h => E6.out ((listed_set h).resolve_left (by decide))⟩
            | 1, hio =>
              simp only [List.getElem?_toArray, List.getElem?_cons_succ, List.getElem?_cons_zero, Option.some.injEq] at hio
              subst hio
              have p0 := PRE.out ⟨0, .data⟩ (by simp) rfl
              obtain rfl := E0.out p0
              refine wpOp_by rfl fun K HK => ?_
              go_wp2_with (fail)
              exact HK.out _ _ ⟨by rw [Array.size_setIfInBounds, HS.out], HB.out, _, _, _, _, _, _, _, rfl, fun _ => rfl, fun _ => rfl, fun h => E2.out ((listed_set h).resolve_left (by decide)), fun h => E3.out ((listed_set h).resolve_left (by decide)), fun h => E4.out ((listed_set h).resolve_left (by decide)), fun h => E5.out ((listed_set h).resolve_left (by decide)), fun h => E6.out ((listed_set h).resolve_left (by decide))⟩
            | 2, hio =>
              simp only [List.getElem?_toArray, List.getElem?_cons_succ, List.getElem?_cons_zero, Option.some.injEq] at hio
              subst hio
              have p1 := PRE.out ⟨1, .data⟩ (by simp) rfl
              obtain rfl := E1.out p1
              have hcc := (HB.out.cell (p := ⟨g, 1, none⟩) (by have := G0.out; have := HBw.out.size; show g < _; omega)).trans CW.out
              refine wpOp_by rfl fun K HK => ?_
              go_wp2_with (fail)
              exact HK.out _ _ ⟨by rw [Array.size_setIfInBounds, HS.out], HB.out, _, _, _, _, _, _, _, rfl, fun h => E0.out ((listed_set h).resolve_left (by decide)), fun _ => rfl, fun _ => rfl, fun h => E3.out ((listed_set h).resolve_left (by decide)), fun h => E4.out ((listed_set h).resolve_left (by decide)), fun h => E5.out ((listed_set h).resolve_left (by decide)), fun h => E6.out ((listed_set h).resolve_left (by decide))⟩
            | 3, hio =>
              clear hio
              refine wpOp_by rfl fun K HK => ?_
              go_wp2_with (fail)
              exact HK.out _ _ ⟨by rw [Array.size_setIfInBounds, HS.out], HB.out, _, _, _, _, _, _, _, rfl, fun h => E0.out ((listed_set h).resolve_left (by decide)), fun h => E1.out ((listed_set h).resolve_left (by decide)), fun h => E2.out ((listed_set h).resolve_left (by decide)), fun _ => rfl, fun h => E4.out ((listed_set h).resolve_left (by decide)), fun h => E5.out ((listed_set h).resolve_left (by decide)), fun h => E6.out ((listed_set h).resolve_left (by decide))⟩
            | 4, hio =>
              simp only [List.getElem?_toArray, List.getElem?_cons_succ, List.getElem?_cons_zero, Option.some.injEq] at hio
              subst hio
              have p3 := PRE.out ⟨3, .data⟩ (by simp) rfl
              obtain rfl := E3.out p3
              refine wpOp_by rfl fun K HK => ?_
              go_wp2_with (fail)
              exact HK.out _ _ ⟨by rw [Array.size_setIfInBounds, HS.out], HB.out, _, _, _, _, _, _, _, rfl, fun h => E0.out ((listed_set h).resolve_left (by decide)), fun h => E1.out ((listed_set h).resolve_left (by decide)), fun h => E2.out ((listed_set h).resolve_left (by decide)), fun _ => rfl, fun _ => rfl, fun h => E5.out ((listed_set h).resolve_left (by decide)), fun h => E6.out ((listed_set h).resolve_left (by decide))⟩
            | 5, hio =>
              simp only [List.getElem?_toArray, List.getElem?_cons_succ, List.getElem?_cons_zero, Option.some.injEq] at hio
              subst hio
              have p4 := PRE.out ⟨4, .data⟩ (by simp) rfl
              obtain rfl := E4.out p4
              refine wpOp_by rfl fun K HK => ?_
              go_wp2_with fail
              refine (DEk.out _).mono ?_
              rintro e W' ⟨rfl, hb⟩
              go_wp2
              exact HK.out _ _ ⟨by rw [Array.size_setIfInBounds, HS.out], HB.out.trans (hb.mono HB.out.size), _, _, _, _, _, _, _, rfl, fun h => E0.out ((listed_set h).resolve_left (by decide)), fun h => E1.out ((listed_set h).resolve_left (by decide)), fun h => E2.out ((listed_set h).resolve_left (by decide)), fun h => E3.out ((listed_set h).resolve_left (by decide)), fun _ => rfl, fun _ => rfl, fun h => E6.out ((listed_set h).resolve_left (by decide))⟩
            | 6, hio =>
              simp only [List.getElem?_toArray, List.getElem?_cons_succ, List.getElem?_cons_zero, Option.some.injEq] at hio
              subst hio
              have p2 := PRE.out ⟨2, .data⟩ (by simp) rfl
              have p5 := PRE.out ⟨5, .data⟩ (by simp) rfl
              obtain rfl := E2.out p2
              obtain rfl := E5.out p5
              refine wpOp_by rfl fun K HK => ?_
              go_wp2_with (fail)
              exact HK.out _ _ ⟨by rw [Array.size_setIfInBounds, HS.out], HB.out, _, _, _, _, _, _, _, rfl, fun h => E0.out ((listed_set h).resolve_left (by decide)), fun h => E1.out ((listed_set h).resolve_left (by decide)), fun _ => rfl, fun h => E3.out ((listed_set h).resolve_left (by decide)), fun h => E4.out ((listed_set h).resolve_left (by decide)), fun _ => rfl, fun _ => rfl⟩
            | k + 7, hio => simp at hio
          case hend1 =>
            rintro listed act W1 ⟨hs, hB, x0, x1, x2, x3, x4, x5, x6, rfl, e0, e1, e2, e3, e4, e5, e6⟩ hall
            obtain rfl := e0 (hall 0 (by decide))
            obtain rfl := e1 (hall 1 (by decide))
            obtain rfl := e2 (hall 2 (by decide))
            obtain rfl := e3 (hall 3 (by decide))
            obtain rfl := e4 (hall 4 (by decide))
            obtain rfl := e5 (hall 5 (by decide))
            obtain rfl := e6 (hall 6 (by decide))
            clear hs hall
            have HB1 := Lib.hid (HBw.out.trans (hB.mono HBw.out.size))
            clear hB
            by_cases heq : b.data.toList = decT k
            · have HN : Hid (ByInv b.data.toList (k + 1) (2 ^ k)) := Lib.hid (ByInv.hit (d := d) HK1.out heq)
              rw [decide_eq_true heq]
              clear heq
              go_wp2
              go_roundw
              case rel => exact ⟨k + 1, 2 ^ k, by omega, by have := HK.out; omega, by go_num, by first | rfl | go_num, HB1.out, HN⟩
              case measure => have := HK.out; simp [intOf]; omega
            · have HN : Hid (ByInv b.data.toList (k + 1) d) := Lib.hid (ByInv.miss HI.out heq)
              rw [decide_eq_false heq]
              clear heq
              go_wp2
              go_roundw
              case rel => exact ⟨k + 1, d, by omega, by have := HK.out; omega, by go_num, by first | rfl | go_num, HB1.out, HN⟩
              case measure => have := HK.out; simp [intOf]; omega
        · obtain rfl : k = 11 := by omega
          have B2 := Lib.hid (B1.out.trans (HB.out.mono B1.out.size))
          rcases HI.out.fin with ⟨hbv, hd⟩ | ⟨kk, hbv, hd, hk1, hk10⟩
          · subst hd
            have BV := Lib.hid hbv
            clear hbv
            cases V with
            | none =>
              simp only [smallI]
              have er : RES = none := by rw [NR.out]; unfold partsV; simp only [List.map_cons, List.map_nil, VV.out]; rfl
              subst er
              go_wp2
              go_ret2
              exact ⟨rfl, B2.out⟩
            | some n =>
              have hlt2 := SLT.out n rfl
              have nn : ¬ ((n : Int) < 0) := by omega
              have n0 : (0 : Int) ≤ (n : Int) := by omega
              simp only [smallI]
              have er : RES = none := by rw [NR.out]; unfold partsV; simp only [List.map_cons, List.map_nil, VV.out, BV.out, Option.map_none, Option.bind_some]; rfl
              subst er
              go_wp2
              go_ret2
              exact ⟨rfl, B2.out⟩
          · have BV := Lib.hid hbv
            have HPP := Lib.hid hd
            have hd2 : 2 ≤ d := by
              have : (2 : Nat) ^ 1 ≤ 2 ^ kk := Nat.pow_le_pow_right (by decide) hk1
              omega
            have hdz : ((d : Int) == 0) = false := beq_eq_false_iff_ne.2 (by omega)
            clear hbv hd
            cases V with
            | none =>
              simp only [smallI]
              have er : RES = none := by rw [NR.out]; unfold partsV; simp only [List.map_cons, List.map_nil, VV.out]; rfl
              subst er
              go_wp2
              go_ret2
              exact ⟨rfl, B2.out⟩
            | some n =>
              obtain ⟨r, hr, _⟩ := HQ.out (n : Int) kk (by have := SLT.out n rfl; omega) (by first | omega | exact hk10)
              have er : RES = some r := by rw [NR.out]; unfold partsV; simp only [List.map_cons, List.map_nil, VV.out, BV.out, Option.map_some, Option.bind_some]; exact hr
              subst er
              have hop : ∀ w, (binOp .quo 26 (.float .f32 (floatOfInt .f32 (n : Int))) (.float .f32 (floatOfInt .f32 (d : Int)))).run Tryd.prog w = .ok (.float .f32 r) w := fun w => run_float_arith w .quo 26 .f32 _ _ r (by rw [HPP.out]; exact hr)
              have hlt := SLT.out n rfl
              have nn : ¬ ((n : Int) < 0) := by omega
              have n0 : (0 : Int) ≤ (n : Int) := by omega
              simp only [smallI]
              clear hr HQ
              go_wp2
              go_ret2
              exact ⟨rfl, B2.out⟩
    · have er : RES = none := by rw [NR.out]; rfl
      subst er
      have hl3 : (2 : Int) < ((q.length + 1 + 1 + 1 : Nat) : Int) := by omega
      have hl2 : (((q.length + 1 + 1 + 1 : Nat) : Int) == 2) = false := beq_eq_false_iff_ne.2 (by omega)
      simp only [List.length_cons] at hql ⊢
      generalize q.length + 1 + 1 + 1 = ln at hl3 hl2 ⊢
      go_wp2_with fail
      refine (SMa.out h6 _).mono ?_
      rintro e w2 ⟨rfl, rfl⟩
      clear SMa S6
      cases V with
      | none =>
        simp only [smallI]
        go_wp2
        go_ret2
        exact ⟨rfl, B1.out⟩
      | some n =>
        have nn : ¬ ((n : Int) < 0) := by omega
        have n0 : (0 : Int) ≤ (n : Int) := by omega
        simp only [smallI]
        go_wp2
        go_ret2
        exact ⟨rfl, B1.out⟩
  · have a6 : ¬ ((a.size : Int) ≤ 6) := by omega
    have a7 : (6 : Int) < (a.size : Int) := by omega
    have h6 : 6 < a.size := by omega
    rcases q with _ | ⟨b, _ | ⟨c, q⟩⟩
    · have hV := S6.out h6
      subst hV
      clear SLT S6
      have er : RES = none := by rw [NR.out]; unfold partsV; simp only [List.map_nil, VV.out]; rfl
      subst er
      go_wp2
      go_ret2
      exact ⟨rfl, B1.out⟩
    · have hc1 := C1.out b [] rfl
      have G0 := Lib.hid (World.block_lt_of_cell? _ _ hc1)
      have TQ : Hid (∀ k : Nat, (b.toList == (⟨(Lib.decDigits (2 ^ k)).toArray⟩ : ByteArray).toList) = decide (b.data.toList = decT k)) := Lib.hid fun k => text_beq _ _
      have CB := Lib.hid hc1
      clear hc1 C1
      go_wp2
      clear hc0
      have I0 : Hid (ByInv b.data.toList 1 0) := Lib.hid (ByInv.start _)
      go_loopw [7, 8] (fun vby vk wr => ∃ k d : Nat, 1 ≤ k ∧ k ≤ 11 ∧ vk = .int .u64 (k : Int) ∧ vby = .int .i64 (d : Int) ∧ Below w1.heap.size w1 wr ∧ Hid (ByInv b.data.toList k d)) (fun _ vk _ => 11 - (intOf vk).toNat)
      case atStart => exact ⟨1, 0, by omega, by omega, rfl, rfl, Below.refl _ _, I0⟩
      case round =>
        obtain ⟨k, d, hk1, hk2, rfl, rfl, hb, HI⟩ := hrel
        have HB := Lib.hid hb
        clear hb
        by_cases hlt : k ≤ 10
        · have HK := Lib.hid hlt
          have HK1 := Lib.hid hk1
          have hp : (2 : Nat) ^ k ≤ 2 ^ 10 := Nat.pow_le_pow_right (by decide) hlt
          have ep : (2 : Nat) ^ 10 = 1024 := by decide
          have DEk : Hid (∀ w, Calls Tryd.prog 8 #[.int .i64 ((2 ^ k : Nat) : Int)] w fun e w' => e = .returned (.string ⟨(Lib.decDigits (2 ^ k)).toArray⟩) ∧ Below w.heap.size w w') := Lib.hid fun w => DE.out (2 ^ k) (by omega) w
          have tq := TQ.out k
          have tk : (k : Int) ≤ 10 := by omega
          have tk0 : (0 : Int) ≤ (k : Int) := by omega
          have hsh : IntKind.i64.wrap (1 * 2 ^ k) = ((2 ^ k : Nat) : Int) := shl_ok k hlt
          have hsh2 := shl_ok2 k hlt
          generalize (⟨(Lib.decDigits (2 ^ k)).toArray⟩ : ByteArray) = T at DEk tq
          go_wp2
          go_wp2_with fail
          have HBw := HB
          have CW : Hid (wr.cell? ⟨g, 1, none⟩ = some (.string b)) := Lib.hid ((HB.out.cell (p := ⟨g, 1, none⟩) G0.out).trans CB.out)
          refine wp_region_inv (by kernel_rfl) (fun listed act W => listed.size = 7 ∧ Below wr.heap.size wr W ∧ ∃ x0 x1 x2 x3 x4 x5 x6, act = { tmps := #[.string t, undef, .float .f32 0, .bool false, .bool false, .slice (some ⟨g, 0, none⟩) 2 cap, .int .i64 (-1), .int .i64 (d : Int), .int .u64 (k : Int), .string t, .int .i64 0, .bool false, .bool false, undef, undef, undef, .bool false, .bool false, undef, undef, .string t, .slice (some ⟨g, 0, none⟩) 2 cap, .slice (some ⟨g, 0, none⟩) 2 cap, .pointer (some ⟨g, 0, none⟩), .string a, .int .i64 (a.size : Int), .bool (decide ((a.size : Int) ≤ 6)), undef, undef, undef, undef, .slice (some ⟨g, 0, none⟩) 2 cap, .int .i64 2, .bool true, .int .u64 (k : Int), .bool true, u36, u37, x0, x1, x2, x3, x4, x5, x6, u45, u46, undef, undef, undef, undef, undef, undef, undef, undef, undef, undef, undef, undef, undef, undef, undef, undef, undef, undef, undef], defers := [] } ∧ (listed.getD 0 false = true → x0 = .slice (some ⟨g, 0, none⟩) 2 cap) ∧ (listed.getD 1 false = true → x1 = .pointer (some ⟨g, 1, none⟩)) ∧ (listed.getD 2 false = true → x2 = .string b) ∧ (listed.getD 3 false = true → x3 = .int .u64 (k : Int)) ∧ (listed.getD 4 false = true → x4 = .int .i64 ((2 ^ k : Nat) : Int)) ∧ (listed.getD 5 false = true → x5 = .string T) ∧ (listed.getD 6 false = true → x6 = .bool (decide (b.data.toList = decT k)))) (by kernel_rfl) ?h01 (fun _ _ _ h => h.1) ?hstep1 ?hend1
          case h01 =>
            refine ⟨rfl, (Below.refl _ _).drew, _, _, _, _, _, _, _, rfl, ?_, ?_, ?_, ?_, ?_, ?_, ?_⟩ <;> (intro h; exact absurd h (by decide))
          case hstep1 =>
            rintro listed act W i o ⟨hs, hB, x0, x1, x2, x3, x4, x5, x6, rfl, e0, e1, e2, e3, e4, e5, e6⟩ hun hio hpre
            have HB := Lib.hid hB
            have E0 := Lib.hid e0
            have E1 := Lib.hid e1
            have E2 := Lib.hid e2
            have E3 := Lib.hid e3
            have E4 := Lib.hid e4
            have E5 := Lib.hid e5
            have E6 := Lib.hid e6
            have HS := Lib.hid hs
            have HU := Lib.hid hun
            have PRE := Lib.hid hpre
            clear e0 e1 e2 e3 e4 e5 e6 hs hpre hB hun
            match i, hio with
            | 0, hio =>
              clear hio
              refine wpOp_by rfl fun K HK => ?_
              go_wp2_with (fail)
              exact HK.out _ _ ⟨by rw [Array.size_setIfInBounds, HS.out], HB.out, _, _, _, _, _, _, _, rfl, fun _ => rfl, fun h => E1.out ((listed_set h).resolve_left (by decide)), fun h => E2.out ((listed_set h).resolve_left (by decide)), fun h => E3.out ((listed_set h).resolve_left (by decide)), fun h => E4.out ((listed_set h).resolve_left (by decide)), fun h => E5.out ((listed_set h).resolve_left (by decide)), fun h => E6.out ((listed_set h).resolve_left (by decide))⟩
            | 1, hio =>
              simp only [List.getElem?_toArray, List.getElem?_cons_succ, List.getElem?_cons_zero, Option.some.injEq] at hio
              subst hio
              have p0 := PRE.out ⟨0, .data⟩ (by simp) rfl
              obtain rfl := E0.out p0
              refine wpOp_by rfl fun K HK => ?_
              go_wp2_with (fail)
              exact HK.out _ _ ⟨by rw [Array.size_setIfInBounds, HS.out], HB.out, _, _, _, _, _, _, _, rfl, fun _ => rfl, fun _ => rfl, fun h => E2.out ((listed_set h).resolve_left (by decide)), fun h => E3.out ((listed_set h).resolve_left (by decide)), fun h => E4.out ((listed_set h).resolve_left (by decide)), fun h => E5.out ((listed_set h).resolve_left (by decide)), fun h => E6.out ((listed_set h).resolve_left (by decide))⟩
            | 2, hio =>
              simp only [List.getElem?_toArray, List.getElem?_cons_succ, List.getElem?_cons_zero, Option.some.injEq] at hio
              subst hio
              have p1 := PRE.out ⟨1, .data⟩ (by simp) rfl
              obtain rfl := E1.out p1
              have hcc := (HB.out.cell (p := ⟨g, 1, none⟩) (by have := G0.out; have := HBw.out.size; show g < _; omega)).trans CW.out
              refine wpOp_by rfl fun K HK => ?_
              go_wp2_with (fail)
              exact HK.out _ _ ⟨by rw [Array.size_setIfInBounds, HS.out], HB.out, _, _, _, _, _, _, _, rfl, fun h => E0.out ((listed_set h).resolve_left (by decide)), fun _ => rfl, fun _ => rfl, fun h => E3.out ((listed_set h).resolve_left (by decide)), fun h => E4.out ((listed_set h).resolve_left (by decide)), fun h => E5.out ((listed_set h).resolve_left (by decide)), fun h => E6.out ((listed_set h).resolve_left (by decide))⟩
            | 3, hio =>
              clear hio
              refine wpOp_by rfl fun K HK => ?_
              go_wp2_with (fail)
              exact HK.out _ _ ⟨by rw [Array.size_setIfInBounds, HS.out], HB.out, _, _, _, _, _, _, _, rfl, fun h => E0.out ((listed_set h).resolve_left (by decide)), fun h => E1.out ((listed_set h).resolve_left (by decide)), fun h => E2.out ((listed_set h).resolve_left (by decide)), fun _ => rfl, fun h => E4.out ((listed_set h).resolve_left (by decide)), fun h => E5.out ((listed_set h).resolve_left (by decide)), fun h => E6.out ((listed_set h).resolve_left (by decide))⟩
            | 4, hio =>
              simp only [List.getElem?_toArray, List.getElem?_cons_succ, List.getElem?_cons_zero, Option.some.injEq] at hio
              subst hio
              have p3 := PRE.out ⟨3, .data⟩ (by simp) rfl
              obtain rfl := E3.out p3
              refine wpOp_by rfl fun K HK => ?_
              go_wp2_with (fail)
              exact HK.out _ _ ⟨by rw [Array.size_setIfInBounds, HS.out], HB.out, _, _, _, _, _, _, _, rfl, fun h => E0.out ((listed_set h).resolve_left (by decide)), fun h => E1.out ((listed_set h).resolve_left (by decide)), fun h => E2.out ((listed_set h).resolve_left (by decide)), fun _ => rfl, fun _ => rfl, fun h => E5.out ((listed_set h).resolve_left (by decide)), fun h => E6.out ((listed_set h).resolve_left (by decide))⟩
            | 5, hio =>
              simp only [List.getElem?_toArray, List.getElem?_cons_succ, List.getElem?_cons_zero, Option.some.injEq] at hio
              subst hio
              have p4 := PRE.out ⟨4, .data⟩ (by simp) rfl
              obtain rfl := E4.out p4
              refine wpOp_by rfl fun K HK => ?_
              go_wp2_with fail
              refine (DEk.out _).mono ?_
              rintro e W' ⟨rfl, hb⟩
              go_wp2
              exact HK.out _ _ ⟨by rw [Array.size_setIfInBounds, HS.out], HB.out.trans (hb.mono HB.out.size), _, _, _, _, _, _, _, rfl, fun h => E0.out ((listed_set h).resolve_left (by decide)), fun h => E1.out ((listed_set h).resolve_left (by decide)), fun h => E2.out ((listed_set h).resolve_left (by decide)), fun h => E3.out ((listed_set h).resolve_left (by decide)), fun _ => rfl, fun _ => rfl, fun h => E6.out ((listed_set h).resolve_left (by decide))⟩
            | 6, hio =>
              simp only [List.getElem?_toArray, List.getElem?_cons_succ, List.getElem?_cons_zero, Option.some.injEq] at hio
              subst hio
              have p2 := PRE.out ⟨2, .data⟩ (by simp) rfl
              have p5 := PRE.out ⟨5, .data⟩ (by simp) rfl
              obtain rfl := E2.out p2
              obtain rfl := E5.out p5
              refine wpOp_by rfl fun K HK => ?_
              go_wp2_with (fail)
              exact HK.out _ _ ⟨by rw [Array.size_setIfInBounds, HS.out], HB.out, _, _, _, _, _, _, _, rfl, fun h => E0.out ((listed_set h).resolve_left (by decide)), fun h => E1.out ((listed_set h).resolve_left (by decide)), fun _ => rfl, fun h => E3.out ((listed_set h).resolve_left (by decide)), fun h => E4.out ((listed_set h).resolve_left (by decide)), fun _ => rfl, fun _ => rfl⟩
            | k + 7, hio => simp at hio
          case hend1 =>
            rintro listed act W1 ⟨hs, hB, x0, x1, x2, x3, x4, x5, x6, rfl, e0, e1, e2, e3, e4, e5, e6⟩ hall
            obtain rfl := e0 (hall 0 (by decide))
            obtain rfl := e1 (hall 1 (by decide))
            obtain rfl := e2 (hall 2 (by decide))
            obtain rfl := e3 (hall 3 (by decide))
            obtain rfl := e4 (hall 4 (by decide))
            obtain rfl := e5 (hall 5 (by decide))
            obtain rfl := e6 (hall 6 (by decide))
            clear hs hall
            have HB1 := Lib.hid (HBw.out.trans (hB.mono HBw.out.size))
            clear hB
            by_cases heq : b.data.toList = decT k
            · have HN : Hid (ByInv b.data.toList (k + 1) (2 ^ k)) := Lib.hid (ByInv.hit (d := d) HK1.out heq)
              rw [decide_eq_true heq]
              clear heq
              go_wp2
              go_roundw
              case rel => exact ⟨k + 1, 2 ^ k, by omega, by have := HK.out; omega, by go_num, by first | rfl | go_num, HB1.out, HN⟩
              case measure => have := HK.out; simp [intOf]; omega
            · have HN : Hid (ByInv b.data.toList (k + 1) d) := Lib.hid (ByInv.miss HI.out heq)
              rw [decide_eq_false heq]
              clear heq
              go_wp2
              go_roundw
              case rel => exact ⟨k + 1, d, by omega, by have := HK.out; omega, by go_num, by first | rfl | go_num, HB1.out, HN⟩
              case measure => have := HK.out; simp [intOf]; omega
        · obtain rfl : k = 11 := by omega
          have B2 := Lib.hid (B1.out.trans (HB.out.mono B1.out.size))
          have hV := S6.out h6
          subst hV
          clear SLT S6
          have er : RES = none := by rw [NR.out]; unfold partsV; simp only [List.map_cons, List.map_nil, VV.out]; rfl
          subst er
          go_wp2
          go_ret2
          exact ⟨rfl, B2.out⟩
    · have hV := S6.out h6
      subst hV
      clear SLT S6
      have er : RES = none := by rw [NR.out]; rfl
      subst er
      have hl3 : (2 : Int) < ((q.length + 1 + 1 + 1 : Nat) : Int) := by omega
      have hl2 : (((q.length + 1 + 1 + 1 : Nat) : Int) == 2) = false := beq_eq_false_iff_ne.2 (by omega)
      simp only [List.length_cons] at hql ⊢
      generalize q.length + 1 + 1 + 1 = ln at hl3 hl2 ⊢
      go_wp2
      go_ret2
      exact ⟨rfl, B1.out⟩
set_option maxHeartbeats 8000000 in
set_option maxRecDepth 8000 in
theorem l08_H3 (t : ByteArray) (hm : t.size ≤ 1048576) (w : World) (hz : t.size ≠ 0) (hng : isNeg t.data.toList = false) :
    Calls Tryd.prog 17 #[.string t] w fun e w' => e = .returned (specR (numV (splitL 47) t.data.toList)) ∧ Below w.heap.size w w' := by
  have hs : t.data.toList.length = t.size := by rw [Array.length_toList]; rfl
  obtain ⟨x0, r0, hr0⟩ : ∃ x r, t.data.toList = x :: r := by
    cases h : t.data.toList with
    | nil => rw [h] at hs; simp at hs; omega
    | cons x r => exact ⟨x, r, rfl⟩
  have hp : 0 < t.size := by omega
  have t1 : (0 : Int) < (t.size : Int) := by omega
  have hx : ∀ w, (Instr.index 9 (.string t) (.int .i64 0)).run Tryd.prog w = .ok (.int .u8 ((x0.toNat : Nat) : Int)) w := fun w => by
    have := idx_str t 0 (by omega) w
    simp only [hr0, List.getElem_cons_zero] at this
    exact this
  have hne : (((x0.toNat : Nat) : Int) == 45) = false := by
    rw [hr0] at hng
    unfold isNeg at hng
    have : x0 ≠ 45 := by simpa using hng
    have h2 : x0.toNat ≠ 45 := fun h => this (UInt8.toNat_inj.1 (by simpa using h))
    exact beq_eq_false_iff_ne.2 (by omega)
  generalize x0.toNat = xn at hx hne
  have hU : t.data.toList = rest t.data.toList := by unfold rest; rw [hng]; rfl
  have hUs : t.size ≤ 1048576 := hm
  clear hr0
  have SPL := Lib.hid (fun w => split47 t hUs w)
  have SM := Lib.hid (fun a h w => l01Small_any a h w)
  have DE := Lib.hid decimal_any
  have HQ := Lib.hid quo_ok
  have NUM : Hid (∀ a q, splitL 47 t.data.toList = a :: q → numV (splitL 47) t.data.toList = (partsV (a :: q)).bind fun p => quoB ((p.1 : Int)) p.2) := Lib.hid fun a q e => by
    unfold numV
    rw [← hU, e, hng]
    rfl
  clear hU hUs hng hm hs
  generalize numV (splitL 47) t.data.toList = RES at NUM ⊢
  go_enter Tryd.func17, Tryd.ntmps17
  go_wp2_with fail
  refine (SPL.out _).mono ?_
  rintro e w1 ⟨a, q, g, cap, rfl, hspl, hc0, hc1, hql, hb1⟩
  have B1 := Lib.hid hb1
  have NR := Lib.hid (NUM.out _ _ hspl)
  have C1 := Lib.hid hc1
  have SLT : Hid (∀ v, smallV a.data.toList = some v → v < 1000000) := Lib.hid fun v h => smallV_lt h
  have S6 : Hid (6 < a.size → smallV a.data.toList = none) := Lib.hid fun h => by
    have e : a.data.toList.length = a.size := by rw [Array.length_toList]; rfl
    unfold smallV; rw [if_pos (Or.inr (by omega))]
  clear hb1 hspl hc1 SPL NUM
  have SMa : Hid (a.size ≤ 6 → ∀ w, Calls Tryd.prog 23 #[.string a] w fun e w' => e = .returned (.int .i64 (smallI (smallV a.data.toList))) ∧ w = w') := Lib.hid fun h w => SM.out a h w
  clear SM
  generalize hVV : smallV a.data.toList = V at SMa SLT S6
  have VV := Lib.hid hVV
  clear hVV
  by_cases h6 : a.size ≤ 6
  · have a6 : (a.size : Int) ≤ 6 := by omega
    rcases q with _ | ⟨b, _ | ⟨c, q⟩⟩
    · go_wp2_with fail
      refine (SMa.out h6 _).mono ?_
      rintro e w2 ⟨rfl, rfl⟩
      clear SMa S6
      cases V with
      | none =>
        simp only [smallI]
        have er : RES = none := by rw [NR.out]; unfold partsV; simp only [List.map_nil, VV.out]; rfl
        subst er
        go_wp2
        go_ret2
        exact ⟨rfl, B1.out⟩
      | some n =>
        obtain ⟨r, hr, _⟩ := HQ.out (n : Int) 0 (by have := SLT.out n rfl; omega) (by first | omega | exact hk10)
        have er : RES = some r := by rw [NR.out]; unfold partsV; simp only [List.map_nil, VV.out]; exact hr
        subst er
        have hop : ∀ w, (binOp .quo 26 (.float .f32 (floatOfInt .f32 (n : Int))) (.float .f32 (floatOfInt .f32 1))).run Tryd.prog w = .ok (.float .f32 r) w := fun w => run_float_arith w .quo 26 .f32 _ _ r hr
        have hlt := SLT.out n rfl
        have nn : ¬ ((n : Int) < 0) := by omega
        have n0 : (0 : Int) ≤ (n : Int) := by omega
        simp only [smallI]
        clear hr HQ
        go_wp2
        go_ret2
        exact ⟨rfl, B1.out⟩
    · have hc1 := C1.out b [] rfl
      go_wp2_with fail
      refine (SMa.out h6 _).mono ?_
      rintro e w2 ⟨rfl, rfl⟩
      have G0 := Lib.hid (World.block_lt_of_cell? _ _ hc1)
      have TQ : Hid (∀ k : Nat, (b.toList == (⟨(Lib.decDigits (2 ^ k)).toArray⟩ : ByteArray).toList) = decide (b.data.toList = decT k)) := Lib.hid fun k => text_beq _ _
      have CB := Lib.hid hc1
      clear hc1 C1
      go_wp2
      clear hc0
      have I0 : Hid (ByInv b.data.toList 1 0) := Lib.hid (ByInv.start _)
      go_loopw [7, 8] (fun vby vk wr => ∃ k d : Nat, 1 ≤ k ∧ k ≤ 11 ∧ vk = .int .u64 (k : Int) ∧ vby = .int .i64 (d : Int) ∧ Below w1.heap.size w1 wr ∧ Hid (ByInv b.data.toList k d)) (fun _ vk _ => 11 - (intOf vk).toNat)
      case atStart => exact ⟨1, 0, by omega, by omega, rfl, rfl, Below.refl _ _, I0⟩
      case round =>
        obtain ⟨k, d, hk1, hk2, rfl, rfl, hb, HI⟩ := hrel
        have HB := Lib.hid hb
        clear hb
        by_cases hlt : k ≤ 10
        · have HK := Lib.hid hlt
          have HK1 := Lib.hid hk1
          have hp : (2 : Nat) ^ k ≤ 2 ^ 10 := Nat.pow_le_pow_right (by decide) hlt
          have ep : (2 : Nat) ^ 10 = 1024 := by decide
          have DEk : Hid (∀ w, Calls Tryd.prog 8 #[.int .i64 ((2 ^ k : Nat) : Int)] w fun e w' => e = .returned (.string ⟨(Lib.decDigits (2 ^ k)).toArray⟩) ∧ Below w.heap.size w w') := Lib.hid fun w => DE.out (2 ^ k) (by omega) w
          have tq := TQ.out k
          have tk : (k : Int) ≤ 10 := by omega
          have tk0 : (0 : Int) ≤ (k : Int) := by omega
          have hsh : IntKind.i64.wrap (1 * 2 ^ k) = ((2 ^ k : Nat) : Int) := shl_ok k hlt
          have hsh2 := shl_ok2 k hlt
          generalize (⟨(Lib.decDigits (2 ^ k)).toArray⟩ : ByteArray) = T at DEk tq
          go_wp2
          go_wp2_with fail
          have HBw := HB
          have CW : Hid (wr.cell? ⟨g, 1, none⟩ = some (.string b)) := Lib.hid ((HB.out.cell (p := ⟨g, 1, none⟩) G0.out).trans CB.out)
          refine wp_region_inv (by kernel_rfl) (fun listed act W => listed.size = 7 ∧ Below wr.heap.size wr W ∧ ∃ x0 x1 x2 x3 x4 x5 x6, act = { tmps := #[.string t, undef, .float .f32 0, .bool false, .bool false, .slice (some ⟨g, 0, none⟩) 2 cap, .int .i64 (smallI V), .int .i64 (d : Int), .int .u64 (k : Int), .string t, .int .i64 (t.size : Int), .bool true, .bool true, .string t, .int .u8 (xn : Int), .bool false, .bool false, .bool false, undef, undef, .string t, .slice (some ⟨g, 0, none⟩) 2 cap, .slice (some ⟨g, 0, none⟩) 2 cap, .pointer (some ⟨g, 0, none⟩), .string a, .int .i64 (a.size : Int), .bool true, .slice (some ⟨g, 0, none⟩) 2 cap, .pointer (some ⟨g, 0, none⟩), .string a, .int .i64 (smallI V), .slice (some ⟨g, 0, none⟩) 2 cap, .int .i64 2, .bool true, .int .u64 (k : Int), .bool true, u36, u37, x0, x1, x2, x3, x4, x5, x6, u45, u46, undef, undef, undef, undef, undef, undef, undef, undef, undef, undef, undef, undef, undef, undef, undef, undef, undef, undef, undef], defers := [] } ∧ (listed.getD 0 false = true → x0 = .slice (some ⟨g, 0, none⟩) 2 cap) ∧ (listed.getD 1 false = true → x1 = .pointer (some ⟨g, 1, none⟩)) ∧ (listed.getD 2 false = true → x2 = .string b) ∧ (listed.getD 3 false = true → x3 = .int .u64 (k : Int)) ∧ (listed.getD 4 false = true → x4 = .int .i64 ((2 ^ k : Nat) : Int)) ∧ (listed.getD 5 false = true → x5 = .string T) ∧ (listed.getD 6 false = true → x6 = .bool (decide (b.data.toList = decT k)))) (by kernel_rfl) ?h01 (fun _ _ _ h => h.1) ?hstep1 ?hend1
          case h01 =>
            refine ⟨rfl, (Below.refl _ _).drew, _, _, _, _, _, _, _, rfl, ?_, ?_, ?_, ?_, ?_, ?_, ?_⟩ <;> (intro h; exact absurd h (by decide))
          case hstep1 =>
            rintro listed act W i o ⟨hs, hB, x0, x1, x2, x3, x4, x5, x6, rfl, e0, e1, e2, e3, e4, e5, e6⟩ hun hio hpre
            have HB := Lib.hid hB
            have E0 := Lib.hid e0
            have E1 := Lib.hid e1
            have E2 := Lib.hid e2
            have E3 := Lib.hid e3
            have E4 := Lib.hid e4
            have E5 := Lib.hid e5
            have E6 := Lib.hid e6
            have HS := Lib.hid hs
            have HU := Lib.hid hun
            have PRE := Lib.hid hpre
            clear e0 e1 e2 e3 e4 e5 e6 hs hpre hB hun
            match i, hio with
            | 0, hio =>
              clear hio
              refine wpOp_by rfl fun K HK => ?_
              go_wp2_with (fail)
              exact HK.out _ _ ⟨by rw [Array.size_setIfInBounds, HS.out], HB.out, _, _, _, _, _, _, _, rfl, fun _ => rfl, fun h => E1.out ((listed_set h).resolve_left (by decide)), fun h => E2.out ((listed_set h).resolve_left (by decide)), fun h => E3.out ((listed_set h).resolve_left (by decide)), fun h => E4.out ((listed_set h).resolve_left (by decide)), fun h => E5.out ((listed_set h).resolve_left (by decide)), fun h => E6.out ((listed_set h).resolve_left (by decide))⟩
            | 1, hio =>
              simp only [List.getElem?_toArray, List.getElem?_cons_succ, List.getElem?_cons_zero, Option.some.injEq] at hio
              subst hio
              have p0 := PRE.out ⟨0, .data⟩ (by simp) rfl
              obtain rfl := E0.out p0
              refine wpOp_by rfl fun K HK => ?_
              go_wp2_with (fail)
              exact HK.out _ _ ⟨by rw [Array.size_setIfInBounds, HS.out], HB.out, _, _, _, _, _, _, _, rfl, fun _ => rfl, fun _ => rfl, fun h => E2.out ((listed_set h).resolve_left (by decide)), fun h => E3.out ((listed_set h).resolve_left (by decide)), fun h => E4.out ((listed_set h).resolve_left (by decide)), fun h => E5.out ((listed_set h).resolve_left (by decide)), fun h => E6.out ((listed_set h).resolve_left (by decide))⟩
            | 2, hio =>
              simp only [List.getElem?_toArray, List.getElem?_cons_succ, List.getElem?_cons_zero, Option.some.injEq] at hio
              subst hio
              have p1 := PRE.out ⟨1, .data⟩ (by simp) rfl
              obtain rfl := E1.out p1
              have hcc := (HB.out.cell (p := ⟨g, 1, none⟩) (by have := G0.out; have := HBw.out.size; show g < _; omega)).trans CW.out
              refine wpOp_by rfl fun K HK => ?_
              go_wp2_with (fail)
              exact HK.out _ _ ⟨by rw [Array.size_setIfInBounds, HS.out], HB.out, _, _, _, _, _, _, _, rfl, fun h => E0.out ((listed_set h).resolve_left (by decide)), fun _ => rfl, fun _ => rfl, fun h => E3.out ((listed_set h).resolve_left (by decide)), fun h => E4.out ((listed_set h).resolve_left (by decide)), fun h => E5.out ((listed_set h).resolve_left (by decide)), fun h => E6.out ((listed_set h).resolve_left (by decide))⟩
            | 3, hio =>
              clear hio
              refine wpOp_by rfl fun K HK => ?_
              go_wp2_with (fail)
              exact HK.out _ _ ⟨by rw [Array.size_setIfInBounds, HS.out], HB.out, _, _, _, _, _, _, _, rfl, fun h => E0.out ((listed_set h).resolve_left (by decide)), fun h => E1.out ((listed_set h).resolve_left (by decide)), fun h => E2.out ((listed_set h).resolve_left (by decide)), fun _ => rfl, fun h => E4.out ((listed_set h).resolve_left (by decide)), fun h => E5.out ((listed_set h).resolve_left (by decide)), fun h => E6.out ((listed_set h).resolve_left (by decide))⟩
            | 4, hio =>
              simp only [List.getElem?_toArray, List.getElem?_cons_succ, List.getElem?_cons_zero, Option.some.injEq] at hio
              subst hio
              have p3 := PRE.out ⟨3, .data⟩ (by simp) rfl
              obtain rfl := E3.out p3
              refine wpOp_by rfl fun K HK => ?_
              go_wp2_with (fail)
              exact HK.out _ _ ⟨by rw [Array.size_setIfInBounds, HS.out], HB.out, _, _, _, _, _, _, _, rfl, fun h => E0.out ((listed_set h).resolve_left (by decide)), fun h => E1.out ((listed_set h).resolve_left (by decide)), fun h => E2.out ((listed_set h).resolve_left (by decide)), fun _ => rfl, fun _ => rfl, fun h => E5.out ((listed_set h).resolve_left (by decide)), fun h => E6.out ((listed_set h).resolve_left (by decide))⟩
            | 5, hio =>
              simp only [List.getElem?_toArray, List.getElem?_cons_succ, List.getElem?_cons_zero, Option.some.injEq] at hio
              subst hio
              have p4 := PRE.out ⟨4, .data⟩ (by simp) rfl
              obtain rfl := E4.out p4
              refine wpOp_by rfl fun K HK => ?_
              go_wp2_with fail
              refine (DEk.out _).mono ?_
              rintro e W' ⟨rfl, hb⟩
              go_wp2
              exact HK.out _ _ ⟨by rw [Array.size_setIfInBounds, HS.out], HB.out.trans (hb.mono HB.out.size), _, _, _, _, _, _, _, rfl, fun h => E0.out ((listed_set h).resolve_left (by decide)), fun h => E1.out ((listed_set h).resolve_left (by decide)), fun h => E2.out ((listed_set h).resolve_left (by decide)), fun h => E3.out ((listed_set h).resolve_left (by decide)), fun _ => rfl, fun _ => rfl, fun h => E6.out ((listed_set h).resolve_left (by decide))⟩
            | 6, hio =>
              simp only [List.getElem?_toArray, List.getElem?_cons_succ, List.getElem?_cons_zero, Option.some.injEq] at hio
              subst hio
              have p2 := PRE.out ⟨2, .data⟩ (by simp) rfl
              have p5 := PRE.out ⟨5, .data⟩ (by simp) rfl
              obtain rfl := E2.out p2
              obtain rfl := E5.out p5
              refine wpOp_by rfl fun K HK => ?_
              go_wp2_with (fail)
              exact HK.out _ _ ⟨by rw [Array.size_setIfInBounds, HS.out], HB.out, _, _, _, _, _, _, _, rfl, fun h => E0.out ((listed_set h).resolve_left (by decide)), fun h => E1.out ((listed_set h).resolve_left (by decide)), fun _ => rfl, fun h => E3.out ((listed_set h).resolve_left (by decide)), fun h => E4.out ((listed_set h).resolve_left (by decide)), fun _ => rfl, fun _ => rfl⟩
            | k + 7, hio => simp at hio
          case hend1 =>
            rintro listed act W1 ⟨hs, hB, x0, x1, x2, x3, x4, x5, x6, rfl, e0, e1, e2, e3, e4, e5, e6⟩ hall
            obtain rfl := e0 (hall 0 (by decide))
            obtain rfl := e1 (hall 1 (by decide))
            obtain rfl := e2 (hall 2 (by decide))
            obtain rfl := e3 (hall 3 (by decide))
            obtain rfl := e4 (hall 4 (by decide))
            obtain rfl := e5 (hall 5 (by decide))
            obtain rfl := e6 (hall 6 (by decide))
            clear hs hall
            have HB1 := Lib.hid (HBw.out.trans (hB.mono HBw.out.size))
            clear hB
            by_cases heq : b.data.toList = decT k
            · have HN : Hid (ByInv b.data.toList (k + 1) (2 ^ k)) := Lib.hid (ByInv.hit (d := d) HK1.out heq)
              rw [decide_eq_true heq]
              clear heq
              go_wp2
              go_roundw
              case rel => exact ⟨k + 1, 2 ^ k, by omega, by have := HK.out; omega, by go_num, by first | rfl | go_num, HB1.out, HN⟩
              case measure => have := HK.out; simp [intOf]; omega
            · have HN : Hid (ByInv b.data.toList (k + 1) d) := Lib.hid (ByInv.miss HI.out heq)
              rw [decide_eq_false heq]
              clear heq
              go_wp2
              go_roundw
              case rel => exact ⟨k + 1, d, by omega, by have := HK.out; omega, by go_num, by first | rfl | go_num, HB1.out, HN⟩
              case measure => have := HK.out; simp [intOf]; omega
        · obtain rfl : k = 11 := by omega
          have B2 := Lib.hid (B1.out.trans (HB.out.mono B1.out.size))
          rcases HI.out.fin with ⟨hbv, hd⟩ | ⟨kk, hbv, hd, hk1, hk10⟩
          · subst hd
            have BV := Lib.hid hbv
            clear hbv
            cases V with
            | none =>
              simp only [smallI]
              have er : RES = none := by rw [NR.out]; unfold partsV; simp only [List.map_cons, List.map_nil, VV.out]; rfl
              subst er
              go_wp2
              go_ret2
              exact ⟨rfl, B2.out⟩
            | some n =>
              have hlt2 := SLT.out n rfl
              have nn : ¬ ((n : Int) < 0) := by omega
              have n0 : (0 : Int) ≤ (n : Int) := by omega
              simp only [smallI]
              have er : RES = none := by rw [NR.out]; unfold partsV; simp only [List.map_cons, List.map_nil, VV.out, BV.out, Option.map_none, Option.bind_some]; rfl
              subst er
              go_wp2
              go_ret2
              exact ⟨rfl, B2.out⟩
          · have BV := Lib.hid hbv
            have HPP := Lib.hid hd
            have hd2 : 2 ≤ d := by
              have : (2 : Nat) ^ 1 ≤ 2 ^ kk := Nat.pow_le_pow_right (by decide) hk1
              omega
            have hdz : ((d : Int) == 0) = false := beq_eq_false_iff_ne.2 (by omega)
            clear hbv hd
            cases V with
            | none =>
              simp only [smallI]
              have er : RES = none := by rw [NR.out]; unfold partsV; simp only [List.map_cons, List.map_nil, VV.out]; rfl
              subst er
              go_wp2
              go_ret2
              exact ⟨rfl, B2.out⟩
            | some n =>
              obtain ⟨r, hr, _⟩ := HQ.out (n : Int) kk (by have := SLT.out n rfl; omega) (by first | omega | exact hk10)
              have er : RES = some r := by rw [NR.out]; unfold partsV; simp only [List.map_cons, List.map_nil, VV.out, BV.out, Option.map_some, Option.bind_some]; exact hr
              subst er
              have hop : ∀ w, (binOp .quo 26 (.float .f32 (floatOfInt .f32 (n : Int))) (.float .f32 (floatOfInt .f32 (d : Int)))).run Tryd.prog w = .ok (.float .f32 r) w := fun w => run_float_arith w .quo 26 .f32 _ _ r (by rw [HPP.out]; exact hr)
              have hlt := SLT.out n rfl
              have nn : ¬ ((n : Int) < 0) := by omega
              have n0 : (0 : Int) ≤ (n : Int) := by omega
              simp only [smallI]
              clear hr HQ
              go_wp2
              go_ret2
              exact ⟨rfl, B2.out⟩
    · have er : RES = none := by rw [NR.out]; rfl
      subst er
      have hl3 : (2 : Int) < ((q.length + 1 + 1 + 1 : Nat) : Int) := by omega
      have hl2 : (((q.length + 1 + 1 + 1 : Nat) : Int) == 2) = false := beq_eq_false_iff_ne.2 (by omega)
      simp only [List.length_cons] at hql ⊢
      generalize q.length + 1 + 1 + 1 = ln at hl3 hl2 ⊢
      go_wp2_with fail
      refine (SMa.out h6 _).mono ?_
      rintro e w2 ⟨rfl, rfl⟩
      clear SMa S6
      cases V with
      | none =>
        simp only [smallI]
        go_wp2
        go_ret2
        exact ⟨rfl, B1.out⟩
      | some n =>
        have nn : ¬ ((n : Int) < 0) := by omega
        have n0 : (0 : Int) ≤ (n : Int) := by omega
        simp only [smallI]
        go_wp2
        go_ret2
        exact ⟨rfl, B1.out⟩
  · have a6 : ¬ ((a.size : Int) ≤ 6) := by omega
    have a7 : (6 : Int) < (a.size : Int) := by omega
    have h6 : 6 < a.size := by omega
    rcases q with _ | ⟨b, _ | ⟨c, q⟩⟩
    · have hV := S6.out h6
      subst hV
      clear SLT S6
      have er : RES = none := by rw [NR.out]; unfold partsV; simp only [List.map_nil, VV.out]; rfl
      subst er
      go_wp2
      go_ret2
      exact ⟨rfl, B1.out⟩
    · have hc1 := C1.out b [] rfl
      have G0 := Lib.hid (World.block_lt_of_cell? _ _ hc1)
      have TQ : Hid (∀ k : Nat, (b.toList == (⟨(Lib.decDigits (2 ^ k)).toArray⟩ : ByteArray).toList) = decide (b.data.toList = decT k)) := Lib.hid fun k => text_beq _ _
      have CB := Lib.hid hc1
      clear hc1 C1
      go_wp2
      clear hc0
      have I0 : Hid (ByInv b.data.toList 1 0) := Lib.hid (ByInv.start _)
      go_loopw [7, 8] (fun vby vk wr => ∃ k d : Nat, 1 ≤ k ∧ k ≤ 11 ∧ vk = .int .u64 (k : Int) ∧ vby = .int .i64 (d : Int) ∧ Below w1.heap.size w1 wr ∧ Hid (ByInv b.data.toList k d)) (fun _ vk _ => 11 - (intOf vk).toNat)
      case atStart => exact ⟨1, 0, by omega, by omega, rfl, rfl, Below.refl _ _, I0⟩
      case round =>
        obtain ⟨k, d, hk1, hk2, rfl, rfl, hb, HI⟩ := hrel
        have HB := Lib.hid hb
        clear hb
        by_cases hlt : k ≤ 10
        · have HK := Lib.hid hlt
          have HK1 := Lib.hid hk1
          have hp : (2 : Nat) ^ k ≤ 2 ^ 10 := Nat.pow_le_pow_right (by decide) hlt
          have ep : (2 : Nat) ^ 10 = 1024 := by decide
          have DEk : Hid (∀ w, Calls Tryd.prog 8 #[.int .i64 ((2 ^ k : Nat) : Int)] w fun e w' => e = .returned (.string ⟨(Lib.decDigits (2 ^ k)).toArray⟩) ∧ Below w.heap.size w w') := Lib.hid fun w => DE.out (2 ^ k) (by omega) w
          have tq := TQ.out k
          have tk : (k : Int) ≤ 10 := by omega
          have tk0 : (0 : Int) ≤ (k : Int) := by omega
          have hsh : IntKind.i64.wrap (1 * 2 ^ k) = ((2 ^ k : Nat) : Int) := shl_ok k hlt
          have hsh2 := shl_ok2 k hlt
          generalize (⟨(Lib.decDigits (2 ^ k)).toArray⟩ : ByteArray) = T at DEk tq
          go_wp2
          go_wp2_with fail
          have HBw := HB
          have CW : Hid (wr.cell? ⟨g, 1, none⟩ = some (.string b)) := Lib.hid ((HB.out.cell (p := ⟨g, 1, none⟩) G0.out).trans CB.out)
          refine wp_region_inv (by kernel_rfl) (fun listed act W => listed.size = 7 ∧ Below wr.heap.size wr W ∧ ∃ x0 x1 x2 x3 x4 x5 x6, act = { tmps := #[.string t, undef, .float .f32 0, .bool false, .bool false, .slice (some ⟨g, 0, none⟩) 2 cap, .int .i64 (-1), .int .i64 (d : Int), .int .u64 (k : Int), .string t, .int .i64 (t.size : Int), .bool true, .bool true, .string t, .int .u8 (xn : Int), .bool false, .bool false, .bool false, undef, undef, .string t, .slice (some ⟨g, 0, none⟩) 2 cap, .slice (some ⟨g, 0, none⟩) 2 cap, .pointer (some ⟨g, 0, none⟩), .string a, .int .i64 (a.size : Int), .bool (decide ((a.size : Int) ≤ 6)), undef, undef, undef, undef, .slice (some ⟨g, 0, none⟩) 2 cap, .int .i64 2, .bool true, .int .u64 (k : Int), .bool true, u36, u37, x0, x1, x2, x3, x4, x5, x6, u45, u46, undef, undef, undef, undef, undef, undef, undef, undef, undef, undef, undef, undef, undef, undef, undef, undef, undef, undef, undef], defers := [] } ∧ (listed.getD 0 false = true → x0 = .slice (some ⟨g, 0, none⟩) 2 cap) ∧ (listed.getD 1 false = true → x1 = .pointer (some ⟨g, 1, none⟩)) ∧ (listed.getD 2 false = true → x2 = .string b) ∧ (listed.getD 3 false = true → x3 = .int .u64 (k : Int)) ∧ (listed.getD 4 false = true → x4 = .int .i64 ((2 ^ k : Nat) : Int)) ∧ (listed.getD 5 false = true → x5 = .string T) ∧ (listed.getD 6 false = true → x6 = .bool (decide (b.data.toList = decT k)))) (by kernel_rfl) ?h01 (fun _ _ _ h => h.1) ?hstep1 ?hend1
          case h01 =>
            refine ⟨rfl, (Below.refl _ _).drew, _, _, _, _, _, _, _, rfl, ?_, ?_, ?_, ?_, ?_, ?_, ?_⟩ <;> (intro h; exact absurd h (by decide))
          case hstep1 =>
            rintro listed act W i o ⟨hs, hB, x0, x1, x2, x3, x4, x5, x6, rfl, e0, e1, e2, e3, e4, e5, e6⟩ hun hio hpre
            have HB := Lib.hid hB
            have E0 := Lib.hid e0
            have E1 := Lib.hid e1
            have E2 := Lib.hid e2
            have E3 := Lib.hid e3
            have E4 := Lib.hid e4
            have E5 := Lib.hid e5
            have E6 := Lib.hid e6
            have HS := Lib.hid hs
            have HU := Lib.hid hun
            have PRE := Lib.hid hpre
            clear e0 e1 e2 e3 e4 e5 e6 hs hpre hB hun
            match i, hio with
            | 0, hio =>
              clear hio
              refine wpOp_by rfl fun K HK => ?_
              go_wp2_with (fail)
              exact HK.out _ _ ⟨by rw [Array.size_setIfInBounds, HS.out], HB.out, _, _, _, _, _, _, _, rfl, fun _ => rfl, fun h => E1.out ((listed_set h).resolve_left (by decide)), fun h => E2.out ((listed_set h).resolve_left (by decide)), fun h => E3.out ((listed_set h).resolve_left (by decide)), fun h => E4.out ((listed_set h).resolve_left (by decide)), fun h => E5.out ((listed_set h).resolve_left (by decide)), fun h => E6.out ((listed_set h).resolve_left (by decide))⟩
            | 1, hio =>
              simp only [List.getElem?_toArray, List.getElem?_cons_succ, List.getElem?_cons_zero, Option.some.injEq] at hio
              subst hio
              have p0 := PRE.out ⟨0, .data⟩ (by simp) rfl
              obtain rfl := E0.out p0
              refine wpOp_by rfl fun K HK => ?_
              go_wp2_with (fail)
              exact HK.out _ _ ⟨by rw [Array.size_setIfInBounds, HS.out], HB.out, _, _, _, _, _, _, _, rfl, fun _ => rfl, fun _ => rfl, fun h => E2.out ((listed_set h).resolve_left (by decide)), fun h => E3.out ((listed_set h).resolve_left (by decide)), fun h => E4.out ((listed_set h).resolve_left (by decide)), fun h => E5.out ((listed_set h).resolve_left (by decide)), fun h => E6.out ((listed_set h).resolve_left (by decide))⟩
            | 2, hio =>
              simp only [List.getElem?_toArray, List.getElem?_cons_succ, List.getElem?_cons_zero, Option.some.injEq] at hio
              subst hio
              have p1 := PRE.out ⟨1, .data⟩ (by simp) rfl
              obtain rfl := E1.out p1
              have hcc := (HB.out.cell (p := ⟨g, 1, none⟩) (by have := G0.out; have := HBw.out.size; show g < _; omega)).trans CW.out
              refine wpOp_by rfl fun K HK => ?_
              go_wp2_with (fail)
              exact HK.out _ _ ⟨by rw [Array.size_setIfInBounds, HS.out], HB.out, _, _, _, _, _, _, _, rfl, fun h => E0.out ((listed_set h).resolve_left (by decide)), fun _ => rfl, fun _ => rfl, fun h => E3.out ((listed_set h).resolve_left (by decide)), fun h => E4.out ((listed_set h).resolve_left (by decide)), fun h => E5.out ((listed_set h).resolve_left (by decide)), fun h => E6.out ((listed_set h).resolve_left (by decide))⟩
            | 3, hio =>
              clear hio
              refine wpOp_by rfl fun K HK => ?_
              go_wp2_with (fail)
              exact HK.out _ _ ⟨by rw [Array.size_setIfInBounds, HS.out], HB.out, _, _, _, _, _, _, _, rfl, fun h => E0.out ((listed_set h).resolve_left (by decide)), fun h => E1.out ((listed_set h).resolve_left (by decide)), fun h => E2.out ((listed_set h).resolve_left (by decide)), fun _ => rfl, fun h => E4.out ((listed_set h).resolve_left (by decide)), fun h => E5.out ((listed_set h).resolve_left (by decide)), fun h => E6.out ((listed_set h).resolve_left (by decide))⟩
            | 4, hio =>
              simp only [List.getElem?_toArray, List.getElem?_cons_succ, List.getElem?_cons_zero, Option.some.injEq] at hio
              subst hio
              have p3 := PRE.out ⟨3, .data⟩ (by simp) rfl
              obtain rfl := E3.out p3
              refine wpOp_by rfl fun K HK => ?_
              go_wp2_with (fail)
              exact HK.out _ _ ⟨by rw [Array.size_setIfInBounds, HS.out], HB.out, _, _, _, _, _, _, _, rfl, fun h => E0.out ((listed_set h).resolve_left (by decide)), fun h => E1.out ((listed_set h).resolve_left (by decide)), fun h => E2.out ((listed_set h).resolve_left (by decide)), fun _ => rfl, fun _ => rfl, fun h => E5.out ((listed_set h).resolve_left (by decide)), fun h => E6.out ((listed_set h).resolve_left (by decide))⟩
            | 5, hio =>
              simp only [List.getElem?_toArray, List.getElem?_cons_succ, List.getElem?_cons_zero, Option.some.injEq] at hio
              subst hio
              have p4 := PRE.out ⟨4, .data⟩ (by simp) rfl
              obtain rfl := E4.out p4
              refine wpOp_by rfl fun K HK => ?_
              go_wp2_with fail
              refine (DEk.out _).mono ?_
              rintro e W' ⟨rfl, hb⟩
              go_wp2
              exact HK.out _ _ ⟨by rw [Array.size_setIfInBounds, HS.out], HB.out.trans (hb.mono HB.out.size), _, _, _, _, _, _, _, rfl, fun h => E0.out ((listed_set h).resolve_left (by decide)), fun h => E1.out ((listed_set h).resolve_left (by decide)), fun h => E2.out ((listed_set h).resolve_left (by decide)), fun h => E3.out ((listed_set h).resolve_left (by decide)), fun _ => rfl, fun _ => rfl, fun h => E6.out ((listed_set h).resolve_left (by decide))⟩
            | 6, hio =>
              simp only [List.getElem?_toArray, List.getElem?_cons_succ, List.getElem?_cons_zero, Option.some.injEq] at hio
              subst hio
              have p2 := PRE.out ⟨2, .data⟩ (by simp) rfl
              have p5 := PRE.out ⟨5, .data⟩ (by simp) rfl
              obtain rfl := E2.out p2
              obtain rfl := E5.out p5
              refine wpOp_by rfl fun K HK => ?_
              go_wp2_with (fail)
              exact HK.out _ _ ⟨by rw [Array.size_setIfInBounds, HS.out], HB.out, _, _, _, _, _, _, _, rfl, fun h => E0.out ((listed_set h).resolve_left (by decide)), fun h => E1.out ((listed_set h).resolve_left (by decide)), fun _ => rfl, fun h => E3.out ((listed_set h).resolve_left (by decide)), fun h => E4.out ((listed_set h).resolve_left (by decide)), fun _ => rfl, fun _ => rfl⟩
            | k + 7, hio => simp at hio
          case hend1 =>
            rintro listed act W1 ⟨hs, hB, x0, x1, x2, x3, x4, x5, x6, rfl, e0, e1, e2, e3, e4, e5, e6⟩ hall
            obtain rfl := e0 (hall 0 (by decide))
            obtain rfl := e1 (hall 1 (by decide))
            obtain rfl := e2 (hall 2 (by decide))
            obtain rfl := e3 (hall 3 (by decide))
            obtain rfl := e4 (hall 4 (by decide))
            obtain rfl := e5 (hall 5 (by decide))
            obtain rfl := e6 (hall 6 (by decide))
            clear hs hall
            have HB1 := Lib.hid (HBw.out.trans (hB.mono HBw.out.size))
            clear hB
            by_cases heq : b.data.toList = decT k
            · have HN : Hid (ByInv b.data.toList (k + 1) (2 ^ k)) := Lib.hid (ByInv.hit (d := d) HK1.out heq)
              rw [decide_eq_true heq]
              clear heq
              go_wp2
              go_roundw
              case rel => exact ⟨k + 1, 2 ^ k, by omega, by have := HK.out; omega, by go_num, by first | rfl | go_num, HB1.out, HN⟩
              case measure => have := HK.out; simp [intOf]; omega
            · have HN : Hid (ByInv b.data.toList (k + 1) d) := Lib.hid (ByInv.miss HI.out heq)
              rw [decide_eq_false heq]
              clear heq
              go_wp2
              go_roundw
              case rel => exact ⟨k + 1, d, by omega, by have := HK.out; omega, by go_num, by first | rfl | go_num, HB1.out, HN⟩
              case measure => have := HK.out; simp [intOf]; omega
        · obtain rfl : k = 11 := by omega
          have B2 := Lib.hid (B1.out.trans (HB.out.mono B1.out.size))
          have hV := S6.out h6
          subst hV
          clear SLT S6
          have er : RES = none := by rw [NR.out]; unfold partsV; simp only [List.map_cons, List.map_nil, VV.out]; rfl
          subst er
          go_wp2
          go_ret2
          exact ⟨rfl, B2.out⟩
    · have hV := S6.out h6
      subst hV
      clear SLT S6
      have er : RES = none := by rw [NR.out]; rfl
      subst er
      have hl3 : (2 : Int) < ((q.length + 1 + 1 + 1 : Nat) : Int) := by omega
      have hl2 : (((q.length + 1 + 1 + 1 : Nat) : Int) == 2) = false := beq_eq_false_iff_ne.2 (by omega)
      simp only [List.length_cons] at hql ⊢
      generalize q.length + 1 + 1 + 1 = ln at hl3 hl2 ⊢
      go_wp2
      go_ret2
      exact ⟨rfl, B1.out⟩
theorem l08Number_any (t : ByteArray) (hm : t.size ≤ 1048576) (w : World) :
    Calls Tryd.prog 17 #[.string t] w fun e w' => e = .returned (specR (numV (splitL 47) t.data.toList)) ∧ Below w.heap.size w w' := by
  by_cases hz : t.size = 0
  · exact l08_H2 t hm w hz
  · cases hng : isNeg t.data.toList with
    | true => exact l08_H1 t hm w hng
    | false => exact l08_H3 t hm w hz hng
theorem specNumber_any (t : ByteArray) (hm : t.size ≤ 1048576) (w : World) :
    Calls Tryd.prog 9 #[.string t] w fun e w' => e = .returned (numR (numV (splitL 47) t.data.toList)) ∧ Below w.heap.size w w' := by
  have H := Lib.hid (l08Number_any t hm w)
  generalize numV (splitL 47) t.data.toList = V at H ⊢
  cases V with
  | none =>
    go_enter Tryd.func9, Tryd.ntmps9
    go_wp2_with fail
    refine H.out.mono ?_
    rintro e w1 ⟨rfl, b1⟩
    have B1 := Lib.hid b1
    clear b1
    simp only [specR]
    go_wp2
    go_ret2
    exact ⟨rfl, B1.out⟩
  | some r =>
    go_enter Tryd.func9, Tryd.ntmps9
    go_wp2_with fail
    refine H.out.mono ?_
    rintro e w1 ⟨rfl, b1⟩
    have B1 := Lib.hid b1
    clear b1
    simp only [specR]
    go_wp2
    go_ret2
    exact ⟨rfl, B1.out⟩
end Go.Proofs.YtaihooljphkpeaaDoor
