/-
  THE PROGRAM's ReadNumber.
-/
import Derived.Test.YtaihooljphkpeaaDoorQc
namespace Go.Proofs.YtaihooljphkpeaaDoor
open Go.ChangeShapes Go.WideShapes Go.ChangeAt Go.RowKit
open Fl
def numR : Option Nat → Value
  | some r => .tuple #[.float .f32 r, .int .i64 0]
  | none => .tuple #[.float .f32 0, .int .i64 5]
theorem hasPre (l : List UInt8) : Lib.hasPrefix l [45] = isNeg l := by
  cases l with
  | nil => rfl
  | cons x r =>
    unfold Lib.hasPrefix isNeg
    rw [List.isPrefixOf]
    simp only [List.isPrefixOf, Bool.and_true, List.head?_cons]
    by_cases h : x = 45
    · subst h; rfl
    · have h' : ¬ (45 : UInt8) = x := fun e => h e.symm
      rw [beq_eq_false_iff_ne.2 h']
      simp [h]
theorem trimPre (l : List UInt8) : Lib.trimPrefix l [45] = rest l := by
  unfold Lib.trimPrefix rest
  rw [hasPre]
  rfl
theorem splitL_ne (c : UInt8) : ∀ l : List UInt8, ∃ a r, splitL c l = a :: r
  | [] => ⟨_, _, rfl⟩
  | x :: r => by
    obtain ⟨a, b, e⟩ := splitL_ne c r
    rw [splitL]
    split
    · exact ⟨_, _, rfl⟩
    · rw [e]; exact ⟨_, _, rfl⟩
theorem parts_one {u : List UInt8} (h : ∀ x ∈ u, x ≠ 47) : partsV (splitL 47 u) = (smallV u).map fun n => (n, 0) := by
  rw [splitL_none 47 u h]; rfl
theorem parts_two {a b : List UInt8} (h : ∀ x ∈ a, x ≠ 47) : partsV (splitL 47 (a ++ 47 :: b)) = (smallV a).bind fun n => (byV b).map fun k => (n, k) := by
  rw [splitL_at 47 a b h]
  by_cases hb : ∀ x ∈ b, x ≠ 47
  · rw [splitL_none 47 b hb]; rfl
  · have hn : byV b = none := by
      cases hv : byV b with
      | none => rfl
      | some k =>
        obtain ⟨h1, h2, h3⟩ := byV_some hv
        exact absurd (h3 ▸ decT_slash h1 h2) hb
    have h3 : ∃ x y r, splitL 47 b = x :: y :: r := by
      have : ∃ c ∈ b, c = 47 := by
        simpa using hb
      obtain ⟨c, hc, rfl⟩ := this
      clear hb hn
      induction b with
      | nil => simp at hc
      | cons z r ih =>
        rw [splitL]
        by_cases hz : z = 47
        · rw [if_pos hz]
          obtain ⟨x, y, e⟩ := splitL_ne 47 r
          exact ⟨_, _, _, by rw [e]⟩
        · rw [if_neg hz]
          obtain ⟨x, y, q, e⟩ := ih (by
            rcases List.mem_cons.1 hc with h | h
            · exact absurd h.symm hz
            · exact h)
          rw [e]
          exact ⟨_, _, _, rfl⟩
    obtain ⟨x, y, r, e⟩ := h3
    rw [e, hn]
    cases smallV a <;> rfl
theorem cut_parts (U : ByteArray) : ∃ (A B : ByteArray) (d : Bool), cutV U = .tuple #[.string A, .string B, .bool d] ∧ A.size ≤ U.size ∧
    partsV (splitL 47 U.data.toList) = (if d then (smallV A.data.toList).bind fun n => (byV B.data.toList).map fun k => (n, k) else (smallV A.data.toList).map fun n => (n, 0)) := by
  unfold cutV
  cases hi : Lib.indexByte U.data.toList 47 with
  | ofNat i =>
    obtain ⟨h1, h2⟩ := Lib.indexByte_some (o := i) hi
    obtain ⟨hl, hv⟩ := List.getElem?_eq_some_iff.1 h1
    refine ⟨U.extract 0 i, U.extract (i + 1) U.size, true, rfl, by simp; omega, ?_⟩
    rw [if_pos rfl, extract_list, extract_list, List.drop_zero, Nat.sub_zero]
    have hs : U.data.toList.length = U.size := by rw [Array.length_toList]; rfl
    rw [List.take_of_length_le (l := U.data.toList.drop (i + 1)) (by rw [List.length_drop]; omega)]
    have e : U.data.toList = U.data.toList.take i ++ 47 :: U.data.toList.drop (i + 1) := by
      rw [← hv, ← List.drop_eq_getElem_cons hl, List.take_append_drop]
    rw [← parts_two (a := U.data.toList.take i) (b := U.data.toList.drop (i + 1)) ?_, ← e]
    intro x hx
    obtain ⟨j, hj, rfl⟩ := List.getElem_of_mem hx
    have hji : j < i := by simp at hj; omega
    rw [List.getElem_take]
    intro h47
    exact h2 j hji (by rw [List.getElem?_eq_getElem (by omega), h47])
  | negSucc n =>
    have hn : Lib.indexByte U.data.toList 47 = -1 := by
      have := Lib.indexByte_ge U.data.toList 47
      omega
    refine ⟨U, ⟨#[]⟩, false, rfl, Nat.le_refl _, ?_⟩
    rw [if_neg (by simp)]
    apply parts_one
    intro x hx h47
    obtain ⟨j, hj, e⟩ := List.getElem_of_mem hx
    exact Lib.indexByte_none hn j (by rw [List.getElem?_eq_getElem hj, e, h47])
set_option maxHeartbeats 2000000 in
set_option maxRecDepth 8000 in
theorem implNumber_any (t : ByteArray) (hm : t.size ≤ 1048576) (w : World) (hT : Pow w) (hG : 1 < w.heap.size) :
    Calls Tryd.prog 7 #[.string t] w fun e w' => e = .returned (numR (numV (splitL 47) t.data.toList)) ∧ Below w.heap.size w w' := by
  have HCP := Lib.hid (fun w => Tryd.strings_CutPrefix t ⟨#[45]⟩ w)
  obtain ⟨l, hl⟩ : ∃ l, t.data.toList = l := ⟨_, rfl⟩
  obtain ⟨U, hU⟩ : ∃ U : ByteArray, (⟨(rest l).toArray⟩ : ByteArray) = U := ⟨_, rfl⟩
  obtain ⟨ng, hng⟩ : ∃ ng, isNeg l = ng := ⟨_, rfl⟩
  have hUl : U.data.toList = rest l := by rw [← hU]
  have hUs : U.size ≤ 1048576 := by
    have e1 : U.size = U.data.toList.length := by rw [Array.length_toList]; rfl
    have e2 : t.size = t.data.toList.length := by rw [Array.length_toList]; rfl
    rw [e1, hUl, ← hl]
    unfold rest
    split
    · rw [List.length_drop]; omega
    · omega
  obtain ⟨A, B, d, hcut, hA, hpv⟩ := cut_parts U
  have HP : Hid (∀ w, Calls Tryd.prog 13 #[.string t, .string ⟨#[45]⟩] w fun e w' => e = .returned (.tuple #[.string U, .bool ng]) ∧ w = w') := Lib.hid fun w => (HCP.out w).mono fun e w' h => ⟨by rw [h.1]; simp only [hasPre, trimPre, hl, hU, hng], h.2.symm⟩
  have HC : Hid (∀ w, Calls Tryd.prog 14 #[.string U, .string ⟨#[47]⟩] w fun e w' => e = .returned (.tuple #[.string A, .string B, .bool d]) ∧ Below w.heap.size w w') := Lib.hid fun w => hcut ▸ cutOut U hUs w
  have HD := Lib.hid (fun w => readDigits_any A w)
  have HV := Lib.hid (fun w h1 h2 => readDivisor_any B w h1 h2)
  have HT := Lib.hid hT
  have HG := Lib.hid hG
  have hnum : numV (splitL 47) l = (if d then (smallV A.data.toList).bind fun n => (byV B.data.toList).map fun k => (n, k) else (smallV A.data.toList).map fun n => (n, 0)).bind fun p => quoB (if ng then -(p.1 : Int) else p.1) p.2 := by
    unfold numV
    rw [← hUl, hpv, hng]
  rw [hl, hnum]
  have HQ := Lib.hid quo_ok
  have hlt : ∀ v, smallV A.data.toList = some v → v < 1000000 := fun v h => smallV_lt h
  have hby : ∀ k, byV B.data.toList = some k → k ≤ 10 := fun k h => (byV_some h).2.1
  clear hT hG hnum hpv hcut hng hUl hU hl HCP hA hm hUs
  generalize smallV A.data.toList = VA at HD hlt ⊢
  generalize byV B.data.toList = VB at HV hby ⊢
  cases VA with
  | none =>
    have e0 : ((if d then (none : Option Nat).bind fun n => VB.map fun k => (n, k) else (none : Option Nat).map fun n => (n, 0)).bind fun p => quoB (if ng then -(p.1 : Int) else p.1) p.2) = none := by cases d <;> rfl
    rw [e0]
    clear e0 hlt hby
    go_enter Tryd.func7, Tryd.ntmps7
    go_wp2_with fail
    refine (HP.out _).mono ?_
    rintro e w1 ⟨rfl, rfl⟩
    go_wp2_with fail
    refine (HC.out _).mono ?_
    rintro e w1 ⟨rfl, b1⟩
    have B1 := Lib.hid b1
    clear b1
    go_wp2_with fail
    refine (HD.out _).mono ?_
    rintro e w2 ⟨rfl, rfl⟩
    simp only [digR]
    go_wp2
    go_ret2
    exact ⟨rfl, B1.out⟩
  | some n =>
    have hn := hlt n rfl
    have nw : ∀ (x : Int), x.natAbs < 16777216 → True := fun _ _ => trivial
    cases d with
    | false =>
      have e0 : ((if false = true then (some n).bind fun n => VB.map fun k => (n, k) else (some n).map fun n => (n, 0)).bind fun p => quoB (if ng then -(p.1 : Int) else p.1) p.2) = quoB (if ng then -(n : Int) else n) 0 := rfl
      rw [e0]
      clear e0 hlt hby
      cases ng with
      | true =>
        simp only [if_true]
        obtain ⟨r, hr, _⟩ := HQ.out (-(n : Int)) 0 (by omega) (by omega)
        rw [hr]
        have hop : ∀ w, (binOp .quo 26 (.float .f32 (floatOfInt .f32 (-(n : Int)))) (.float .f32 (floatOfInt .f32 1))).run Tryd.prog w = .ok (.float .f32 r) w := fun w => run_float_arith w .quo 26 .f32 _ _ r hr
        have wn : IntKind.i64.wrap (-(n : Int)) = -(n : Int) := by rw [IntKind.wrap_i64]; omega
        clear hr HQ
        go_enter Tryd.func7, Tryd.ntmps7
        go_wp2_with fail
        refine (HP.out _).mono ?_
        rintro e w1 ⟨rfl, rfl⟩
        go_wp2_with fail
        refine (HC.out _).mono ?_
        rintro e w1 ⟨rfl, b1⟩
        have B1 := Lib.hid b1
        clear b1
        go_wp2_with fail
        refine (HD.out _).mono ?_
        rintro e w2 ⟨rfl, rfl⟩
        simp only [digR]
        go_wp2
        go_ret2
        exact ⟨rfl, B1.out⟩
      | false =>
        simp only [if_false, Bool.false_eq_true]
        obtain ⟨r, hr, _⟩ := HQ.out (n : Int) 0 (by omega) (by omega)
        rw [hr]
        have hop : ∀ w, (binOp .quo 26 (.float .f32 (floatOfInt .f32 (n : Int))) (.float .f32 (floatOfInt .f32 1))).run Tryd.prog w = .ok (.float .f32 r) w := fun w => run_float_arith w .quo 26 .f32 _ _ r hr
        clear hr HQ
        go_enter Tryd.func7, Tryd.ntmps7
        go_wp2_with fail
        refine (HP.out _).mono ?_
        rintro e w1 ⟨rfl, rfl⟩
        go_wp2_with fail
        refine (HC.out _).mono ?_
        rintro e w1 ⟨rfl, b1⟩
        have B1 := Lib.hid b1
        clear b1
        go_wp2_with fail
        refine (HD.out _).mono ?_
        rintro e w2 ⟨rfl, rfl⟩
        simp only [digR]
        go_wp2
        go_ret2
        exact ⟨rfl, B1.out⟩
    | true =>
      cases VB with
      | none =>
        have e0 : ((if true = true then (some n).bind fun n => (none : Option Nat).map fun k => (n, k) else (some n).map fun n => (n, 0)).bind fun p => quoB (if ng then -(p.1 : Int) else p.1) p.2) = none := rfl
        rw [e0]
        clear e0 hlt hby HQ
        go_enter Tryd.func7, Tryd.ntmps7
        go_wp2_with fail
        refine (HP.out _).mono ?_
        rintro e w1 ⟨rfl, rfl⟩
        go_wp2_with fail
        refine (HC.out _).mono ?_
        rintro e w1 ⟨rfl, b1⟩
        have B1 := Lib.hid b1
        have P1 := Lib.hid (HT.out.below b1 HG.out)
        have G1 : Hid (1 < w1.heap.size) := Lib.hid (Nat.lt_of_lt_of_le HG.out b1.size)
        clear b1
        go_wp2_with fail
        refine (HD.out _).mono ?_
        rintro e w2 ⟨rfl, rfl⟩
        simp only [digR]
        go_wp2_with fail
        refine (HV.out _ P1.out G1.out).mono ?_
        rintro e w3 ⟨rfl, b3⟩
        have B3 := Lib.hid (B1.out.trans (b3.mono B1.out.size))
        clear b3
        simp only [byR]
        go_wp2
        go_ret2
        exact ⟨rfl, B3.out⟩
      | some k =>
        have hk := hby k rfl
        have e0 : ((if true = true then (some n).bind fun n => (some k).map fun k => (n, k) else (some n).map fun n => (n, 0)).bind fun p => quoB (if ng then -(p.1 : Int) else p.1) p.2) = quoB (if ng then -(n : Int) else n) k := rfl
        rw [e0]
        obtain ⟨p, hpp⟩ : ∃ p, (2 ^ k : Nat) = p := ⟨_, rfl⟩
        have HPP := Lib.hid hpp
        clear e0 hlt hby hpp
        cases ng with
        | true =>
          simp only [if_true]
          obtain ⟨r, hr, _⟩ := HQ.out (-(n : Int)) k (by omega) (by omega)
          rw [hr]
          have hop : ∀ w, (binOp .quo 26 (.float .f32 (floatOfInt .f32 (-(n : Int)))) (.float .f32 (floatOfInt .f32 (p : Int)))).run Tryd.prog w = .ok (.float .f32 r) w := fun w => run_float_arith w .quo 26 .f32 _ _ r (by rw [← HPP.out]; exact hr)
          have wn : IntKind.i64.wrap (-(n : Int)) = -(n : Int) := by rw [IntKind.wrap_i64]; omega
          clear hr HQ
          go_enter Tryd.func7, Tryd.ntmps7
          go_wp2_with fail
          refine (HP.out _).mono ?_
          rintro e w1 ⟨rfl, rfl⟩
          go_wp2_with fail
          refine (HC.out _).mono ?_
          rintro e w1 ⟨rfl, b1⟩
          have B1 := Lib.hid b1
          have P1 := Lib.hid (HT.out.below b1 HG.out)
          have G1 : Hid (1 < w1.heap.size) := Lib.hid (Nat.lt_of_lt_of_le HG.out b1.size)
          clear b1
          go_wp2_with fail
          refine (HD.out _).mono ?_
          rintro e w2 ⟨rfl, rfl⟩
          simp only [digR]
          go_wp2_with fail
          refine (HV.out _ P1.out G1.out).mono ?_
          rintro e w3 ⟨rfl, b3⟩
          have B3 := Lib.hid (B1.out.trans (b3.mono B1.out.size))
          clear b3
          simp only [byR]
          rw [HPP.out]
          go_wp2
          go_ret2
          exact ⟨rfl, B3.out⟩
        | false =>
          simp only [if_false, Bool.false_eq_true]
          obtain ⟨r, hr, _⟩ := HQ.out (n : Int) k (by omega) (by omega)
          rw [hr]
          have hop : ∀ w, (binOp .quo 26 (.float .f32 (floatOfInt .f32 (n : Int))) (.float .f32 (floatOfInt .f32 (p : Int)))).run Tryd.prog w = .ok (.float .f32 r) w := fun w => run_float_arith w .quo 26 .f32 _ _ r (by rw [← HPP.out]; exact hr)
          clear hr HQ
          go_enter Tryd.func7, Tryd.ntmps7
          go_wp2_with fail
          refine (HP.out _).mono ?_
          rintro e w1 ⟨rfl, rfl⟩
          go_wp2_with fail
          refine (HC.out _).mono ?_
          rintro e w1 ⟨rfl, b1⟩
          have B1 := Lib.hid b1
          have P1 := Lib.hid (HT.out.below b1 HG.out)
          have G1 : Hid (1 < w1.heap.size) := Lib.hid (Nat.lt_of_lt_of_le HG.out b1.size)
          clear b1
          go_wp2_with fail
          refine (HD.out _).mono ?_
          rintro e w2 ⟨rfl, rfl⟩
          simp only [digR]
          go_wp2_with fail
          refine (HV.out _ P1.out G1.out).mono ?_
          rintro e w3 ⟨rfl, b3⟩
          have B3 := Lib.hid (B1.out.trans (b3.mono B1.out.size))
          clear b3
          simp only [byR]
          rw [HPP.out]
          go_wp2
          go_ret2
          exact ⟨rfl, B3.out⟩
end Go.Proofs.YtaihooljphkpeaaDoor
