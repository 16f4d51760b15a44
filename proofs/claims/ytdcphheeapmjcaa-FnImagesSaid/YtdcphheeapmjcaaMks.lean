/-
  CONTRACTS: markStringS, heldStringS.
-/
import Derived.Test.YtdcphheeapmjcaaMkt
namespace Go.Proofs.Ytdcphheeapmjcaa
open Go.ChangeShapes Go.WideShapes Go.ChangeAt Go.RowKit Go.Deep
open Wd
/-- the marks from k0 on -/
def mks (k0 n : Nat) : List (List UInt8) := (List.range n).map fun i => mt (k0 + i)
theorem mks_len (k0 n : Nat) : (mks k0 n).length = n := by simp [mks]
theorem mks_at (k0 n i : Nat) (h : i < n) : (mks k0 n)[i]? = some (mt (k0 + i)) := by simp [mks, h]
def mkC (R : List (List UInt8)) (k0 j : Nat) : Array Value := ((List.range R.length).map fun i => Value.string (txt (if i < j then mt (k0 + i) else R[i]?.getD []))).toArray
theorem mkC_get (R : List (List UInt8)) (k0 j i : Nat) (h : i < R.length) : (mkC R k0 j)[i]? = some (.string (txt (if i < j then mt (k0 + i) else R[i]?.getD []))) := by simp [mkC, h]
theorem mkC_size (R : List (List UInt8)) (k0 j : Nat) : (mkC R k0 j).size = R.length := by simp [mkC]
theorem mkC_start (R : List (List UInt8)) (k0 : Nat) : strC R R.length = mkC R k0 0 := by
  apply Array.ext_getElem?
  intro i
  by_cases hi : i < R.length
  · rw [strC_get _ _ _ hi, mkC_get _ _ _ _ hi, if_pos hi, if_neg (by omega)]
  · rw [Array.getElem?_eq_none (by rw [strC_size]; omega), Array.getElem?_eq_none (by rw [mkC_size]; omega)]
theorem mkC_end (R : List (List UInt8)) (k0 : Nat) : mkC R k0 R.length = strC (mks k0 R.length) R.length := by
  apply Array.ext_getElem?
  intro i
  by_cases hi : i < R.length
  · rw [strC_get _ _ _ (by rw [mks_len]; exact hi), mkC_get _ _ _ _ hi, if_pos hi, if_pos hi, mks_at _ _ _ hi]
    rfl
  · rw [Array.getElem?_eq_none (by rw [mkC_size]; omega), Array.getElem?_eq_none (by rw [strC_size, mks_len]; omega)]
theorem mkC_set (R : List (List UInt8)) (k0 j : Nat) (h : j < R.length) : (mkC R k0 j).setIfInBounds j (.string (txt (mt (k0 + j)))) = mkC R k0 (j + 1) := by
  apply Array.ext_getElem?
  intro i
  rw [Array.getElem?_setIfInBounds]
  by_cases hi : i < R.length
  · rw [mkC_get R k0 (j + 1) i hi]
    by_cases e : j = i
    · subst e
      rw [if_pos rfl, if_pos (by rw [mkC_size]; exact hi), if_pos (by omega)]
    · rw [if_neg e, mkC_get _ _ _ _ hi]
      by_cases h2 : i < j
      · rw [if_pos h2, if_pos (by omega)]
      · rw [if_neg h2, if_neg (by omega)]
  · rw [Array.getElem?_eq_none (by rw [mkC_size]; omega)]
    rw [if_neg (by omega), Array.getElem?_eq_none (by rw [mkC_size]; omega)]
set_option maxRecDepth 20000 in
set_option maxHeartbeats 2000000 in
theorem mark_any (g k0 : Nat) (R : List (List UInt8)) (hR : R.length ≤ 1048576) (h1 : 1 ≤ k0) (hk : k0 ≤ 4000000) (w : World) (h : w.heap[g]? = some (.cells (strC R R.length) 9 (0, 0))) :
    Calls Try.prog 35 #[.slice (some ⟨g, 0, none⟩) R.length R.length, .int .i64 (k0 : Int)] w fun e w' => e = .returned (.int .i64 (((k0 + R.length : Nat)) : Int)) ∧ w'.heap[g]? = some (.cells (strC (mks k0 R.length) R.length) 9 (0, 0)) ∧ Only g w w' := by
  have hn : (R.length : Int) ≤ 1048576 := by omega
  have hk0 : (k0 : Int) ≤ 4000000 := by omega
  have H1 := Lib.hid h1
  have HK0 := Lib.hid hk
  have HR := Lib.hid hR
  have H : Hid (w.heap[g]? = some (.cells (mkC R k0 0) 9 (0, 0))) := Lib.hid (by rw [← mkC_start]; exact h)
  clear h h1 hk hR
  go_enter Try.func35, Try.ntmps35
  go_wp2
  go_loopw [1, 5] (fun x i wr => ∃ j : Nat, j ≤ R.length ∧ i = .int .i64 (j : Int) ∧ x = .int .i64 (((k0 + j : Nat)) : Int) ∧ wr.heap[g]? = some (.cells (mkC R k0 j) 9 (0, 0)) ∧ Only g w wr) (fun _ i _ => R.length - (intOf i).toNat)
  case atStart => exact ⟨0, Nat.zero_le _, rfl, rfl, H.out, Only.refl _ _⟩
  case round =>
    obtain ⟨j, hj, rfl, rfl, hg, hO⟩ := hrel
    have HG := Lib.hid hg
    have HO := Lib.hid hO
    clear hg hO
    by_cases hlt : j < R.length
    · have t2 : decide (j < R.length) = true := by simpa using hlt
      have hj' : (j : Int) < (R.length : Int) := by omega
      have MT := Lib.hid (fun w => mt_any (k0 + j) (by have := H1.out; omega) (by have := HK0.out; have := HR.out; omega) w)
      have ST := Lib.hid (mkC_set R k0 j hlt)
      have GT := Lib.hid (mkC_get R k0 j j hlt)
      have HK := Lib.hid hlt
      obtain ⟨y, hy⟩ : ∃ y : Nat, k0 + j = y := ⟨_, rfl⟩
      have hy' : (y : Int) ≤ 6000000 := by omega
      have HY : Hid (((y : Int) + 1) = (((k0 + (j + 1) : Nat)) : Int)) := Lib.hid (by omega)
      rw [hy] at MT ST ⊢
      clear hy hlt hj
      go_wp2_with fail
      refine (MT.out _).mono ?_
      rintro e w1 ⟨rfl, b1⟩
      have G1 : w1.heap[g]? = some (.cells (mkC R k0 j) 9 (0, 0)) := (b1.block _ (Array.getElem?_eq_some_iff.1 HG.out).1).trans HG.out
      have G1H := Lib.hid G1
      have hgk : w1.cell? ⟨g, j, none⟩ = some (.string (txt (if j < j then mt (k0 + j) else R[j]?.getD []))) := (Lib.cell_of_heap G1 j).trans GT.out
      have hfk : w1.frozen? ⟨g, j, none⟩ = false := Lib.frozen_of_heap G1 j
      have O1 := Lib.hid (HO.out.trans (Only.of_below' b1))
      generalize txt (if j < j then mt (k0 + j) else R[j]?.getD []) = old at hgk
      clear b1 G1 MT
      go_wp2
      go_roundw
      case rel => exact ⟨j + 1, HK.out, by go_num, by rw [HY.out], by rw [setAt G1H.out, ST.out], O1.out.setCell _⟩
      case measure => have := HK.out; simp [intOf]; omega
    · obtain rfl : j = R.length := by omega
      have E := Lib.hid (mkC_end R k0)
      clear hlt hj
      go_wp2
      go_ret
      exact ⟨rfl, by rw [HG.out, E.out], HO.out⟩
theorem mark_nil (k0 : Nat) (w : World) :
    Calls Try.prog 35 #[.slice none 0 0, .int .i64 (k0 : Int)] w fun e w' => e = .returned (.int .i64 (k0 : Int)) ∧ w' = w := by
  go_enter Try.func35, Try.ntmps35
  go_wp2
  go_loopw [1, 5] (fun x i wr => i = .int .i64 0 ∧ x = .int .i64 (k0 : Int) ∧ wr = w) (fun _ _ _ => 0)
  case atStart => exact ⟨rfl, rfl, rfl⟩
  case round =>
    obtain ⟨rfl, rfl, rfl⟩ := hrel
    go_wp2
    go_ret
    exact ⟨rfl, rfl⟩
theorem held_nil (k0 : Nat) (w : World) :
    Calls Try.prog 36 #[.slice none 0 0, .int .i64 (k0 : Int)] w fun e w' => e = .returned (.int .i64 (k0 : Int)) ∧ w' = w := by
  go_enter Try.func36, Try.ntmps36
  go_wp2
  go_loopw [1, 5] (fun x i wr => i = .int .i64 0 ∧ x = .int .i64 (k0 : Int) ∧ wr = w) (fun _ _ _ => 0)
  case atStart => exact ⟨rfl, rfl, rfl⟩
  case round =>
    obtain ⟨rfl, rfl, rfl⟩ := hrel
    go_wp2
    go_ret
    exact ⟨rfl, rfl⟩
set_option maxRecDepth 20000 in
set_option maxHeartbeats 2000000 in
theorem held_any (g k0 n : Nat) (hR : n ≤ 1048576) (h1 : 1 ≤ k0) (hk : k0 ≤ 4000000) (w : World) (h : w.heap[g]? = some (.cells (strC (mks k0 n) n) 9 (0, 0))) :
    Calls Try.prog 36 #[.slice (some ⟨g, 0, none⟩) n n, .int .i64 (k0 : Int)] w fun e w' => e = .returned (.int .i64 (((k0 + n : Nat)) : Int)) ∧ Below w.heap.size w w' := by
  have hn : (n : Int) ≤ 1048576 := by omega
  have hk0 : (k0 : Int) ≤ 4000000 := by omega
  have H1 := Lib.hid h1
  have HK0 := Lib.hid hk
  have HR := Lib.hid hR
  have H := Lib.hid h
  clear h h1 hk hR
  go_enter Try.func36, Try.ntmps36
  go_wp2
  go_loopw [1, 5] (fun x i wr => ∃ j : Nat, j ≤ n ∧ i = .int .i64 (j : Int) ∧ x = .int .i64 (((k0 + j : Nat)) : Int) ∧ Below w.heap.size w wr) (fun _ i _ => n - (intOf i).toNat)
  case atStart => exact ⟨0, Nat.zero_le _, rfl, rfl, Below.refl _ _⟩
  case round =>
    obtain ⟨j, hj, rfl, rfl, hB⟩ := hrel
    have HB := Lib.hid hB
    by_cases hlt : j < n
    · have t2 : decide (j < n) = true := by simpa using hlt
      have hj' : (j : Int) < (n : Int) := by omega
      have MT := Lib.hid (fun w => mt_any (k0 + j) (by have := H1.out; omega) (by have := HK0.out; have := HR.out; omega) w)
      have hg : wr.heap[g]? = some (.cells (strC (mks k0 n) n) 9 (0, 0)) := (hB.block _ (Array.getElem?_eq_some_iff.1 H.out).1).trans H.out
      have hcell : wr.cell? ⟨g, j, none⟩ = some (.string (txt (mt (k0 + j)))) := by
        refine (Lib.cell_of_heap hg j).trans ?_
        rw [strC_get _ _ _ (by rw [mks_len]; exact hlt), if_pos hlt, mks_at _ _ _ hlt]
        rfl
      have hgs : g < wr.heap.size := (Array.getElem?_eq_some_iff.1 hg).1
      have HK := Lib.hid hlt
      obtain ⟨y, hy⟩ : ∃ y : Nat, k0 + j = y := ⟨_, rfl⟩
      have hy' : (y : Int) ≤ 6000000 := by omega
      have HY : Hid (((y : Int) + 1) = (((k0 + (j + 1) : Nat)) : Int)) := Lib.hid (by omega)
      rw [hy] at MT hcell ⊢
      have TQ := txt_ne (mt y) (mt y)
      have KA : ∀ w', Below wr.heap.size wr w' → Below wr.heap.size wr w' ∧ w'.cell? ⟨g, j, none⟩ = some (.string (txt (mt y))) := fun w' hbw => ⟨hbw, (hbw.cell (p := ⟨g, j, none⟩) hgs).trans hcell⟩
      generalize mt y = x at *
      have hxx : decide (x = x) = true := by simp
      clear hy hlt hj hg hB
      go_wp2
      go_region_held3 (fun w' => Below wr.heap.size wr w' ∧ w'.cell? ⟨g, j, none⟩ = some (.string (txt x)))
        (first | exact KA _ (Below.refl _ _).drew | exact KA _ (Below.trans (by assumption) (Below.mono (by assumption) (Below.size (by assumption)))) | exact KA _ ((Below.refl _ _).drew.trans (Below.mono (by assumption) (by simp))))
        (first | (go_at_call 73; refine (MT.out _).mono ?_; rintro e w' ⟨rfl, hb⟩))
      all_goals
        rename_i hH
        have HH : Hid (Below w.heap.size w w') := Lib.hid (HB.out.trans (hH.1.mono HB.out.size))
        clear hH hb hcell KA
        go_wp2
        go_roundw
        case rel => exact ⟨j + 1, HK.out, by go_num, by rw [HY.out], HH.out⟩
        case measure => have := HK.out; simp [intOf]; omega
    · obtain rfl : j = n := by omega
      clear hlt hj
      go_wp2
      go_ret
      exact ⟨rfl, hB⟩
end Go.Proofs.Ytdcphheeapmjcaa
