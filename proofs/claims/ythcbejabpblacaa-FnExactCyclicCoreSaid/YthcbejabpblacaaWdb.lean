/-
  CONTRACTS: the specification's core of a word; CyclicCore.
-/
import Derived.Test.YthcbejabpblacaaWds
import Derived.Test.YthcbejabpblacaaWdp
namespace Go.Proofs.Ythcbejabpblacaa
open Go.ChangeShapes Go.WideShapes Go.ChangeAt Go.RowKit
open Wd
/-- the last letter of what is left is the inverse of the first one -/
def coreC (v : List UInt8) (k : Nat) : Bool := decide (k + k + 2 ≤ v.length) && decide (v[k]? = (v[v.length - 1 - k]?).map oth)
def cutF (v : List UInt8) : Nat → Nat → Nat
  | 0, k => k
  | f + 1, k => if coreC v k then cutF v f (k + 1) else k
/-- so many letters are left out at either end -/
def cutN (v : List UInt8) : Nat := cutF v v.length 0
theorem cut_step {v : List UInt8} {k : Nat} (h : coreC v k = true) : cutF v (v.length - k) k = cutF v (v.length - (k + 1)) (k + 1) := by
  have hk : k + k + 2 ≤ v.length := by unfold coreC at h; simp at h; exact h.1
  obtain ⟨f, hf⟩ : ∃ f, v.length - k = f + 1 := ⟨v.length - k - 1, by omega⟩
  rw [hf, show v.length - (k + 1) = f by omega]
  show (if coreC v k then _ else _) = _
  rw [if_pos h]
theorem cut_stop {v : List UInt8} {k : Nat} (h : coreC v k = false) (f : Nat) : cutF v f k = k := by
  cases f with
  | zero => rfl
  | succ f => show (if coreC v k then _ else _) = _; rw [h]; rfl
def coreL (v : List UInt8) : List UInt8 := (v.drop (cutN v)).take (v.length - cutN v - cutN v)
def frontL (v : List UInt8) : List UInt8 := v.take (cutN v)
theorem txt_extract (v : List UInt8) (a b : Nat) : (txt v).extract a b = txt ((v.drop a).take (b - a)) := by
  apply ByteArray.ext
  simp [txt]
theorem slice_lh (v : List UInt8) (a b : Nat) (h1 : a ≤ b) (h2 : b ≤ v.length) (x y : Int) (hx : x = (a : Int)) (hy : y = (b : Int)) (w : World) : (Instr.slice 9 (.string (txt v)) (some (.int .i64 x)) (some (.int .i64 y)) none).run Try.prog w = .ok (.string (txt ((v.drop a).take (b - a)))) w := by
  subst hx hy
  have hs := txt_size v
  rw [run_slice_string w 9 (txt v) .i64 .i64 a b Try.underlying9 (by omega) (by omega) (by omega)]
  simp [txt_extract]
theorem slice_h (v : List UInt8) (b : Nat) (h2 : b ≤ v.length) (w : World) : (Instr.slice 9 (.string (txt v)) none (some (.int .i64 (b : Int))) none).run Try.prog w = .ok (.string (txt (v.take b))) w := by
  have hs := txt_size v
  rw [run_slice_string_h w 9 (txt v) Try.underlying9 .i64 (b : Int) (by omega) (by omega)]
  simp [txt_extract]
theorem drewN_below0' {B : Nat} {w : World} (n : Nat) : Below B w (w.drewN n) := ⟨rfl, rfl, rfl, Nat.le_refl _, fun _ _ => rfl⟩
set_option maxHeartbeats 2000000 in
theorem core_any (l : List UInt8) (hl : ∀ c ∈ l, isL c = true) (hm : l.length ≤ 4000000) (w : World) :
    Calls Try.prog 46 #[.string (txt l)] w fun e w' => e = .returned (.tuple #[.string (txt (coreL (red l))), .string (txt (frontL (red l)))]) ∧ Below w.heap.size w w' := by
  have hr := Lib.hid (reduce_any l hl hm w)
  have hvl : (red l).length ≤ 4000000 := by have := red_length l; omega
  have HV := Lib.hid (red_letters hl)
  clear hl hm
  generalize red l = v at hr hvl HV ⊢
  go_enter Try.func46, Try.ntmps46
  go_wp2_with fail
  refine hr.out.mono ?_
  rintro e w1 ⟨rfl, B⟩
  have BB := Lib.hid B
  clear B hr
  have hs := txt_size v
  have hvl' : (v.length : Int) ≤ 4000000 := by omega
  go_wp2
  go_loopw [5] (fun i wr => ∃ k : Nat, k + k ≤ v.length ∧ i = .int .i64 (k : Int) ∧ cutF v (v.length - k) k = cutN v ∧ Below w.heap.size w wr) (fun i _ => v.length - (intOf i).toNat)
  case atStart => exact ⟨0, Nat.zero_le _, rfl, rfl, BB.out⟩
  case round =>
    obtain ⟨k, hk, rfl, hcut, hB⟩ := hrel
    have HB := Lib.hid hB
    clear hB
    have CUT := Lib.hid hcut
    clear hcut
    have hkI : (k : Int) ≤ 2000000 := by omega
    have hkL : 2 * (k : Int) ≤ (v.length : Int) := by omega
    have hw1 : IntKind.i64.wrap (2 * (k : Int)) = 2 * (k : Int) := by rw [IntKind.wrap_i64]; omega
    have hw2 : IntKind.i64.wrap ((v.length : Int) - 2 * (k : Int)) = (v.length : Int) - 2 * (k : Int) := by rw [IntKind.wrap_i64]; omega
    have hw3 : IntKind.i64.wrap ((v.length : Int) - 1) = (v.length : Int) - 1 := by rw [IntKind.wrap_i64]; omega
    have hw4 : IntKind.i64.wrap ((v.length : Int) - 1 - (k : Int)) = (v.length : Int) - 1 - (k : Int) := by rw [IntKind.wrap_i64]; omega
    have hw5 : IntKind.i64.wrap ((v.length : Int) - (k : Int)) = (v.length : Int) - (k : Int) := by rw [IntKind.wrap_i64]; omega
    by_cases h2 : k + k + 2 ≤ v.length
    · have t1 : decide ((2 : Int) ≤ (v.length : Int) - 2 * (k : Int)) = true := by simp; omega
      have hk1 : k < v.length := by omega
      obtain ⟨m, hm⟩ : ∃ m, v.length - 1 - k = m := ⟨_, rfl⟩
      have hm1 : m < v.length := by omega
      have em : (v.length : Int) - 1 - (k : Int) = (m : Int) := by omega
      have hi1 := idx_txt v k hk1
      have hi2 : ∀ w, (Instr.index 9 (.string (txt v)) (.int .i64 ((v.length : Int) - 1 - (k : Int)))).run Try.prog w = .ok (.int .u8 (((v[m]'hm1).toNat : Nat) : Int)) w := fun w => by rw [em]; exact idx_txt v m hm1 w
      have IL : Hid (isL v[m] = true) := Lib.hid (HV.out _ (List.getElem_mem hm1))
      have hoq : Hid (∀ j, Calls Try.prog 63 #[.int .u8 (((v[m]'hm1).toNat : Nat) : Int)] (wr.drewN j) fun e w'' => e = .returned (.int .u8 (((oth v[m]).toNat : Nat) : Int)) ∧ ∃ m, w'' = wr.drewN m) := Lib.hid fun j =>
        (other_any _ IL.out _).mono fun e w' ⟨h1, h2⟩ => ⟨h1, j, h2.symm⟩
      have CC : Hid (coreC v k = decide (v[k] = oth v[m])) := Lib.hid (by
        unfold coreC
        rw [decide_eq_true h2, Bool.true_and, hm, List.getElem?_eq_getElem hk1, List.getElem?_eq_getElem hm1]
        simp)
      have HK := Lib.hid h2
      clear h2 hm
      generalize v[k] = c at hi1 CC
      generalize v[m] = d at hi2 IL hoq CC
      clear hk1 hm1
      by_cases hq : c = oth d
      · have t3 : (((c.toNat : Nat) : Int) == (((oth d).toNat : Nat) : Int)) = true := by rw [hq]; simp
        have CS : Hid (cutF v (v.length - (k + 1)) (k + 1) = cutN v) := Lib.hid (by rw [← CUT.out]; exact (cut_step (by rw [CC.out]; exact decide_eq_true hq)).symm)
        clear hq CC CUT em IL
        go_wp2
        go_quiet ((go_at_call 63; exact hoq.out _))
        go_wp2
        go_roundw
        case rel => exact ⟨k + 1, by have := HK.out; omega, by go_num, CS.out, HB.out.trans (drewN_below0' _)⟩
        case measure => have := HK.out; simp [intOf]; omega
      · have t3 : (((c.toNat : Nat) : Int) == (((oth d).toNat : Nat) : Int)) = false := by
          rw [beq_eq_false_iff_ne]
          exact fun h => hq (UInt8.toNat_inj.1 (by omega))
        have CS : Hid (cutN v = k) := Lib.hid (by rw [← CUT.out]; exact cut_stop (by rw [CC.out]; exact decide_eq_false hq) _)
        have hs1 := slice_lh v k (v.length - k) (by have := HK.out; omega) (by omega) (k : Int) ((v.length : Int) - (k : Int)) rfl (by have := HK.out; omega)
        have hs2 := slice_h v k (by have := HK.out; omega)
        have P : Hid (txt ((v.drop k).take (v.length - k - k)) = txt (coreL v) ∧ txt (v.take k) = txt (frontL v)) := Lib.hid (by unfold coreL frontL; rw [CS.out]; exact ⟨rfl, rfl⟩)
        rw [P.out.1] at hs1
        rw [P.out.2] at hs2
        clear hq CC CUT em IL
        go_wp2
        go_quiet ((go_at_call 63; exact hoq.out _))
        go_wp2
        go_quiet (fail)
        go_wp2
        all_goals
          go_ret2
          first | exact ⟨rfl, HB.out.trans (drewN_below0' _)⟩ | exact ⟨rfl, HB.out.trans ((drewN_below0' _).trans (drewN_below0' _))⟩
    · have t1 : decide ((2 : Int) ≤ (v.length : Int) - 2 * (k : Int)) = false := by simp; omega
      have CS : Hid (cutN v = k) := Lib.hid (by rw [← CUT.out]; exact cut_stop (by unfold coreC; rw [decide_eq_false h2]; rfl) _)
      have hs1 := slice_lh v k (v.length - k) (by omega) (by omega) (k : Int) ((v.length : Int) - (k : Int)) rfl (by omega)
      have hs2 := slice_h v k (by omega)
      have P : Hid (txt ((v.drop k).take (v.length - k - k)) = txt (coreL v) ∧ txt (v.take k) = txt (frontL v)) := Lib.hid (by unfold coreL frontL; rw [CS.out]; exact ⟨rfl, rfl⟩)
      rw [P.out.1] at hs1
      rw [P.out.2] at hs2
      clear h2 CUT
      go_wp2
      go_quiet (fail)
      go_wp2
      go_quiet (fail)
      go_wp2
      all_goals
        go_ret2
        first | exact ⟨rfl, HB.out.trans (drewN_below0' _)⟩ | exact ⟨rfl, HB.out.trans ((drewN_below0' _).trans (drewN_below0' _))⟩
end Go.Proofs.Ythcbejabpblacaa
