/-
  CONTRACTS: markText; marks of texts.
-/
import Derived.Test.YtdcphheeapmjcaaIcm
namespace Go.Proofs.Ytdcphheeapmjcaa
open Go.ChangeShapes Go.WideShapes Go.ChangeAt Go.RowKit Go.Deep
open Wd
/-- the digits of a number -/
def digs (k : Nat) : List UInt8 := if h : k = 0 then [] else digs (k / 10) ++ [UInt8.ofNat (48 + k % 10)]
termination_by k
decreasing_by omega
theorem digs_zero : digs 0 = [] := by rw [digs, dif_pos rfl]
theorem digs_pos {k : Nat} (h : 0 < k) : digs k = digs (k / 10) ++ [UInt8.ofNat (48 + k % 10)] := by
  conv => lhs; rw [digs]
  rw [dif_neg (by omega)]
theorem digs_len (k : Nat) : (digs k).length ≤ k := by
  induction k using Nat.strongRecOn with
  | ind k ih =>
    by_cases h : k = 0
    · subst h; rw [digs_zero]; exact Nat.le_refl _
    · rw [digs_pos (by omega), List.length_append]
      have := ih (k / 10) (by omega)
      simp
      omega
def mt (k : Nat) : List UInt8 := 109 :: digs k
set_option maxRecDepth 20000 in
set_option maxHeartbeats 2000000 in
theorem mt_any (k : Nat) (h1 : 1 ≤ k) (hk : k ≤ 8000000) (w : World) :
    Calls Try.prog 73 #[.int .i64 (k : Int)] w fun e w' => e = .returned (.string (txt (mt k))) ∧ Below w.heap.size w w' := by
  have t0 : decide ((k : Int) ≤ 0) = false := by simp; omega
  have hk' : (k : Int) ≤ 8000000 := by omega
  have DL := Lib.hid (digs_len k)
  have K1 := Lib.hid hk
  clear hk
  go_enter Try.func73, Try.ntmps73
  go_wp2
  go_loopw [0, 3] (fun x o wr => ∃ (j : Nat) (out : List UInt8), x = .int .i64 (j : Int) ∧ o = .string (txt out) ∧ digs j ++ out = digs k ∧ j ≤ 8000000 ∧ Below w.heap.size w wr) (fun x _ _ => (intOf x).toNat)
  case atStart => exact ⟨k, [], rfl, rfl, by simp, K1.out, Below.refl _ _⟩
  case round =>
    obtain ⟨j, out, rfl, rfl, hd, hj, hB⟩ := hrel
    have HB := Lib.hid hB
    have HJ := Lib.hid hj
    have hl : out.length ≤ 8000000 := by
      have h1 := DL.out
      have h2 := K1.out
      rw [← hd, List.length_append] at h1
      omega
    have hs := txt_size out
    have hl' : (out.length : Int) ≤ 8000000 := by omega
    by_cases h0 : 0 < j
    · have t2 : decide ((0 : Int) < (j : Int)) = true := by simp; omega
      obtain ⟨m, hm⟩ : ∃ m, m = j % 10 := ⟨_, rfl⟩
      obtain ⟨d, hdv⟩ : ∃ d, d = j / 10 := ⟨_, rfl⟩
      have hm9 : m < 10 := by omega
      obtain ⟨c, hc⟩ : ∃ c, c = UInt8.ofNat (48 + m) := ⟨_, rfl⟩
      have hcn : (c.toNat : Int) = 48 + (m : Int) := by
        rw [hc, UInt8.toNat_ofNat']
        omega
      have q1 : Int.tmod (j : Int) 10 = (m : Int) := by rw [Int.tmod_eq_emod_of_nonneg (by omega)]; omega
      have q2 : Int.tdiv (j : Int) 10 = (d : Int) := by rw [Int.tdiv_eq_ediv_of_nonneg (by omega)]; omega
      have hd8 : (d : Int) ≤ 800000 := by omega
      have ND : Hid (digs d ++ ([c] ++ out) = digs k) := Lib.hid (by
        rw [← hd, digs_pos h0, ← hm, ← hdv, ← hc, List.append_assoc])
      have w8 : IntKind.u8.wrap (48 + (m : Int)) = 48 + (m : Int) := by rw [IntKind.wrap_u8]; omega
      have hcv : ∀ w : World, (convert 47 9 (.slice (some ⟨w.heap.size, 0, none⟩) 1 1)).run Try.prog (w.alloc (.cells #[.int .u8 (48 + (m : Int))] 5)) = .ok (.string (txt [c])) (w.alloc (.cells #[.int .u8 (48 + (m : Int))] 5)) := fun w => by
        rw [← hcn]
        exact own_string (l := [c]) (base := w.heap.size) (World.ownsRow_lit w #[.int .u8 (c.toNat : Int)] 1 (Nat.le_refl _) (by unfold maxLen; omega) rfl)
      have hs1 : (txt [c]).size = 1 := txt_size [c]
      have DJ : Hid (d < j) := Lib.hid (by omega)
      have D8 : Hid (d ≤ 8000000) := Lib.hid (by omega)
      have TA := Lib.hid (txt_app [c] out)
      have m9 : (m : Int) < 10 := by omega
      clear hc hm hdv hd hcn hm9
      go_wp2
      go_roundw
      case rel => exact ⟨d, [c] ++ out, rfl, by rw [TA.out], ND.out, D8.out, HB.out.alloc HB.out.size _⟩
      case measure => have := DJ.out; simp [intOf]; omega
    · obtain rfl : j = 0 := by omega
      rw [digs_zero, List.nil_append] at hd
      have HD := Lib.hid hd
      clear hd h0
      have TA := Lib.hid (txt_app [109] out)
      go_wp2
      go_ret
      exact ⟨by unfold mt; rw [← HD.out]; exact congrArg (fun t => Ending.returned (Value.string t)) TA.out, HB.out⟩
end Go.Proofs.Ytdcphheeapmjcaa
