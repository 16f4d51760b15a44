/-
  CONTRACTS: the specification's inverse and reduced word.
-/
import Derived.Test.YtdcphheeapmjcaaWdo
namespace Go.Proofs.Ytdcphheeapmjcaa
open Go.ChangeShapes Go.WideShapes Go.ChangeAt Go.RowKit
open Wd
theorem inv_at (l : List UInt8) (j : Nat) (h : j < l.length) : (inv l).take (j + 1) = (inv l).take j ++ [oth (l[l.length - 1 - j]'(by omega))] := by
  rw [take_snoc (inv l) j (by rw [inv_length]; exact h)]
  congr 2
  simp [inv, List.getElem_reverse]
def StrPost (r : List UInt8) (w : World) (e : Ending) (w' : World) : Prop := e = .returned (.string (txt r)) ∧ Below w.heap.size w w'
theorem own_start (w : World) : OwnB w.heap.size (.slice (some ⟨w.heap.size, 0, none⟩) 0 0) [] (w.alloc (.cells #[] 5)) := World.ownsRow_made (size := 1) w #[] 0 (Nat.le_refl _) (by unfold maxLen; omega) rfl
set_option maxHeartbeats 1000000 in
theorem inverse_any (l : List UInt8) (hl : ∀ c ∈ l, isL c = true) (hm : l.length ≤ 4000000) (w : World) :
    Calls Try.prog 100 #[.string (txt l)] w (StrPost (inv l) w) := by
  have hs := txt_size l
  have hm' : (l.length : Int) ≤ 4000000 := by omega
  have HL := Lib.hid hl
  have O0 := Lib.hid (own_start w)
  have B0 : Hid (Below w.heap.size w (w.alloc (.cells #[] 5))) := Lib.hid ((Below.refl _ _).alloc (Nat.le_refl _) _)
  clear hl
  go_enter Try.func100, Try.ntmps100
  go_wp2
  go_loopw [3, 4] (fun v i wr => ∃ j : Nat, j ≤ l.length ∧ i = .int .i64 ((l.length : Int) - 1 - (j : Int)) ∧ OwnB w.heap.size v ((inv l).take j) wr ∧ Below w.heap.size w wr) (fun _ i _ => (intOf i + 1).toNat)
  case atStart => exact ⟨0, Nat.zero_le _, by go_num, O0.out, B0.out⟩
  case round =>
    obtain ⟨j, hj, rfl, ho, hb⟩ := hrel
    have O := Lib.hid ho
    have B := Lib.hid hb
    clear ho hb O0 B0
    by_cases hlt : j < l.length
    · obtain ⟨k, hk⟩ : ∃ k : Nat, k = l.length - 1 - j := ⟨_, rfl⟩
      have e : (l.length : Int) - 1 - (j : Int) = (k : Int) := by omega
      have hk2 : k < l.length := by omega
      have hi := idx_txt l k hk2
      have NI : Hid ((inv l).take (j + 1) = (inv l).take j ++ [oth l[k]]) := Lib.hid (by subst hk; exact inv_at l j hlt)
      have IL : Hid (isL l[k] = true) := Lib.hid (HL.out _ (List.getElem_mem hk2))
      have LE : Hid (((inv l).take j).length ≤ 100000000) := Lib.hid (by rw [List.length_take, inv_length]; omega)
      have EE : Hid ((k : Int) - 1 = (l.length : Int) - 1 - ((j + 1 : Nat) : Int)) := Lib.hid (by omega)
      have hk' : (k : Int) ≤ 4000000 := by omega
      rw [e]
      clear e hk
      generalize l[k] = c at hi NI IL
      go_wp2_with (first | (go_at_call 112; refine (other_any _ IL.out _).mono ?_; rintro e w' ⟨rfl, rfl⟩) | (refine wpList_append_byte rfl (.tmp 13) (.tmp 18) rfl w.heap.size _ _ (oth c) rfl (O.out.alloc _) wr.heap.size rfl (by simp) LE.out (by have := B.out.size; simp; omega) w (B.out.alloc B.out.size _) ?_; intro v2 w2 o2 b2))
      have O2 : Hid (OwnB w.heap.size v2 ((inv l).take (j + 1)) w2) := Lib.hid (by rw [NI.out]; exact o2)
      have B2 := Lib.hid b2
      clear o2 b2
      go_roundw
      case rel => exact ⟨j + 1, by omega, by rw [EE.out], O2.out, B2.out⟩
      case measure => simp [intOf]
    · obtain rfl : j = l.length := by omega
      have hc := own_string O.out
      have R : Hid (StrPost (inv l) w (.returned (.string ⟨((inv l).take l.length).toArray⟩)) wr) := Lib.hid ⟨by
        rw [List.take_of_length_le (by rw [inv_length]; exact Nat.le_refl _)]; rfl, B.out⟩
      have e : (l.length : Int) - 1 - (l.length : Int) = -1 := by omega
      rw [e]
      clear e
      go_wp2
      go_ret
      exact R.out
end Go.Proofs.Ytdcphheeapmjcaa
