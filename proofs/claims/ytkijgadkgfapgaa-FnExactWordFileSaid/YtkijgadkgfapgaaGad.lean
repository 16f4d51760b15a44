/-
  SEVERAL TEXTS IN ONE: XSr,XZk
-/
import Derived.Test.YtkijgadkgfapgaaGac
import Derived.Test.YtkijgadkgfapgaaGab
import Derived.Deep.Slices
import Derived.ChangeOld
import Derived.Carry
import Derived.LoopTactic
import Derived.Lib.Hide
import Derived.BigQuiet
import Derived.Deep.QuietTactic
import Derived.Test.YtkijgadkgfapgaaZj
/-
  ROWS OF TEXTS: what came in, opened; how long it is (szStringS), copied (toStringS), compared (eqStringS).
-/
namespace Go.Proofs.Ytkijgadkgfapgaa
open Go.ChangeShapes Go.WideShapes Go.ChangeAt Go.RowKit Go.Deep
/-- a slice of texts, in a block below B -/
def SRow (B : Nat) (w : World) (a : Option Addr) (L : List (List UInt8)) : Prop :=
  L.length = 0 ∨ ∃ b off, a = some ⟨b, off, none⟩ ∧ b < B ∧ ∀ i (h : i < L.length), w.cell? ⟨b, off + i, none⟩ = some (.string (txt L[i]))
theorem SRow.below {B : Nat} {w w' : World} {a : Option Addr} {L : List (List UInt8)} (h : SRow B w a L) (hb : Below B w w') : SRow B w' a L := by
  rcases h with h | ⟨b, off, h1, h2, h3⟩
  · exact .inl h
  · exact .inr ⟨b, off, h1, h2, fun i hi => by rw [hb.cell (p := ⟨b, off + i, none⟩) h2]; exact h3 i hi⟩
theorem SRow.up {B B' : Nat} {w : World} {a : Option Addr} {L : List (List UInt8)} (h : SRow B w a L) (hb : B ≤ B') : SRow B' w a L := by
  rcases h with h | ⟨b, off, h1, h2, h3⟩
  · exact .inl h
  · exact .inr ⟨b, off, h1, by omega, h3⟩
theorem SRow.later {w w' : World} {a : Option Addr} {L : List (List UInt8)} (h : SRow w.heap.size w a L) (hb : Below w.heap.size w w') : SRow w'.heap.size w' a L := (h.below hb).up hb.size
theorem SRow.at {B : Nat} {w : World} {a : Option Addr} {L : List (List UInt8)} (h : SRow B w a L) {i : Nat} (hi : i < L.length) : ∃ b off, a = some ⟨b, off, none⟩ ∧ b < B ∧ w.cell? ⟨b, off + i, none⟩ = some (.string (txt L[i])) := by
  rcases h with h | ⟨b, off, h1, h2, h3⟩
  · omega
  · exact ⟨b, off, h1, h2, h3 i hi⟩
/-- texts whose lengths are numbers -/
def SLen (L : List (List UInt8)) : Prop := L.length ≤ 9223372036854775807 ∧ ∀ i (h : i < L.length), L[i].length ≤ 9223372036854775807
theorem srow_of {H : Type} {enc : TypeId × Value → H} {W : World} {a : Option Addr} {len cap : Nat} {d : DataW H} {ps : List MemPlace} {spare : Nat → Bool} {base : Nat} {held : Bool}
    (h : DataW.Trod enc Try.prog W base spare held 64 (.slice a len cap) d ps) : ∃ L : List (List UInt8), L.length = len ∧ SRow W.heap.size W a L ∧ SLen L := by
  obtain ⟨fuel, hf⟩ := h
  rcases open_slice1 Try.underlying64 (by kernel_rfl) hf with ⟨hcs, _⟩ | ⟨x, l, c, m, n, V, D, Pl, hcs, _, hl, hmax, hm, _, hcell⟩
  · simp [Value.cells] at hcs
    obtain ⟨rfl, rfl, rfl⟩ := hcs
    exact ⟨[], rfl, .inl rfl, by simp [SLen]⟩
  · simp [Value.cells] at hcs
    obtain ⟨rfl, rfl, rfl⟩ := hcs
    have hlm : len ≤ m := by rw [hm]; split <;> omega
    have key : ∀ i, i < len → ∃ s : ByteArray, V i = .string s ∧ s.size ≤ maxLen := fun i hi => by
      obtain ⟨s, e, -, hs⟩ := DataW.trod_string Try.underlying9 (hcell i (by omega)).2
      exact ⟨s, (List.cons.inj e).1, hs⟩
    let f : Nat → List UInt8 := fun i => match V i with | .string s => s.data.toList | _ => []
    have hf' : ∀ i, i < len → V i = .string (txt (f i)) ∧ (f i).length ≤ 9223372036854775807 := fun i hi => by
      obtain ⟨s, e, hs⟩ := key i hi
      have ef : f i = s.data.toList := by show (match V i with | .string s => s.data.toList | _ => []) = _; rw [e]
      rw [ef, e]
      refine ⟨by rw [txt_list], ?_⟩
      have : s.data.toList.length = s.size := by simp
      rw [this]
      unfold maxLen at hs
      exact hs
    refine ⟨(List.range len).map f, by simp, ?_, ?_⟩
    · by_cases h0 : len = 0
      · exact .inl (by simpa using h0)
      · right
        have hc0 := (hcell 0 (by omega)).1
        obtain ⟨b, off, spot⟩ := x
        have hspot : spot = none := by simpa [Addr.add] using World.cell?_spot hc0
        subst hspot
        refine ⟨b, off, rfl, ?_, fun i hi => ?_⟩
        · unfold World.cell? at hc0
          split at hc0
          · rename_i hb; exact (Array.getElem?_eq_some_iff.1 hb).1
          · cases hc0
        · have hi' : i < len := by simpa using hi
          have := (hcell i (by omega)).1
          rw [Go.WideShapes.add_plain, (hf' i hi').1] at this
          simpa using this
    · refine ⟨by simp; unfold maxLen at hmax; omega, fun i hi => ?_⟩
      have hi' : i < len := by simpa using hi
      simpa using (hf' i hi').2
/-- few texts, and none too long -/
def SFew (L : List (List UInt8)) : Prop := L.length ≤ 1048576 ∧ ∀ i (h : i < L.length), L[i].length ≤ 1048576
set_option maxHeartbeats 1000000 in
theorem sz_any (a : Option Addr) (cap : Nat) (L : List (List UInt8)) (hL : SLen L) (w : World) (h : SRow w.heap.size w a L) :
    Calls Try.prog 39 #[.slice a L.length cap, .int .i64 1048576] w fun e w' => (∃ z : Int, e = .returned (.int .i64 z) ∧ z ≤ 1048576 ∧ (0 ≤ z → SFew L)) ∧ w = w' := by
  have H := Lib.hid h
  have HL := Lib.hid hL.2
  have hl := hL.1
  have hl' : (L.length : Int) ≤ 9223372036854775807 := by omega
  clear h hL
  by_cases hm : L.length ≤ 1048576
  · have t1 : decide (1048576 - (L.length : Int) < 0) = false := by simp; omega
    have HM := Lib.hid hm
    have hm' : (L.length : Int) ≤ 1048576 := by omega
    clear hl hl'
    go_enter Try.func39, Try.ntmps39
    go_wp2
    go_loopw [1, 5] (fun x i wr => ∃ (k : Nat) (z : Int), k ≤ L.length ∧ i = .int .i64 (k : Int) ∧ x = .int .i64 z ∧ 0 ≤ z ∧ z ≤ 1048576 ∧ (∀ i (h : i < L.length), i < k → L[i].length ≤ 1048576) ∧ w = wr) (fun _ i _ => L.length - (intOf i).toNat)
    case atStart => exact ⟨0, _, Nat.zero_le _, rfl, rfl, by omega, by omega, fun i _ h => by omega, rfl⟩
    case round =>
      obtain ⟨k, z, hk, rfl, rfl, z0, z1, hall, rfl⟩ := hrel
      have ALL := Lib.hid hall
      clear hall
      by_cases hlt : k < L.length
      · have t2 : decide (k < L.length) = true := by simpa using hlt
        obtain ⟨b, off, rfl, hb, hc⟩ := H.out.at hlt
        have hs := txt_size L[k]
        have hlk := HL.out k hlt
        have hk' : (k : Int) < (L.length : Int) := by omega
        have HK := Lib.hid hlt
        have hlk' : (L[k].length : Int) ≤ 9223372036854775807 := by omega
        have LK : Hid (∀ q : Nat, L[k].length ≤ q → q ≤ 1048576 → ∀ i (h : i < L.length), i < k + 1 → L[i].length ≤ 1048576) := Lib.hid fun q h1 h2 i hi hik => by
          by_cases e : i = k
          · subst e; omega
          · exact ALL.out i hi (by omega)
        generalize L[k].length = q at hs hlk hlk' LK
        obtain ⟨tx, htx⟩ : ∃ tx, txt (L[k]'hlt) = tx := ⟨_, rfl⟩
        rw [htx] at hc hs
        clear htx
        by_cases hz : z - (q : Int) < 0
        · have t3 : decide (z - (q : Int) < 0) = true := by simpa using hz
          clear hlt hk
          go_wp2
          go_ret
          exact ⟨⟨_, rfl, by omega, fun h => absurd h (by omega)⟩, rfl⟩
        · have t3 : decide (z - (q : Int) < 0) = false := by simpa using hz
          clear hlt hk
          go_wp2
          go_roundw
          case rel => exact ⟨k + 1, _, HK.out, by go_num, rfl, by omega, by omega, LK.out q (Nat.le_refl _) (by omega), trivial⟩
          case measure => have := HK.out; simp [intOf]; omega
      · obtain rfl : k = L.length := by omega
        clear hlt hk
        go_wp2
        go_ret
        exact ⟨⟨_, rfl, z1, fun _ => ⟨HM.out, fun i hi => ALL.out i hi hi⟩⟩, rfl⟩
  · have t1 : decide (1048576 - (L.length : Int) < 0) = true := by simp; omega
    clear hl
    go_enter Try.func39, Try.ntmps39
    go_wp2
    go_ret
    exact ⟨⟨-1, rfl, by omega, fun h => absurd h (by omega)⟩, rfl⟩
/-- the first k of n texts, in a block of their own -/
def strC (L : List (List UInt8)) (k : Nat) : Array Value := ((List.range L.length).map fun i => Value.string (if i < k then txt (L[i]?.getD []) else ⟨#[]⟩)).toArray
theorem strC_size (L : List (List UInt8)) (k : Nat) : (strC L k).size = L.length := by simp [strC]
theorem strC_get (L : List (List UInt8)) (k i : Nat) (h : i < L.length) : (strC L k)[i]? = some (.string (if i < k then txt (L[i]?.getD []) else ⟨#[]⟩)) := by simp [strC, h]
theorem strC_set (L : List (List UInt8)) (k : Nat) (h : k < L.length) : (strC L k).setIfInBounds k (.string (txt L[k])) = strC L (k + 1) := by
  apply Array.ext_getElem?
  intro j
  rw [Array.getElem?_setIfInBounds]
  by_cases hj : j < L.length
  · rw [strC_get L (k + 1) j hj]
    by_cases e : k = j
    · subst e
      rw [if_pos rfl, if_pos (by rw [strC_size]; exact hj), if_pos (by omega), List.getElem?_eq_getElem hj]; rfl
    · rw [if_neg e, strC_get L k j hj]
      by_cases h2 : j < k
      · rw [if_pos h2, if_pos (by omega)]
      · rw [if_neg h2, if_neg (by omega)]
  · rw [Array.getElem?_eq_none (by rw [strC_size]; omega)]
    rw [if_neg (by omega), Array.getElem?_eq_none (by rw [strC_size]; omega)]
theorem strC_made (L : List (List UInt8)) : madeCells #[.string ⟨#[]⟩] L.length = strC L 0 := by
  apply Array.ext_getElem?
  intro i
  by_cases hi : i < L.length
  · rw [strC_get L 0 i hi, if_neg (by omega)]
    simp [madeCells, hi, Nat.mod_one]
  · rw [Array.getElem?_eq_none (by simp [madeCells]; omega), Array.getElem?_eq_none (by rw [strC_size]; omega)]
theorem info_str : (Try.prog.info? 9).map (fun i => (i.zero, i.size, i.bytes)) = some (some (.string ⟨#[]⟩), 1, 16) := by kernel_rfl
theorem make_strs (L : List (List UInt8)) (h : L.length ≤ 1048576) (w : World) : (Instr.makeSlice 64 (.int .i64 (L.length : Int)) (.int .i64 (L.length : Int))).run Try.prog w = .ok (.slice (some ⟨w.heap.size, 0, none⟩) L.length L.length) (w.alloc (.cells (strC L 0) 9)) := by
  rw [← strC_made]
  exact run_make_row' 64 9 (.string ⟨#[]⟩) 16 Try.underlying64 info_str rfl .i64 .i64 L.length (by omega) (by omega) w
/-- a copy: a row in a block of its own -/
def CopyPost (L : List (List UInt8)) (w : World) (e : Ending) (w' : World) : Prop := ∃ g, e = .returned (.slice (some ⟨g, 0, none⟩) L.length L.length) ∧ w.heap.size ≤ g ∧ w'.heap[g]? = some (.cells (strC L L.length) 9 (0, 0)) ∧ Below w.heap.size w w'
theorem setAt {w : World} {g : Nat} {A : Array Value} {t : TypeId} (h : w.heap[g]? = some (.cells A t (0, 0))) (x : Nat) (v : Value) : (w.setCell ⟨g, x, none⟩ v).heap[g]? = some (.cells (A.setIfInBounds x v) t (0, 0)) := by
  simp [World.setCell, Array.getElem?_modify, h]
theorem strC_row {L : List (List UInt8)} {w : World} {g : Nat} (h : w.heap[g]? = some (.cells (strC L L.length) 9 (0, 0))) : SRow w.heap.size w (some ⟨g, 0, none⟩) L :=
  .inr ⟨g, 0, rfl, (Array.getElem?_eq_some_iff.1 h).1, fun i hi => by
    rw [Nat.zero_add]
    refine (Lib.cell_of_heap h i).trans ((strC_get _ _ _ hi).trans ?_)
    rw [if_pos hi, List.getElem?_eq_getElem hi]; rfl⟩
set_option maxHeartbeats 1000000 in
theorem copy_any (a : Option Addr) (cap : Nat) (L : List (List UInt8)) (hL : L.length ≤ 1048576) (w : World) (h : SRow w.heap.size w a L) :
    Calls Try.prog 41 #[.slice a L.length cap] w (CopyPost L w) := by
  have H := Lib.hid h
  have hl' : (L.length : Int) ≤ 1048576 := by omega
  have hmk := make_strs L hL
  clear h hL
  go_enter Try.func41, Try.ntmps41
  go_wp2
  go_loopw [4] (fun i wr => ∃ k : Nat, k ≤ L.length ∧ i = .int .i64 (k : Int) ∧ wr.heap[w.heap.size]? = some (.cells (strC L k) 9 (0, 0)) ∧ Below w.heap.size w wr) (fun i _ => L.length - (intOf i).toNat)
  case atStart => exact ⟨0, Nat.zero_le _, rfl, heap_alloc_new w _, (Below.refl _ w).alloc (Nat.le_refl _) _⟩
  case round =>
    obtain ⟨k, hk, rfl, hg, hB⟩ := hrel
    have HG := Lib.hid hg
    have HB := Lib.hid hB
    clear hg hB
    by_cases hlt : k < L.length
    · have t2 : decide (k < L.length) = true := by simpa using hlt
      have hk' : (k : Int) < (L.length : Int) := by omega
      obtain ⟨b, off, rfl, hb, hc⟩ := H.out.at hlt
      have hc2 : wr.cell? ⟨b, off + k, none⟩ = some (.string (txt L[k])) := (HB.out.cell (p := ⟨b, off + k, none⟩) hb).trans hc
      have hg : ∃ x, wr.cell? ⟨w.heap.size, k, none⟩ = some (.string x) := ⟨_, (Lib.cell_of_heap HG.out k).trans (strC_get _ _ _ hlt)⟩
      obtain ⟨x, hgk⟩ := hg
      have hfk : wr.frozen? ⟨w.heap.size, k, none⟩ = false := Lib.frozen_of_heap HG.out k
      have ST := Lib.hid (strC_set L k hlt)
      have HK := Lib.hid hlt
      obtain ⟨tx, htx⟩ : ∃ tx, txt (L[k]'hlt) = tx := ⟨_, rfl⟩
      rw [htx] at hc2 ST
      clear hc htx hlt hk
      go_wp2
      go_roundw
      case rel => exact ⟨k + 1, HK.out, by go_num, by rw [setAt HG.out, ST.out], HB.out.setCell (p := ⟨w.heap.size, _, none⟩) (Nat.le_refl _) _⟩
      case measure => have := HK.out; simp [intOf]; omega
    · obtain rfl : k = L.length := by omega
      clear hlt hk
      go_wp2
      go_ret
      exact ⟨_, rfl, Nat.le_refl _, HG.out, HB.out⟩
set_option maxHeartbeats 1000000 in
theorem eqs_any (a a2 : Option Addr) (cap cap2 : Nat) (L : List (List UInt8)) (hL : L.length ≤ 1048576) (w : World) (h : SRow w.heap.size w a L) (h2 : SRow w.heap.size w a2 L) :
    Calls Try.prog 43 #[.slice a L.length cap, .slice a2 L.length cap2] w fun e w' => e = .returned (.bool true) ∧ Below w.heap.size w w' := by
  have H := Lib.hid h
  have H2 := Lib.hid h2
  have hl' : (L.length : Int) ≤ 1048576 := by omega
  clear h h2 hL
  go_enter Try.func43, Try.ntmps43
  go_wp2
  go_loopw [5] (fun i wr => ∃ k n : Nat, k ≤ L.length ∧ i = .int .i64 (k : Int) ∧ wr = w.drewN n) (fun i _ => L.length - (intOf i).toNat)
  case atStart => exact ⟨0, 0, Nat.zero_le _, rfl, rfl⟩
  case round =>
    obtain ⟨k, n, hk, rfl, hw⟩ := hrel
    have W := Lib.hid hw
    by_cases hlt : k < L.length
    · have t2 : decide (k < L.length) = true := by simpa using hlt
      have hk' : (k : Int) < (L.length : Int) := by omega
      obtain ⟨b, off, rfl, hb, hc⟩ := H.out.at hlt
      obtain ⟨b2, off2, rfl, hb2, hc2⟩ := H2.out.at hlt
      have c1 : wr.cell? ⟨b, off + k, none⟩ = some (.string (txt L[k])) := by rw [hw]; exact hc
      have c2 : wr.cell? ⟨b2, off2 + k, none⟩ = some (.string (txt L[k])) := by rw [hw]; exact hc2
      have HK := Lib.hid hlt
      obtain ⟨tx, htx⟩ : ∃ tx, txt (L[k]'hlt) = tx := ⟨_, rfl⟩
      rw [htx] at c1 c2
      clear hc hc2 htx hlt hk hw
      go_wp2
      go_quiet (fail)
      go_wp2
      go_roundw
      case rel => exact ⟨k + 1, _, HK.out, by go_num, by rw [W.out, World.drewN_drewN]⟩
      case measure => have := HK.out; simp [intOf]; omega
    · obtain rfl : k = L.length := by omega
      have B : Hid (Below w.heap.size w wr) := Lib.hid (by rw [hw]; exact ⟨rfl, rfl, rfl, Nat.le_refl _, fun _ _ => rfl⟩)
      clear hw W hlt hk
      go_wp2
      go_ret
      exact ⟨rfl, B.out⟩
end Go.Proofs.Ytkijgadkgfapgaa
/-
  CONTRACTS: slices of texts that come in, as the laws look at them; the copy.
-/
namespace Go.Proofs.Ytkijgadkgfapgaa
open Go.ChangeShapes Go.WideShapes Go.ChangeAt Go.RowKit
open Wd
theorem StR.below {B B' : Nat} {w w' : World} {a : Option Addr} {n : Nat} {f : Nat → List UInt8} (h : StR B w a n f) (hb : Below B w w') (hB : B ≤ B') : StR B' w' a n f := by
  rcases h with h | ⟨g, off, ha, hg, hc⟩
  · exact .inl h
  · exact .inr ⟨g, off, ha, by omega, fun j hj => (hb.cell (p := ⟨g, off + j, none⟩) hg).trans (hc j hj)⟩
theorem str_row {B : Nat} {w : World} {a : Option Addr} {L : List (List UInt8)} (h : SRow B w a L) : StR B w a L.length fun j => L[j]?.getD [] := by
  rcases h with h | ⟨g, off, ha, hg, hc⟩
  · exact .inl h
  · exact .inr ⟨g, off, ha, hg, fun j hj => by
      show _ = some (Value.string (txt (L[j]?.getD [])))
      rw [hc j hj, List.getElem?_eq_getElem hj]; rfl⟩
theorem few_row {L : List (List UInt8)} (h : SFew L) : L.length ≤ 1048576 ∧ ∀ i, i < L.length → ((fun j => L[j]?.getD []) i).length ≤ 1048576 :=
  ⟨h.1, fun i hi => by
    show (L[i]?.getD []).length ≤ 1048576
    rw [List.getElem?_eq_getElem hi]
    exact h.2 i hi⟩
theorem toT_any {a : Option Addr} {cap n : Nat} {f : Nat → List UInt8} {B : Nat} {w : World} (hB : B ≤ w.heap.size) (h : StR B w a n f) (hl : n ≤ 1048576) :
    Calls Try.prog 41 #[.slice a n cap] w fun e w' => ∃ v, e = .returned v ∧ PR 1 w.heap.size w'.heap.size w' v n (FSt f) ∧ Below w.heap.size w w' := by
  have hL : ((List.range n).map f).length = n := by simp
  have hr : SRow w.heap.size w a ((List.range n).map f) := by
    rcases h with h | ⟨g, off, ha, hg, hc⟩
    · exact .inl (by rw [hL]; exact h)
    · refine .inr ⟨g, off, ha, by omega, fun i hi => ?_⟩
      rw [hc i (by rw [hL] at hi; exact hi)]
      simp
  have C := copy_any a cap ((List.range n).map f) (by rw [hL]; exact hl) w hr
  rw [hL] at C
  refine C.mono ?_
  rintro e w' ⟨g, he, hg, hh, hb⟩
  rw [hL] at he hh
  refine ⟨_, he, ⟨_, n, rfl, .inr ⟨g, rfl, hg, (Array.getElem?_eq_some_iff.1 hh).1, Nat.le_refl _, fun j hj => ?_, fun j _ => Lib.frozen_of_heap hh j⟩⟩, hb⟩
  have hj' : j < n := by omega
  have e1 := Lib.cell_of_heap hh j
  rw [e1, strC_get _ _ _ (by rw [hL]; exact hj'), if_pos hj']
  simp [FSt, hj']
end Go.Proofs.Ytkijgadkgfapgaa
