/-
  CONTRACT: the program's choices.
-/
import Derived.Test.YtdcphheeapmjcaaIrn
namespace Go.Proofs.Ytdcphheeapmjcaa
open Go.ChangeShapes Go.WideShapes Go.ChangeAt Go.RowKit
open Wd
/-- a row of numbers -/
def rowF (f : Nat → Int) (n : Nat) : Array Value := ((List.range n).map fun i => Value.int .i64 (f i)).toArray
theorem rowF_size (f : Nat → Int) (n : Nat) : (rowF f n).size = n := by simp [rowF]
theorem rowF_get (f : Nat → Int) (n i : Nat) (h : i < n) : (rowF f n)[i]? = some (.int .i64 (f i)) := by simp [rowF, h]
theorem rowF_congr {f g : Nat → Int} {n : Nat} (h : ∀ i, i < n → f i = g i) : rowF f n = rowF g n := by
  apply Array.ext_getElem?
  intro i
  by_cases hi : i < n
  · rw [rowF_get _ _ _ hi, rowF_get _ _ _ hi, h i hi]
  · rw [Array.getElem?_eq_none (by rw [rowF_size]; omega), Array.getElem?_eq_none (by rw [rowF_size]; omega)]
theorem rowF_set (f g : Nat → Int) (n k : Nat) (h : k < n) (hg : ∀ i, i < n → i ≠ k → g i = f i) : (rowF f n).setIfInBounds k (.int .i64 (g k)) = rowF g n := by
  apply Array.ext_getElem?
  intro i
  rw [Array.getElem?_setIfInBounds]
  by_cases hi : i < n
  · rw [rowF_get g _ _ hi]
    by_cases hk : k = i
    · subst hk; rw [if_pos rfl, if_pos (by rw [rowF_size]; exact h)]
    · rw [if_neg hk, rowF_get _ _ _ hi, hg i hi (fun e => hk e.symm)]
  · rw [Array.getElem?_eq_none (xs := rowF g n) (by rw [rowF_size]; omega), if_neg (by omega), Array.getElem?_eq_none (by rw [rowF_size]; omega)]
theorem rowF_made (n : Nat) : madeCells #[.int .i64 0] n = rowF (fun _ => 0) n := by
  apply Array.ext_getElem?
  intro i
  by_cases hi : i < n
  · rw [rowF_get _ _ _ hi]; simp [madeCells, hi, Nat.mod_one]
  · rw [Array.getElem?_eq_none (by simp [madeCells]; omega), Array.getElem?_eq_none (by rw [rowF_size]; omega)]
theorem info_i64 : (Try.prog.info? 2).map (fun i => (i.zero, i.size, i.bytes)) = some (some (.int .i64 0), 1, 8) := by kernel_rfl
theorem make_ints (n : Nat) (h : n ≤ 1048576) (w : World) : (Instr.makeSlice 65 (.int .i64 (n : Int)) (.int .i64 (n : Int))).run Try.prog w = .ok (.slice (some ⟨w.heap.size, 0, none⟩) n n) (w.alloc (.cells (rowF (fun _ => 0) n) 2)) := by
  rw [← rowF_made]
  exact run_make_row' 65 2 (.int .i64 0) 8 Try.underlying65 info_i64 rfl .i64 .i64 n (by omega) (by omega) w
/-- the number that a letter has among those that may stand in its place -/
def chAt (l : List UInt8) (i : Nat) : Int := lnum (l[i]?.getD 97) - (if 0 < i ∧ lnum (oth (l[i - 1]?.getD 97)) < lnum (l[i]?.getD 97) then 1 else 0)
/-- what choices answers: a row of its own -/
def ChPost (f : Nat → Int) (n : Nat) (w : World) (e : Ending) (w' : World) : Prop := ∃ g, e = .returned (.slice (some ⟨g, 0, none⟩) n n) ∧ w.heap.size ≤ g ∧ w'.heap[g]? = some (.cells (rowF f n) 2 (0, 0)) ∧ Below w.heap.size w w'
theorem lother_any (c : UInt8) (hc : isL c = true) (w : World) :
    Calls Try.prog 91 #[.int .u8 (lnum c)] w fun e w' => e = .returned (.int .u8 (lnum (oth c))) ∧ w = w' :=
  (callsIn_wide.1 (lother_in Fence.wide 1 trivial rfl c hc w)).mono fun e w' h => ⟨h.1, h.2.symm⟩
set_option maxRecDepth 100000 in
set_option maxHeartbeats 2000000 in
theorem choices_l_any (v : Value) (l : List UInt8) (hl : ∀ c ∈ l, isL c = true) (hm : l.length ≤ 1000000) (w : World) (hI : LRow w.heap.size w v l) :
    Calls Try.prog 86 #[v] w (ChPost (chAt l) l.length w) := by
  obtain ⟨a0, cap0, rfl⟩ := hI.len
  have HI := Lib.hid hI
  have HL := Lib.hid hl
  have hm' : (l.length : Int) ≤ 1000000 := by omega
  have hmk := make_ints l.length (by omega)
  have old : ∀ (A : Array Value) (b j : Nat) (x : Value), b < w.heap.size → w.cell? ⟨b, j, none⟩ = some x → (w.alloc (.cells A 2)).cell? ⟨b, j, none⟩ = some x := fun A b j x hb hc =>
    (((Below.refl w.heap.size w).alloc (Nat.le_refl _) _).cell (p := ⟨b, j, none⟩) hb).trans hc
  have OLD := Lib.hid old
  clear hI hl old
  go_enter Try.func86, Try.ntmps86
  go_wp2
  go_loopw [11] (fun i wr => ∃ k : Nat, k ≤ l.length ∧ i = .int .i64 (k : Int) ∧ wr = w.alloc (.cells (rowF (fun i => if i < k then chAt l i else 0) l.length) 2)) (fun i _ => l.length - (intOf i).toNat)
  case atStart => exact ⟨0, Nat.zero_le _, rfl, by rw [rowF_congr (f := fun i => if i < 0 then chAt l i else 0) (g := fun _ => 0) (fun i _ => if_neg (by omega))]⟩
  case round =>
    obtain ⟨k, hk, rfl, rfl⟩ := hrel
    by_cases hlt : k < l.length
    · have t2 : decide (k < l.length) = true := by simpa using hlt
      obtain ⟨b, off, rfl, hb, hcs⟩ : ∃ b o, a0 = some ⟨b, o, none⟩ ∧ b < w.heap.size ∧ ∀ j (hj : j < l.length), w.cell? ⟨b, o + j, none⟩ = some (.int .u8 (lnum (l[j]'hj))) := by
        rcases HI.out with ⟨h, h'⟩ | ⟨b, o, c, h, hb, hc⟩
        · subst h'; simp at hlt
        · cases h; exact ⟨b, o, rfl, hb, hc⟩
      have hcA : ∀ A : Array Value, (w.alloc (.cells A 2)).cell? ⟨b, off + k, none⟩ = some (.int .u8 (lnum (l[k]'hlt))) := fun A => OLD.out A b (off + k) _ hb (hcs k hlt)
      have IL : Hid (isL l[k] = true) := Lib.hid (HL.out _ (List.getElem_mem hlt))
      obtain ⟨n0, n7⟩ := lnum_yes IL.out
      have ek : l[k]?.getD 97 = l[k] := by rw [List.getElem?_eq_getElem hlt]; rfl
      have g0 : (rowF (fun i => if i < k then chAt l i else 0) l.length)[k]? = some (.int .i64 0) := by rw [rowF_get _ _ _ hlt]; simp
      have HK := Lib.hid hlt
      have hk' : (k : Int) ≤ 1000000 := by omega
      have s1 : (rowF (fun i => if i < k then chAt l i else 0) l.length).setIfInBounds k (.int .i64 (lnum (l[k]'hlt))) = rowF (fun i => if i < k then chAt l i else if i = k then lnum (l[k]'hlt) else 0) l.length := by
        have := rowF_set (fun i => if i < k then chAt l i else 0) (fun i => if i < k then chAt l i else if i = k then lnum (l[k]'hlt) else 0) l.length k hlt (fun i _ h => by simp [h])
        simpa using this
      have g1 : (rowF (fun i => if i < k then chAt l i else if i = k then lnum (l[k]'hlt) else 0) l.length)[k]? = some (.int .i64 (lnum (l[k]'hlt))) := by rw [rowF_get _ _ _ hlt]; simp
      by_cases hk0 : k = 0
      · have HE : Hid (rowF (fun i => if i < k then chAt l i else if i = k then lnum (l[k]'hlt) else 0) l.length = rowF (fun i => if i < k + 1 then chAt l i else 0) l.length) := Lib.hid (rowF_congr fun i hi => by
          subst hk0
          by_cases h0 : i = 0
          · subst h0; simp [chAt, List.getElem?_eq_getElem hlt]
          · simp [h0])
        have t4 : decide ((0 : Int) < (k : Int)) = false := by simp; omega
        have t5 : decide (0 < k) = false := by simp; omega
        clear hk0
        generalize l[k] = c at hcA s1 g1 n0 n7 HE
        generalize (rowF (fun i => if i < k then chAt l i else if i = k then lnum c else 0) l.length) = R1 at s1 g1 HE
        generalize (rowF (fun i => if i < k then chAt l i else 0) l.length) = R0 at s1 g0
        clear ek hcs
        go_wp2
        go_roundw
        case rel => exact ⟨k + 1, HK.out, by go_num, by rw [HE.out]⟩
        case measure => have := HK.out; simp [intOf]; omega
      · obtain ⟨j, rfl⟩ : ∃ j, k = j + 1 := ⟨k - 1, by omega⟩
        have hj' : (j : Int) ≤ 999999 := by omega
        clear hk0 hk'
        have hj : j < l.length := by omega
        have hcB : ∀ A : Array Value, (w.alloc (.cells A 2)).cell? ⟨b, off + j, none⟩ = some (.int .u8 (lnum (l[j]'hj))) := fun A => OLD.out A b (off + j) _ hb (hcs j hj)
        have IJ : Hid (isL l[j] = true) := Lib.hid (HL.out _ (List.getElem_mem hj))
        have hot := Lib.hid (lother_any l[j] IJ.out)
        obtain ⟨m0, m7⟩ := lnum_yes IJ.out
        obtain ⟨o0, o7⟩ := lnum_yes (oth_isL IJ.out)
        have ej : l[j]?.getD 97 = l[j] := by rw [List.getElem?_eq_getElem hj]; rfl
        have s2 : (rowF (fun i => if i < j + 1 then chAt l i else if i = j + 1 then lnum (l[j + 1]'hlt) else 0) l.length).setIfInBounds (j + 1) (.int .i64 (lnum (l[j + 1]'hlt) - 1)) = rowF (fun i => if i < j + 1 then chAt l i else if i = j + 1 then lnum (l[j + 1]'hlt) - 1 else 0) l.length := by
          have := rowF_set (fun i => if i < j + 1 then chAt l i else if i = j + 1 then lnum (l[j + 1]'hlt) else 0) (fun i => if i < j + 1 then chAt l i else if i = j + 1 then lnum (l[j + 1]'hlt) - 1 else 0) l.length (j + 1) hlt (fun i _ h => by simp [h])
          simpa using this
        have CE : chAt l (j + 1) = lnum (l[j + 1]'hlt) - (if lnum (oth l[j]) < lnum (l[j + 1]'hlt) then 1 else 0) := by
          unfold chAt
          rw [Nat.add_sub_cancel, ek, ej]
          simp
        have HA : Hid (¬ lnum (oth l[j]) < lnum (l[j + 1]'hlt) → rowF (fun i => if i < j + 1 then chAt l i else if i = j + 1 then lnum (l[j + 1]'hlt) else 0) l.length = rowF (fun i => if i < j + 1 + 1 then chAt l i else 0) l.length) := Lib.hid fun hx => rowF_congr fun i hi => by
          by_cases h0 : i = j + 1
          · subst h0; simp [CE, hx]
          · by_cases h1 : i < j + 1
            · simp [h1, show i < j + 1 + 1 by omega]
            · simp [h0, h1, show ¬ i < j + 1 + 1 by omega]
        have HB : Hid (lnum (oth l[j]) < lnum (l[j + 1]'hlt) → rowF (fun i => if i < j + 1 then chAt l i else if i = j + 1 then lnum (l[j + 1]'hlt) - 1 else 0) l.length = rowF (fun i => if i < j + 1 + 1 then chAt l i else 0) l.length) := Lib.hid fun hx => rowF_congr fun i hi => by
          by_cases h0 : i = j + 1
          · subst h0; simp [CE, hx]
          · by_cases h1 : i < j + 1
            · simp [h1, show i < j + 1 + 1 by omega]
            · simp [h0, h1, show ¬ i < j + 1 + 1 by omega]
        clear ek ej CE hcs
        generalize l[j + 1] = c at hcA s1 g1 s2 n0 n7 HA HB IL
        generalize l[j] = d at hcB hot m0 m7 o0 o7 HA HB IJ
        generalize (rowF (fun i => if i < j + 1 then chAt l i else if i = j + 1 then lnum c - 1 else 0) l.length) = R2 at s2 HB
        generalize (rowF (fun i => if i < j + 1 then chAt l i else if i = j + 1 then lnum c else 0) l.length) = R1 at s1 g1 s2 HA
        generalize (rowF (fun i => if i < j + 1 then chAt l i else 0) l.length) = R0 at s1 g0
        generalize lnum (oth d) = y at hot o0 o7 HA HB
        by_cases hx : y < lnum c
        · have t3 : decide (y < lnum c) = true := by simpa using hx
          have HE := Lib.hid (HB.out hx)
          clear HA HB hx
          go_wp2_with (go_at_call 91; with_reducible refine (hot.out _).mono ?_; rintro e w' ⟨rfl, rfl⟩)
          go_roundw
          case rel => exact ⟨j + 1 + 1, HK.out, by go_num, by rw [HE.out]⟩
          case measure => have := HK.out; simp [intOf]; omega
        · have t3 : decide (y < lnum c) = false := by simpa using hx
          have HE := Lib.hid (HA.out hx)
          clear HA HB hx
          go_wp2_with (go_at_call 91; with_reducible refine (hot.out _).mono ?_; rintro e w' ⟨rfl, rfl⟩)
          go_roundw
          case rel => exact ⟨j + 1 + 1, HK.out, by go_num, by rw [HE.out]⟩
          case measure => have := HK.out; simp [intOf]; omega
    · obtain rfl : k = l.length := by omega
      have P : Hid (ChPost (chAt l) l.length w (.returned (.slice (some ⟨w.heap.size, 0, none⟩) l.length l.length)) (w.alloc (.cells (rowF (fun i => if i < l.length then chAt l i else 0) l.length) 2))) := Lib.hid (by
        rw [rowF_congr (f := fun i => if i < l.length then chAt l i else 0) (g := chAt l) (fun i hi => if_pos hi)]
        exact ⟨_, rfl, Nat.le_refl _, World.alloc_heap_new w _, (Below.refl _ w).alloc (Nat.le_refl _) _⟩)
      go_wp2
      go_ret
      exact P.out
end Go.Proofs.Ytdcphheeapmjcaa
