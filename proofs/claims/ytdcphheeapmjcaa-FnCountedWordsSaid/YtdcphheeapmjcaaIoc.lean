/-
  CONTRACT: the program's ofChoices.
-/
import Derived.Test.YtdcphheeapmjcaaIch
import Derived.Laws.CopyOwn
namespace Go.Proofs.Ytdcphheeapmjcaa
open Go.ChangeShapes Go.WideShapes Go.ChangeAt Go.RowKit
open Wd
theorem heap_set_at {w : World} {g : Nat} {A : Array Value} {t : TypeId} (h : w.heap[g]? = some (.cells A t (0, 0))) (x : Nat) (v : Value) : (w.setCell ⟨g, x, none⟩ v).heap[g]? = some (.cells (A.setIfInBounds x v) t (0, 0)) := by
  simp [World.setCell, Array.getElem?_modify, h]
/-- the number of a letter behind others, told by a choice -/
def ofNum (T : List UInt8) (x : Int) : Int := match T.getLast? with
  | none => x
  | some p => if lnum (oth p) ≤ x then x + 1 else x
/-- the letters that choices tell -/
def ofL (f : Nat → Int) : Nat → List UInt8
  | 0 => []
  | k + 1 => ofL f k ++ [chr (ofNum (ofL f k) (f k)).toNat]
theorem ofL_length (f : Nat → Int) (k : Nat) : (ofL f k).length = k := by
  induction k with
  | zero => rfl
  | succ k ih => simp [ofL, ih]
theorem ofL_letters (f : Nat → Int) (k : Nat) : ∀ c ∈ ofL f k, isL c = true := by
  induction k with
  | zero => simp [ofL]
  | succ k ih =>
    intro c hc
    rcases List.mem_append.1 hc with h | h
    · exact ih c h
    · rw [List.mem_singleton.1 h]; exact isL_chr _
/-- choices that may stand -/
def OkCh (f : Nat → Int) (n : Nat) : Prop := ∀ k, k < n → 0 ≤ f k ∧ f k ≤ 7 ∧ (0 < k → f k ≤ 6)
theorem ofNum_ok {f : Nat → Int} {n k : Nat} (h : OkCh f n) (hk : k < n) : 0 ≤ ofNum (ofL f k) (f k) ∧ ofNum (ofL f k) (f k) ≤ 7 := by
  obtain ⟨a, b, c⟩ := h k hk
  unfold ofNum
  cases hl : (ofL f k).getLast? with
  | none => exact ⟨a, b⟩
  | some p =>
    have h0 : 0 < k := by
      rcases Nat.eq_zero_or_pos k with h | h
      · subst h; simp [ofL] at hl
      · exact h
    have := c h0
    split <;> omega
theorem lnum_new {f : Nat → Int} {n k : Nat} (h : OkCh f n) (hk : k < n) : lnum (chr (ofNum (ofL f k) (f k)).toNat) = ofNum (ofL f k) (f k) := by
  obtain ⟨a, b⟩ := ofNum_ok h hk
  rw [lnum_chr (by omega)]
  omega
theorem rowL_next (f : Nat → Int) (k n : Nat) (hk : k < n) (x : UInt8) (hx : chr (ofNum (ofL f k) (f k)).toNat = x) : (rowL (ofL f k) k n).setIfInBounds k (.int .u8 (lnum x)) = rowL (ofL f (k + 1)) (k + 1) n := by
  have e : rowL (ofL f k) k n = rowL (ofL f (k + 1)) k n := by
    apply Array.ext_getElem?
    intro i
    by_cases hi : i < n
    · rw [rowL_get _ _ _ _ hi, rowL_get _ _ _ _ hi]
      by_cases h : i < k
      · rw [if_pos h, if_pos h]
        show some (Value.int .u8 (lnum ((ofL f k)[i]?.getD 97))) = some (Value.int .u8 (lnum ((ofL f k ++ _)[i]?.getD 97)))
        rw [List.getElem?_append_left (by rw [ofL_length]; exact h)]
      · rw [if_neg h, if_neg h]
    · rw [Array.getElem?_eq_none (by rw [rowL_size]; omega), Array.getElem?_eq_none (by rw [rowL_size]; omega)]
  rw [e]
  refine rowL_set (ofL f (k + 1)) k n hk x ?_
  show ((ofL f k ++ [_])[k]?).getD 97 = x
  rw [List.getElem?_append_right (by rw [ofL_length]; omega), ofL_length, Nat.sub_self]
  exact hx
set_option maxRecDepth 100000 in
set_option maxHeartbeats 4000000 in
theorem ofch_any (gb n : Nat) (f : Nat → Int) (hf : OkCh f n) (hn : n ≤ 100) (w : World) (hgb : gb < w.heap.size) (hc : ∀ k, k < n → w.cell? ⟨gb, k, none⟩ = some (.int .i64 (f k))) :
    Calls Try.prog 56 #[.slice (some ⟨gb, 0, none⟩) n n] w fun e w' => ∃ v, e = .returned v ∧ OwnL w.heap.size v (ofL f n) w' ∧ Below w.heap.size w w' := by
  have HF := Lib.hid hf
  have HC := Lib.hid hc
  have hn' : (n : Int) ≤ 100 := by omega
  have hmk := make_let [] n (by omega)
  clear hf hc
  go_enter Try.func56, Try.ntmps56
  go_wp2
  go_loopw [11] (fun i wr => ∃ k : Nat, k ≤ n ∧ i = .int .i64 (k : Int) ∧ wr.heap[w.heap.size]? = some (.cells (rowL (ofL f k) k n) 84 (0, 0)) ∧ Below w.heap.size w wr) (fun i _ => n - (intOf i).toNat)
  case atStart => exact ⟨0, Nat.zero_le _, rfl, World.alloc_heap_new w _, (Below.refl _ w).alloc (Nat.le_refl _) _⟩
  case round =>
    obtain ⟨k, hk, rfl, hg, hB⟩ := hrel
    have HG := Lib.hid hg
    have HB := Lib.hid hB
    clear hg hB
    by_cases hlt : k < n
    · have t2 : decide (k < n) = true := by simpa using hlt
      have hcell : wr.cell? ⟨gb, k, none⟩ = some (.int .i64 (f k)) := (HB.out.cell (p := ⟨gb, k, none⟩) hgb).trans (HC.out k hlt)
      obtain ⟨a1, a2, a3⟩ := HF.out k hlt
      have ck : wr.cell? ⟨w.heap.size, k, none⟩ = some (.int .u8 0) := (Lib.cell_of_heap HG.out k).trans (by rw [rowL_get _ _ _ _ hlt, if_neg (by omega)])
      have fk : wr.frozen? ⟨w.heap.size, k, none⟩ = false := Lib.frozen_of_heap HG.out k
      have HK := Lib.hid hlt
      have hkI : (k : Int) ≤ 100 := by omega
      have NXT : Hid (∀ v, v = ofNum (ofL f k) (f k) → (rowL (ofL f k) k n).setIfInBounds k (.int .u8 v) = rowL (ofL f (k + 1)) (k + 1) n) := Lib.hid (by
        rintro _ rfl
        have h1 := rowL_next f k n hlt _ rfl
        rwa [lnum_new HF.out hlt] at h1)
      have G1 : Hid ((wr.setCell ⟨w.heap.size, k, none⟩ (.int .u8 (f k))).heap[w.heap.size]? = some (.cells ((rowL (ofL f k) k n).setIfInBounds k (.int .u8 (f k))) 84 (0, 0))) := Lib.hid (heap_set_at HG.out k _)
      have B1 : Hid (Below w.heap.size w (wr.setCell ⟨w.heap.size, k, none⟩ (.int .u8 (f k)))) := Lib.hid (HB.out.setCell (p := ⟨w.heap.size, k, none⟩) (Nat.le_refl _) _)
      have RS := rowL_size (ofL f k) k n
      by_cases hk0 : k = 0
      · have t4 : decide ((0 : Int) < (k : Int)) = false := by simp; omega
        have t5 : decide (0 < k) = false := by simp; omega
        have ON : Hid (f k = ofNum (ofL f k) (f k)) := Lib.hid (by subst hk0; rfl)
        clear hk0 RS
        go_wp2
        generalize hW : wr.setCell ⟨w.heap.size, k, none⟩ (.int .u8 (f k)) = w1 at G1 B1
        clear hW
        go_quiet (fail)
        go_wp2
        go_roundw
        case rel => exact ⟨k + 1, HK.out, by go_num, by rw [← NXT.out _ ON.out]; exact G1.out, below_drewN B1.out _⟩
        case measure => have := HK.out; simp [intOf]; omega
      · obtain ⟨j, rfl⟩ : ∃ j, k = j + 1 := ⟨k - 1, by omega⟩
        have hlen := ofL_length f (j + 1)
        have hj : j < (ofL f (j + 1)).length := by omega
        obtain ⟨p, hp⟩ : ∃ p, (ofL f (j + 1))[j] = p := ⟨_, rfl⟩
        have IP : Hid (isL p = true) := Lib.hid (by rw [← hp]; exact ofL_letters f (j + 1) _ (List.getElem_mem hj))
        have LST : (ofL f (j + 1)).getLast? = some p := by rw [List.getLast?_eq_getElem?, hlen, Nat.add_sub_cancel, List.getElem?_eq_getElem hj, hp]
        have ON : Hid (ofNum (ofL f (j + 1)) (f (j + 1)) = if lnum (oth p) ≤ f (j + 1) then f (j + 1) + 1 else f (j + 1)) := Lib.hid (by unfold ofNum; rw [LST])
        have ek : ((rowL (ofL f (j + 1)) (j + 1) n).setIfInBounds (j + 1) (.int .u8 (f (j + 1))))[j + 1]? = some (.int .u8 (f (j + 1))) := by
          rw [Array.getElem?_setIfInBounds, if_pos rfl, if_pos (by rw [RS]; exact hlt)]
        have ej : ((rowL (ofL f (j + 1)) (j + 1) n).setIfInBounds (j + 1) (.int .u8 (f (j + 1))))[j]? = some (.int .u8 (lnum p)) := by
          rw [Array.getElem?_setIfInBounds, if_neg (by omega), rowL_get _ _ _ _ (by omega), if_pos (by omega), List.getElem?_eq_getElem hj, hp]; rfl
        have a4 := a3 (by omega)
        have hjI : (j : Int) ≤ 99 := by omega
        have SS : Hid (∀ v, ((rowL (ofL f (j + 1)) (j + 1) n).setIfInBounds (j + 1) (.int .u8 (f (j + 1)))).setIfInBounds (j + 1) v = (rowL (ofL f (j + 1)) (j + 1) n).setIfInBounds (j + 1) v) := Lib.hid fun v => by simp
        clear hk0 hkI RS hlen hp LST a3 a2 hj
        go_wp2
        generalize hW : wr.setCell ⟨w.heap.size, j + 1, none⟩ (.int .u8 (f (j + 1))) = w1 at G1 B1
        clear hW ck fk hcell
        have ck : w1.cell? ⟨w.heap.size, j + 1, none⟩ = some (.int .u8 (f (j + 1))) := (Lib.cell_of_heap G1.out (j + 1)).trans ek
        have cj : w1.cell? ⟨w.heap.size, j, none⟩ = some (.int .u8 (lnum p)) := (Lib.cell_of_heap G1.out j).trans ej
        have fk : w1.frozen? ⟨w.heap.size, j + 1, none⟩ = false := Lib.frozen_of_heap G1.out (j + 1)
        clear ek ej
        have hoq : Hid (∀ m, Calls Try.prog 91 #[.int .u8 (lnum p)] (w1.drewN m) fun e w'' => e = .returned (.int .u8 (lnum (oth p))) ∧ ∃ q, w'' = w1.drewN q) := Lib.hid fun m => (lother_any p IP.out _).mono fun e w' ⟨h1, h2⟩ => ⟨h1, m, h2.symm⟩
        obtain ⟨y0, y7⟩ := lnum_yes (oth_isL IP.out)
        generalize lnum (oth p) = y at ON hoq y0 y7
        generalize hx : f (j + 1) = x at *
        by_cases hxy : y ≤ x
        · have t6 : decide (y ≤ x) = true := by simpa using hxy
          have O1 : Hid (x + 1 = ofNum (ofL f (j + 1)) x) := Lib.hid (by rw [ON.out, if_pos hxy])
          clear ON hxy
          go_quiet ((go_at_call 91; exact hoq.out _))
          generalize hW2 : w1.drewN nq = w2
          have G2 : Hid (w2.heap[w.heap.size]? = some (.cells ((rowL (ofL f (j + 1)) (j + 1) n).setIfInBounds (j + 1) (.int .u8 x)) 84 (0, 0))) := Lib.hid (by rw [← hW2]; exact G1.out)
          have B2 : Hid (Below w.heap.size w w2) := Lib.hid (by rw [← hW2]; exact below_drewN B1.out nq)
          have ck2 : w2.cell? ⟨w.heap.size, j + 1, none⟩ = some (.int .u8 x) := by rw [← hW2]; exact ck
          have fk2 : w2.frozen? ⟨w.heap.size, j + 1, none⟩ = false := by rw [← hW2]; exact fk
          clear hW2 hoq ck fk cj
          go_wp2
          go_roundw
          case rel => exact ⟨j + 1 + 1, HK.out, by go_num, by rw [heap_set_at G2.out, SS.out, NXT.out _ O1.out], B2.out.setCell (p := ⟨w.heap.size, j + 1, none⟩) (Nat.le_refl _) _⟩
          case measure => have := HK.out; simp [intOf]; omega
        · have t6 : decide (y ≤ x) = false := by simpa using hxy
          have O1 : Hid (x = ofNum (ofL f (j + 1)) x) := Lib.hid (by rw [ON.out, if_neg hxy])
          clear ON hxy
          go_quiet ((go_at_call 91; exact hoq.out _))
          go_wp2
          go_roundw
          case rel => exact ⟨j + 1 + 1, HK.out, by go_num, by rw [← NXT.out _ O1.out]; exact G1.out, below_drewN B1.out _⟩
          case measure => have := HK.out; simp [intOf]; omega
    · obtain rfl : k = n := by omega
      have O : Hid (OwnL w.heap.size (.slice (some ⟨w.heap.size, 0, none⟩) k k) (ofL f k) wr) := Lib.hid (by
        have hfull := rowL_full (ofL f k)
        rw [ofL_length] at hfull
        refine ⟨by rw [numC_len, Nat.mul_one], .inr ⟨w.heap.size, k, rowL (ofL f k) k k, by rw [ofL_length], Nat.le_refl _, HG.out, by rw [ofL_length]; exact Nat.le_refl _, by unfold maxLen; omega, by rw [rowL_size, Nat.mul_one], ?_⟩⟩
        rw [hfull, Nat.mul_one, List.take_of_length_le (by rw [numC_len]; exact Nat.le_refl _)])
      go_wp2
      go_ret
      exact ⟨_, rfl, O.out, HB.out⟩
end Go.Proofs.Ytdcphheeapmjcaa
