/-
  CONTRACT: WordOfCode of the program.
-/
import Derived.Test.YtdcphheeapmjcaaCos
import Derived.Test.YtdcphheeapmjcaaItx
import Derived.Deep.RegionHeld3
namespace Go.Proofs.Ytdcphheeapmjcaa
open Go.ChangeShapes Go.WideShapes Go.ChangeAt Go.RowKit
open Wd
/-- the bit of a code at a place -/
def bitC (f : Nat → Int) (p : Nat) : Nat := (f (1 + p / 8)).toNat / 2 ^ (7 - p % 8) % 2
/-- the number of a letter by its first bits -/
def numP (f : Nat → Int) (i : Nat) : Nat → Nat
  | 0 => 0
  | b + 1 => 2 * numP f i b + bitC f (3 * i + b)
theorem bitC_lt (f : Nat → Int) (p : Nat) : bitC f p ≤ 1 := by have := Nat.mod_lt ((f (1 + p / 8)).toNat / 2 ^ (7 - p % 8)) (show 0 < 2 by omega); unfold bitC; omega
theorem numP_lt (f : Nat → Int) (i : Nat) : numP f i 1 ≤ 1 ∧ numP f i 2 ≤ 3 ∧ numP f i 3 ≤ 7 := by
  have h0 := bitC_lt f (3 * i + 0)
  have h1 := bitC_lt f (3 * i + 1)
  have h2 := bitC_lt f (3 * i + 2)
  simp only [numP]
  omega
theorem numP_b (f : Nat → Int) (i b : Nat) (hb : b ≤ 2) : numP f i b ≤ 3 := by
  have := numP_lt f i
  have : b = 0 ∨ b = 1 ∨ b = 2 := by omega
  rcases this with rfl | rfl | rfl
  · simp [numP]
  · omega
  · omega
/-- the word of a code's bits -/
def wcL (f : Nat → Int) (n : Nat) : List UInt8 := (List.range n).map fun i => chr (numP f i 3)
theorem wcL_length (f : Nat → Int) (n : Nat) : (wcL f n).length = n := by simp [wcL]
theorem wcL_letters (f : Nat → Int) (n : Nat) : ∀ c ∈ wcL f n, isL c = true := by
  intro c hc
  simp only [wcL, List.mem_map] at hc
  obtain ⟨i, _, rfl⟩ := hc
  exact isL_chr _
theorem wcL_at (f : Nat → Int) (n i : Nat) (h : i < (wcL f n).length) : (wcL f n)[i] = chr (numP f i 3) := by simp [wcL]
/-- the row when the first places have been read -/
def rvF (f : Nat → Int) (p : Nat) : Nat → Int := fun k => (numP f k (min 3 (p - 3 * k)) : Int)
theorem rvF_zero (f : Nat → Int) (n : Nat) : arr .u8 n (rvF f 0) = arr .u8 n (fun _ => 0) := arr_congr fun i _ => by simp [rvF, numP]
theorem rvF_at (f : Nat → Int) {p i b : Nat} (hp : p = 3 * i + b) (hb : b < 3) : rvF f p i = (numP f i b : Int) := by
  unfold rvF
  rw [show min 3 (p - 3 * i) = b by omega]
theorem rvF_step (f : Nat → Int) {p i b : Nat} (hp : p = 3 * i + b) (hb : b < 3) (n : Nat) (hi : i < n) : (arr .u8 n (rvF f p)).setIfInBounds i (.int .u8 ((2 * numP f i b + bitC f p : Nat) : Int)) = arr .u8 n (rvF f (p + 1)) := by
  rw [arr_set _ _ _ _ _ hi]
  refine arr_congr fun k hk => ?_
  unfold updI
  split
  · rename_i h
    subst h
    unfold rvF
    rw [show min 3 (p + 1 - 3 * k) = b + 1 by omega]
    show _ = ((2 * numP f k b + bitC f (3 * k + b) : Nat) : Int)
    rw [hp]
  · rename_i h
    unfold rvF
    by_cases h2 : k < i
    · rw [show min 3 (p - 3 * k) = 3 by omega, show min 3 (p + 1 - 3 * k) = 3 by omega]
    · rw [show min 3 (p - 3 * k) = 0 by omega, show min 3 (p + 1 - 3 * k) = 0 by omega]
theorem rvF_end (f : Nat → Int) {n k : Nat} (hk : k < n) : rvF f (3 * n) k = lnum (chr (numP f k 3)) := by
  unfold rvF
  rw [show min 3 (3 * n - 3 * k) = 3 by omega, lnum_chr (by have := numP_lt f k; omega)]
theorem bitC_val {f : Nat → Int} {p j m : Nat} (hp : p = 8 * j + m) (hm : m < 8) (h : 0 ≤ f (1 + j) ∧ f (1 + j) ≤ 255) : bits .and .u8 (f (1 + j) / 2 ^ (7 - m)) 1 = (bitC f p : Int) := by
  have hd := div_nat h.1 (7 - m)
  have hy := Nat.div_le_self (f (1 + j)).toNat (2 ^ (7 - m))
  unfold bitC
  rw [show p / 8 = j by omega, show p % 8 = m by omega, hd]
  generalize (f (1 + j)).toNat / 2 ^ (7 - m) = y at hy
  rw [and1_u8 (by omega) (by omega)]
  push_cast
  rfl
theorem or_low {v x : Nat} (hv : v ≤ 3) (hx : x ≤ 1) : bits .or .u8 ((v : Int) * 2) (x : Int) = ((2 * v + x : Nat) : Int) := by
  have h1 : v = 0 ∨ v = 1 ∨ v = 2 ∨ v = 3 := by omega
  have h2 : x = 0 ∨ x = 1 := by omega
  rcases h1 with rfl | rfl | rfl | rfl <;> rcases h2 with rfl | rfl <;> decide
/-- a code of a word -/
def wocOk (f : Nat → Int) : Bool := decide (f 0 ≤ 40) && (List.range 16).all fun i => cdF (wcL f (f 0).toNat) (3 * (f 0).toNat) i == f i
def WocPost (f : Nat → Int) (w : World) : Ending → World → Prop := TextPost (if wocOk f then wcL f (f 0).toNat else []) (if wocOk f then 0 else 5) w
set_option maxRecDepth 100000 in
set_option maxHeartbeats 8000000 in
theorem iwoc_any (f : Nat → Int) (hf : ∀ i, i < 16 → 0 ≤ f i ∧ f i ≤ 255) (w : World) : Calls Try.prog 25 #[.agg (arr .u8 16 f)] w (WocPost f w) := by
  unfold WocPost
  have HF := Lib.hid hf
  obtain ⟨a0, a1⟩ := hf 0 (by omega)
  have b0 : Below w.heap.size w (w.alloc (.cells (arr .u8 16 f) 31)) := (Below.refl _ w).alloc (Nat.le_refl _) _
  have h0 : (w.alloc (.cells (arr .u8 16 f) 31)).heap[w.heap.size]? = some (.cells (arr .u8 16 f) 31 (0, 0)) := World.alloc_heap_new w _
  have c0 : (w.alloc (.cells (arr .u8 16 f) 31)).cell? ⟨w.heap.size, 0, none⟩ = some (.int .u8 (f 0)) := (Lib.cell_of_heap h0 0).trans (arr_get _ _ _ _ (by omega))
  have B0 := Lib.hid b0
  have H0 := Lib.hid h0
  have S0 : Hid ((w.alloc (.cells (arr .u8 16 f) 31)).heap.size = w.heap.size + 1) := Lib.hid (by simp)
  clear b0 h0 hf
  by_cases h40 : f 0 ≤ 40
  · obtain ⟨n, hn⟩ : ∃ n : Nat, f 0 = n := ⟨(f 0).toNat, by omega⟩
    rw [hn] at c0
    have HN := Lib.hid hn
    have hn' : (n : Int) ≤ 40 := by omega
    have hmk : ∀ w, (Instr.makeSlice 71 (.int .i64 (n : Int)) (.int .i64 (n : Int))).run Try.prog w = .ok (.slice (some ⟨w.heap.size, 0, none⟩) n n) (w.alloc (.cells (arr .u8 n (rvF f 0)) 84)) := fun w => by
      have := make_let [] n (by omega) w
      have e : rowL [] 0 n = arr .u8 n (rvF f 0) := by
        rw [rvF_zero]
        unfold rowL arr
        simp
      rw [this, e]
    clear hn a0 a1 h40
    go_enter Try.func25, Try.ntmps25
    generalize hPP : TextPost (if wocOk f = true then wcL f (f 0).toNat else []) (if wocOk f = true then 0 else 5) w = PP
    have HPP := Lib.hid hPP
    clear hPP
    generalize hW1 : w.alloc (.cells (arr .u8 16 f) 31) = w1 at *
    go_wp2
    clear hW1 c0
    go_loopw [17] (fun i wr => ∃ p : Nat, p ≤ 3 * n ∧ i = .int .i64 (p : Int) ∧ wr.heap[w1.heap.size]? = some (.cells (arr .u8 n (rvF f p)) 84 (0, 0)) ∧ Below w1.heap.size w1 wr) (fun i _ => 3 * n - (intOf i).toNat)
    case atStart => exact ⟨0, Nat.zero_le _, rfl, World.alloc_heap_new w1 _, (Below.refl _ w1).alloc (Nat.le_refl _) _⟩
    case round =>
      obtain ⟨p, hp, rfl, hg, hB⟩ := hrel
      have HG := Lib.hid hg
      have HB := Lib.hid hB
      clear hg hB
      by_cases hlt : p < 3 * n
      · obtain ⟨i, b, hb, hpi⟩ : ∃ i b, b < 3 ∧ p = 3 * i + b := ⟨p / 3, p % 3, by omega, by omega⟩
        obtain ⟨j, m, hm8, hpj⟩ : ∃ j m, m < 8 ∧ p = 8 * j + m := ⟨p / 8, p % 8, by omega, by omega⟩
        have hi : i < n := by omega
        have hj : j < 15 := by omega
        have hcj : wr.cell? ⟨w.heap.size, 1 + j, none⟩ = some (.int .u8 (f (1 + j))) := (HB.out.cell (p := ⟨w.heap.size, 1 + j, none⟩) (by have := S0.out; show w.heap.size < _; omega)).trans ((Lib.cell_of_heap H0.out (1 + j)).trans (arr_get _ _ _ _ (by omega)))
        have hci : wr.cell? ⟨w1.heap.size, i, none⟩ = some (.int .u8 (numP f i b : Int)) := (Lib.cell_of_heap HG.out i).trans ((arr_get _ _ _ _ hi).trans (by rw [rvF_at f hpi hb]))
        have hfi : wr.frozen? ⟨w1.heap.size, i, none⟩ = false := Lib.frozen_of_heap HG.out i
        obtain ⟨c0, c1⟩ := HF.out (1 + j) (by omega)
        have hbv := bitC_val hpj hm8 ⟨c0, c1⟩
        have hb1 := bitC_lt f p
        have hnb := numP_b f i b (by omega)
        have hor := or_low hnb hb1
        push_cast at hor
        have ST0 := rvF_step f hpi hb n hi
        push_cast at ST0
        have ST := Lib.hid ST0
        clear ST0
        have q3 : (p : Int) / 3 = (i : Int) := by omega
        have q8 : (p : Int) / 8 = (j : Int) := by omega
        have r8 : (p : Int) % 8 = (m : Int) := by omega
        have t1 : decide ((p : Int) < 3 * (n : Int)) = true := by simp; omega
        have HLT := Lib.hid hlt
        have hm8' : (m : Int) ≤ 7 := by omega
        have hi' : (i : Int) < (n : Int) := by omega
        have hj' : (j : Int) ≤ 14 := by omega
        have hp' : (p : Int) ≤ 120 := by omega
        have hx1 : (bitC f p : Int) ≤ 1 := by omega
        have hx3 : (numP f i b : Int) ≤ 3 := by omega
        clear hlt hp hpi hpj hb hb1 hnb
        generalize numP f i b = v at *
        generalize bitC f p = x at *
        go_wp2
        go_roundw
        case rel => exact ⟨p + 1, HLT.out, by go_num, by rw [heap_setCell_at HG.out, ST.out], HB.out.setCell (p := ⟨w1.heap.size, _, none⟩) (Nat.le_refl _) _⟩
        case measure => have := HLT.out; simp [intOf]; omega
      · obtain rfl : p = 3 * n := by omega
        clear hlt hp
        have LR : Hid (LRow wr.heap.size wr (.slice (some ⟨w1.heap.size, 0, none⟩) n n) (wcL f n)) := Lib.hid (.inr ⟨w1.heap.size, 0, n, by rw [wcL_length], (Array.getElem?_eq_some_iff.1 HG.out).1, fun j hj => by
          have hj' : j < n := by rw [wcL_length] at hj; exact hj
          rw [Nat.zero_add, wcL_at]
          refine (Lib.cell_of_heap HG.out j).trans ((arr_get _ _ _ _ hj').trans ?_)
          rw [rvF_end f hj']⟩)
        have WL := Lib.hid (wcL_letters f n)
        have WN := wcL_length f n
        have CD : Hid (∀ w', Below wr.heap.size wr w' → Calls Try.prog 65 #[.slice (some ⟨w1.heap.size, 0, none⟩) n n] w' fun e w'' => e = .returned (.agg (arr .u8 16 (cdF (wcL f n) (3 * n)))) ∧ Below w'.heap.size w' w'') := Lib.hid fun w' hb => by
          have := coded_any _ (wcL f n) WL.out (by rw [WN]; omega) w' ((LR.out.below hb).up hb.size)
          rwa [WN] at this
        have TX : Hid (∀ w', Below wr.heap.size wr w' → Calls Try.prog 57 #[.slice (some ⟨w1.heap.size, 0, none⟩) n n] w' fun e w'' => e = .returned (.string (txt (wcL f n))) ∧ Below w'.heap.size w' w'') := Lib.hid fun w' hb => itext_any _ (wcL f n) WL.out (by rw [WN]; omega) w' ((LR.out.below hb).up hb.size)
        have OKQ : Hid (wocOk f = (List.range 16).all fun i => cdF (wcL f n) (3 * n) i == f i) := Lib.hid (by unfold wocOk; rw [HN.out, Int.toNat_natCast, decide_eq_true hn', Bool.true_and])
        have HB2 : Hid (Below w.heap.size w wr) := Lib.hid (B0.out.trans (HB.out.mono B0.out.size))
        have R0 : Hid (∀ w', Below wr.heap.size wr w' → w'.heap[w.heap.size]? = some (.cells (arr .u8 16 f) 31 (0, 0))) := Lib.hid fun w' hb => by
          have hlt : w.heap.size < w1.heap.size := by have := S0.out; omega
          rw [hb.block _ (Nat.lt_of_lt_of_le hlt HB.out.size), HB.out.block _ hlt]; exact H0.out
        obtain ⟨cs, hcs⟩ : ∃ cs : List Value, cs = (List.range 16).map fun i => Value.int .u8 (f i) := ⟨_, rfl⟩
        have KA : ∀ w', Below wr.heap.size wr w' → Below wr.heap.size wr w' ∧ w'.rangeAt w.heap.size 0 cs := fun w' hb => ⟨hb, fun j v hv => by
          rw [hcs] at hv
          rw [Nat.zero_add]
          exact (Lib.cell_of_heap (R0.out w' hb) j).trans (by unfold arr; simpa using hv)⟩
        have UL := Try.underlying31
        have IF : (Try.prog.info? 31).map (·.size) = some cs.length := by rw [hcs, List.length_map, List.length_range]; kernel_rfl
        have hS : ∀ w, (Op.equalIn 10000 31 (.agg (arr .u8 16 (cdF (wcL f n) (3 * n)))) (.agg cs.toArray)).run Try.prog w = .ok (wocOk f) w := fun w => by
          rw [OKQ.out, hcs]
          exact eqArrI (P := Try.prog) (t := 31) (q := .u8) _ f Try.underlying31 Try.underlying5 (by kernel_rfl) w
        have FIN : Hid (∀ w', Below wr.heap.size wr w' → PP (.returned (.tuple #[.string (txt (if wocOk f then wcL f n else [])), .int .i64 (if wocOk f then 0 else 5)])) w') := Lib.hid fun w' hb => by
          rw [← HPP.out, HN.out, Int.toNat_natCast]
          exact ⟨rfl, HB2.out.trans (hb.mono HB2.out.size)⟩
        clear OKQ HPP R0 LR HB HB2 HG HN hcs
        generalize cdF (wcL f n) (3 * n) = cf at *
        generalize wcL f n = wl at *
        go_wp2
        cases hok : wocOk f
        · rw [hok] at hS FIN
          go_region_held3 (fun w' => Below wr.heap.size wr w' ∧ w'.rangeAt w.heap.size 0 cs)
            (first | exact KA _ (Below.refl _ _).drew | exact KA _ ((Below.refl _ _).drew.trans (Below.mono (by assumption) (by simp))))
            (first | (go_at_call 65; refine (CD.out _ (Below.refl _ _).drew).mono ?_; rintro e w' ⟨rfl, hb⟩))
          rename_i hH
          have HH := Lib.hid hH.1
          have F2 : Hid (∀ w', Below wr.heap.size wr w' → PP (.returned (.tuple #[.string (⟨#[]⟩ : ByteArray), .int .i64 5])) w') := FIN
          clear hH hb FIN
          go_wp2
          exact F2.out _ HH.out
        · rw [hok] at hS FIN
          go_region_held3 (fun w' => Below wr.heap.size wr w' ∧ w'.rangeAt w.heap.size 0 cs)
            (first | exact KA _ (Below.refl _ _).drew | exact KA _ ((Below.refl _ _).drew.trans (Below.mono (by assumption) (by simp))))
            (first | (go_at_call 65; refine (CD.out _ (Below.refl _ _).drew).mono ?_; rintro e w' ⟨rfl, hb⟩))
          rename_i hH
          have HH := Lib.hid hH.1
          have F2 : Hid (∀ w', Below wr.heap.size wr w' → PP (.returned (.tuple #[.string (txt wl), .int .i64 0])) w') := FIN
          clear hH hb FIN
          have T2 := Lib.hid (TX.out w' HH.out)
          go_wp2_with fail
          refine T2.out.mono ?_
          rintro e w2 ⟨rfl, B2⟩
          have H3 : Hid (Below wr.heap.size wr w2) := Lib.hid (HH.out.trans (B2.mono HH.out.size))
          clear B2 T2
          go_wp2
          exact F2.out _ H3.out
  · have hw : wocOk f = false := by unfold wocOk; rw [decide_eq_false h40, Bool.false_and]
    rw [hw, if_neg (by simp), if_neg (by simp)]
    have t1 : decide ((40 : Int) < f 0) = true := by simp; omega
    clear hw
    go_enter Try.func25, Try.ntmps25
    go_wp2
    go_ret2
    exact ⟨rfl, B0.out⟩
end Go.Proofs.Ytdcphheeapmjcaa
