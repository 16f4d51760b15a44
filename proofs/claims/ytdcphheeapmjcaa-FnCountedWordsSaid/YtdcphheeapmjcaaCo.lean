/-
  CONTRACTS: the program's (letters).coded, CodeOfWord.
-/
import Derived.Test.YtdcphheeapmjcaaIrw
import Derived.Test.YtdcphheeapmjcaaArr
import Derived.Test.YtdcphheeapmjcaaIls
import Derived.StillTailTactics
namespace Go.Proofs.Ytdcphheeapmjcaa
open Go.ChangeShapes Go.WideShapes Go.ChangeAt Go.RowKit
open Wd
/-- a bit of a word's code -/
def bitW (l : List UInt8) (p : Nat) : Bool := decide ((lnum (l[p / 3]?.getD 97)).toNat / 2 ^ (2 - p % 3) % 2 = 1)
/-- the bytes of a code, when the first places have been laid -/
def cdF (l : List UInt8) : Nat → Nat → Int
  | 0 => fun i => if i = 0 then (l.length : Int) else 0
  | p + 1 => if bitW l p then updI (cdF l p) (1 + p / 8) (bits .or .u8 (cdF l p (1 + p / 8)) (2 ^ (7 - p % 8))) else cdF l p
theorem bits_or_u8_nat' (a b : Nat) (ha : a < 256) (hb : b < 256) : bits .or .u8 (a : Int) (b : Int) = ((a ||| b : Nat) : Int) := by
  have hx : a ||| b < 2 ^ 8 := Nat.or_lt_two_pow (by omega) (by omega)
  have h1 : (BitVec.ofInt 8 (a : Int)).toNat = a := by
    rw [BitVec.ofInt_natCast, BitVec.toNat_ofNat]; exact Nat.mod_eq_of_lt (by omega)
  have h2 : (BitVec.ofInt 8 (b : Int)).toNat = b := by
    rw [BitVec.ofInt_natCast, BitVec.toNat_ofNat]; exact Nat.mod_eq_of_lt (by omega)
  show IntKind.u8.wrap ((BitVec.ofInt 8 (a : Int) ||| BitVec.ofInt 8 (b : Int)).toNat : Int) = _
  rw [BitVec.toNat_or, h1, h2, IntKind.wrap_u8]
  omega
theorem or_u8 {a b : Int} (_ha : 0 ≤ a ∧ a ≤ 255) (_hb : 0 ≤ b ∧ b ≤ 255) : 0 ≤ bits .or .u8 a b ∧ bits .or .u8 a b ≤ 255 := ⟨bits_lo_u8 _ _ _, bits_hi_u8 _ _ _⟩
theorem or_u8_zero {a : Int} (ha : 0 ≤ a ∧ a ≤ 255) : bits .or .u8 a 0 = a := by
  obtain ⟨x, rfl⟩ : ∃ x : Nat, a = x := ⟨a.toNat, by omega⟩
  have := bits_or_u8_nat' x 0 (by omega) (by omega)
  simpa using this
theorem pow7 {m : Nat} (h : m ≤ 7) : (0 : Int) ≤ 2 ^ (7 - m) ∧ (2 : Int) ^ (7 - m) ≤ 255 := by
  have : m = 0 ∨ m = 1 ∨ m = 2 ∨ m = 3 ∨ m = 4 ∨ m = 5 ∨ m = 6 ∨ m = 7 := by omega
  rcases this with rfl | rfl | rfl | rfl | rfl | rfl | rfl | rfl <;> decide
theorem cdF_ok {l : List UInt8} (hl : l.length ≤ 40) (p : Nat) (i : Nat) : 0 ≤ cdF l p i ∧ cdF l p i ≤ 255 := by
  induction p generalizing i with
  | zero => unfold cdF; split <;> omega
  | succ p ih =>
    unfold cdF
    split
    · unfold updI
      split
      · exact or_u8 (ih _) (pow7 (by omega))
      · exact ih i
    · exact ih i
theorem and1_u8 {y : Int} (h0 : 0 ≤ y) (h1 : y < 256) : bits .and .u8 y 1 = y % 2 := bits_mask .u8 8 (by decide) wraps_u8 1 (by decide) y h0 h1
theorem wrap_pow {m : Nat} (h : m < 8) : IntKind.u8.wrap (1 * 2 ^ (7 - m)) = 2 ^ (7 - m) := by
  have : m = 0 ∨ m = 1 ∨ m = 2 ∨ m = 3 ∨ m = 4 ∨ m = 5 ∨ m = 6 ∨ m = 7 := by omega
  rcases this with rfl | rfl | rfl | rfl | rfl | rfl | rfl | rfl <;> rfl
/-- the bit at a place, as a letter's number tells it -/
theorem bitW_at {l : List UInt8} {p i b : Nat} (hp : p = 3 * i + b) (hb : b < 3) (hi : i < l.length) : bitW l p = decide ((lnum l[i]).toNat / 2 ^ (2 - b) % 2 = 1) := by
  unfold bitW
  rw [show p / 3 = i by omega, show p % 3 = b by omega, List.getElem?_eq_getElem hi]
  rfl
theorem div_nat {x : Int} (h : 0 ≤ x) (k : Nat) : x / 2 ^ k = ((x.toNat / 2 ^ k : Nat) : Int) := by
  obtain ⟨n, rfl⟩ : ∃ n : Nat, x = n := ⟨x.toNat, by omega⟩
  rw [Int.toNat_natCast]
  push_cast
  rfl
theorem bit_val {c : UInt8} (hc : isL c = true) (k : Nat) : bits .and .u8 (lnum c / 2 ^ k) 1 = (((lnum c).toNat / 2 ^ k % 2 : Nat) : Int) := by
  obtain ⟨n0, n7⟩ := lnum_yes hc
  have h := Nat.div_le_self (lnum c).toNat (2 ^ k)
  rw [div_nat n0]
  generalize (lnum c).toNat / 2 ^ k = y at h
  rw [and1_u8 (by omega) (by omega)]
  push_cast
  rfl
theorem bit_step {l : List UInt8} (hl : ∀ c ∈ l, isL c = true) (hm : l.length ≤ 40) {p i b j m : Nat} (hp : p = 3 * i + b) (hb : b < 3) (hpj : p = 8 * j + m) (hm8 : m < 8) (hi : i < l.length) {x : Int} (hx : bits .and .u8 (lnum l[i] / 2 ^ (2 - b)) 1 = x) :
    (arr .u8 16 (cdF l p)).setIfInBounds (1 + j) (.int .u8 (bits .or .u8 (cdF l p (1 + j)) (IntKind.u8.wrap (x * 2 ^ (7 - m))))) = arr .u8 16 (cdF l (p + 1)) := by
  have e1 : cdF l (p + 1) = if bitW l p then updI (cdF l p) (1 + j) (bits .or .u8 (cdF l p (1 + j)) (2 ^ (7 - m))) else cdF l p := by
    show (if bitW l p then updI (cdF l p) (1 + p / 8) (bits .or .u8 (cdF l p (1 + p / 8)) (2 ^ (7 - p % 8))) else cdF l p) = _
    rw [show p / 8 = j by omega, show p % 8 = m by omega]
  rw [e1, bitW_at hp hb hi, arr_set _ _ _ _ _ (by omega)]
  rw [bit_val (hl _ (List.getElem_mem hi))] at hx
  have h2 := Nat.mod_lt ((lnum l[i]).toNat / 2 ^ (2 - b)) (show 0 < 2 by omega)
  generalize (lnum l[i]).toNat / 2 ^ (2 - b) % 2 = y at hx h2 ⊢
  subst hx
  by_cases h1 : y = 1
  · subst h1
    rw [decide_eq_true rfl, if_pos rfl, show ((1 : Nat) : Int) = 1 from rfl, wrap_pow hm8]
  · obtain rfl : y = 0 := by omega
    rw [decide_eq_false (by omega), if_neg (by simp), show ((0 : Nat) : Int) * 2 ^ (7 - m) = 0 by simp, show IntKind.u8.wrap 0 = 0 from rfl, or_u8_zero (cdF_ok hm p (1 + j))]
    refine arr_congr fun k hk => ?_
    unfold updI
    split
    · rename_i h; rw [h]
    · rfl
theorem code_info (A : Array Value) (h : A.size = 16) : (Try.prog.info? 31).map (·.size) = some A.size := by rw [h]; kernel_rfl
set_option maxRecDepth 100000 in
set_option maxHeartbeats 4000000 in
theorem coded_any (v : Value) (l : List UInt8) (hl : ∀ c ∈ l, isL c = true) (hm : l.length ≤ 40) (w : World) (hI : LRow w.heap.size w v l) :
    Calls Try.prog 65 #[v] w fun e w' => e = .returned (.agg (arr .u8 16 (cdF l (3 * l.length)))) ∧ Below w.heap.size w w' := by
  obtain ⟨a0, cap0, rfl⟩ := hI.len
  have HI := Lib.hid hI
  have HL := Lib.hid hl
  have HM := Lib.hid hm
  have hm' : (l.length : Int) ≤ 40 := by omega
  have e0 : Hid (#[Value.int .u8 (l.length : Int), .int .u8 0, .int .u8 0, .int .u8 0, .int .u8 0, .int .u8 0, .int .u8 0, .int .u8 0, .int .u8 0, .int .u8 0, .int .u8 0, .int .u8 0, .int .u8 0, .int .u8 0, .int .u8 0, .int .u8 0] = arr .u8 16 (cdF l 0)) := Lib.hid rfl
  clear hI hl
  go_enter Try.func65, Try.ntmps65
  go_wp2
  go_loopw [14] (fun i wr => ∃ p : Nat, p ≤ 3 * l.length ∧ i = .int .i64 (p : Int) ∧ wr.heap[w.heap.size + 1]? = some (.cells (arr .u8 16 (cdF l p)) 31 (0, 0)) ∧ wr.heap[w.heap.size]? = some (.cells (arr .u8 16 (fun _ => 0)) 31 (0, 0)) ∧ Below w.heap.size w wr) (fun i _ => 3 * l.length - (intOf i).toNat)
  case atStart =>
    refine ⟨0, Nat.zero_le _, rfl, ?_, ?_, ?_⟩
    · have := World.alloc_heap_new (w.alloc (.cells (arr .u8 16 (fun _ => 0)) 31)) (.cells (arr .u8 16 (cdF l 0)) 31)
      rw [World.size_alloc] at this
      exact this
    · exact (Below.heap_alloc _ _ _ (by simp)).trans (World.alloc_heap_new w (.cells (arr .u8 16 (fun _ => 0)) 31))
    · exact ((Below.refl _ w).alloc (Nat.le_refl _) _).alloc (by simp) _
  case round =>
    obtain ⟨p, hp, rfl, hg, h0, hB⟩ := hrel
    have HG := Lib.hid hg
    have H0 := Lib.hid h0
    have HB := Lib.hid hB
    clear hg h0 hB e0
    by_cases hlt : p < 3 * l.length
    · obtain ⟨i, b, hb, hpi⟩ : ∃ i b, b < 3 ∧ p = 3 * i + b := ⟨p / 3, p % 3, by omega, by omega⟩
      obtain ⟨j, m, hm8, hpj⟩ : ∃ j m, m < 8 ∧ p = 8 * j + m := ⟨p / 8, p % 8, by omega, by omega⟩
      have hi : i < l.length := by omega
      have hj : j < 15 := by omega
      obtain ⟨g, off, rfl, hgb, hcs⟩ : ∃ g o, a0 = some ⟨g, o, none⟩ ∧ g < w.heap.size ∧ ∀ j (hj : j < l.length), w.cell? ⟨g, o + j, none⟩ = some (.int .u8 (lnum (l[j]'hj))) := by
        rcases HI.out with ⟨h, h'⟩ | ⟨g, o, c, h, hb, hc⟩
        · subst h'; simp at hi
        · cases h; exact ⟨g, o, rfl, hb, hc⟩
      have hc0 : wr.cell? ⟨g, off + i, none⟩ = some (.int .u8 (lnum (l[i]'hi))) := (HB.out.cell (p := ⟨g, off + i, none⟩) hgb).trans (hcs i hi)
      have hcj : wr.cell? ⟨w.heap.size + 1, 1 + j, none⟩ = some (.int .u8 (cdF l p (1 + j))) := (Lib.cell_of_heap HG.out (1 + j)).trans (arr_get _ _ _ _ (by omega))
      have hfj : wr.frozen? ⟨w.heap.size + 1, 1 + j, none⟩ = false := Lib.frozen_of_heap HG.out (1 + j)
      obtain ⟨n0, n7⟩ := lnum_yes (HL.out _ (List.getElem_mem hi))
      obtain ⟨c0, c1⟩ := cdF_ok hm p (1 + j)
      have q3 : (p : Int) / 3 = (i : Int) := by omega
      have r3 : (p : Int) % 3 = (b : Int) := by omega
      have q8 : (p : Int) / 8 = (j : Int) := by omega
      have r8 : (p : Int) % 8 = (m : Int) := by omega
      have t1 : decide ((p : Int) < 3 * (l.length : Int)) = true := by simp; omega
      have HLT := Lib.hid hlt
      have HPI := Lib.hid hpi
      have HPJ := Lib.hid hpj
      have hb' : (b : Int) ≤ 2 := by omega
      have hm8' : (m : Int) ≤ 7 := by omega
      have hi' : (i : Int) < (l.length : Int) := by omega
      have hj' : (j : Int) ≤ 14 := by omega
      have hp' : (p : Int) ≤ 120 := by omega
      have HII := Lib.hid hi
      clear hlt hp hcs hpi hpj
      have w1 : IntKind.i64.wrap (j : Int) = j := by rw [IntKind.wrap_i64]; omega
      have w2 : IntKind.i64.wrap (1 + (j : Int)) = 1 + (j : Int) := by rw [IntKind.wrap_i64]; omega
      have w3 : IntKind.i64.wrap (m : Int) = m := by rw [IntKind.wrap_i64]; omega
      have w4 : IntKind.i64.wrap (7 - (m : Int)) = 7 - (m : Int) := by rw [IntKind.wrap_i64]; omega
      go_wp2
      generalize hx : bits .and .u8 (lnum (l[i]'HII.out) / 2 ^ (2 - b)) 1 = x
      have x0 : 0 ≤ x := by rw [← hx]; exact bits_lo_u8 _ _ _
      have x1 : x ≤ 255 := by rw [← hx]; exact bits_hi_u8 _ _ _
      have HX := Lib.hid hx
      clear hx
      have r8t : (p : Int).tmod 8 = (m : Int) := by rw [Int.tmod_eq_emod_of_nonneg (by omega)]; exact r8
      have t5 : (0 : Int) ≤ 1 + (j : Int) := by omega
      have t6 : 1 + (j : Int) < 16 := by omega
      have t7 : (1 + (j : Int)).toNat = 1 + j := by omega
      have t8 : (0 : Int) ≤ 7 - (m : Int) := by omega
      have t9 : 7 - (m : Int) ≤ 8 := by omega
      have t10 : (7 - (m : Int)).toNat = 7 - m := by omega
      go_still_tail 12, (by kernel_rfl)
      change wpList _ _ _ _ _ wr.drew
      have NX0 := bit_step HL.out HM.out HPI.out hb HPJ.out hm8 HII.out HX.out
      rw [IntKind.wrap_u8] at NX0
      have NX := Lib.hid NX0
      clear NX0
      have HG2 : Hid (wr.drew.heap[w.heap.size + 1]? = some (.cells (arr .u8 16 (cdF l p)) 31 (0, 0))) := HG
      have H02 : Hid (wr.drew.heap[w.heap.size]? = some (.cells (arr .u8 16 (fun _ => 0)) 31 (0, 0))) := H0
      have HB2 : Hid (Below w.heap.size w wr.drew) := Lib.hid HB.out.drew
      have hfj2 : wr.drew.frozen? ⟨w.heap.size + 1, 1 + j, none⟩ = false := hfj
      have hcj2 : wr.drew.cell? ⟨w.heap.size + 1, 1 + j, none⟩ = some (.int .u8 (cdF l p (1 + j))) := hcj
      clear HG H0 HB hfj hcj hc0
      generalize wr.drew = w2 at HG2 H02 HB2 hfj2 hcj2 ⊢
      go_wp2
      go_roundw
      case rel => exact ⟨p + 1, HLT.out, by go_num, by rw [heap_setCell_at HG2.out, NX.out], by rw [heap_setCell_far (by omega)]; exact H02.out, HB2.out.setCell (p := ⟨w.heap.size + 1, _, none⟩) (by simp) _⟩
      case measure => have := HLT.out; simp [intOf]; omega
    · obtain rfl : p = 3 * l.length := by omega
      have t1 : decide (((3 * l.length : Nat) : Int) < 3 * (l.length : Int)) = false := by simp
      clear hlt hp
      go_wp2_with (first | (refine wpList_load_row rfl 31 _ rfl (w.heap.size + 1) rfl 31 _ _ _ HG.out Try.underlying31 rfl (code_info _ (arr_size _ _ _)) ?_) | (refine wpList_store_row rfl 31 _ _ rfl w.heap.size (arr .u8 16 (cdF l (3 * l.length))) rfl rfl 31 _ H0.out (code_info _ (arr_size _ _ _)) (by rw [arr_size, arr_size]) (arr_cells _ _ _) ?_))
      refine bodyPost_ret (v := .agg (arr .u8 16 (cdF l (3 * l.length)))) ?_ rfl ⟨rfl, ?_⟩
      · exact results_cell_row Try.results65 _ _ w.heap.size _ _ _ _ rfl (setRow_heap _ _ _ _ _ _ H0.out) Try.underlying31 rfl (code_info _ (arr_size _ _ _))
      · exact below_setRow HB.out (Nat.le_refl _) _
end Go.Proofs.Ytdcphheeapmjcaa
