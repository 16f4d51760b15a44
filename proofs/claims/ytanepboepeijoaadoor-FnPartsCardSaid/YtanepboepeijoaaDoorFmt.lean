/-
  strconv.FormatUint AT BASE 16, for numbers of 32 bits.
-/
import Derived.Test.YtanepboepeijoaaDoorHex
import Derived.Test.YtanepboepeijoaaDoorTk
import Derived.Test.YtanepboepeijoaaDoorArr
namespace Go.Proofs.YtanepboepeijoaaDoor
open Go.ChangeShapes Go.WideShapes Go.ChangeAt Go.RowKit
open Fl
/-- the table's cell that is read for 16 -/
def Tab4 (w : World) : Prop := w.cell? ⟨6, 15, none⟩ = some (.int .u8 4)
theorem Tab4.below {B : Nat} {w w' : World} (h : Tab4 w) (hb : Below B w w') (hB : 6 < B) : Tab4 w' := by
  unfold Tab4
  rw [hb.cell (p := ⟨6, 15, none⟩) hB]; exact h
theorem tz64_16 (w : World) (h : Tab4 w) :
    Calls Tryd.prog 110 #[.int .u64 16] w fun e w' => e = .returned (.int .i64 4) ∧ w = w' := by
  have h := h
  unfold Tab4 at h
  have key : IntKind.u64.wrap (bits BinOp.and IntKind.u64 16 (IntKind.u64.wrap (-16)) * 285870213051353865) / 288230376151711744 = 15 := by decide +kernel
  go_enter Tryd.func110, Tryd.ntmps110
  go_wp2_with (simp only [key])
  go_ret
  exact ⟨rfl, rfl⟩
theorem tz16 (w : World) (h : Tab4 w) :
    Calls Tryd.prog 95 #[.int .u64 16] w fun e w' => e = .returned (.int .i64 4) ∧ w = w' := by
  have H := Lib.hid h
  clear h
  go_enter Tryd.func95, Tryd.ntmps95
  go_wp2_with (go_at_call 110; refine (tz64_16 _ H.out).mono ?_; rintro e w' ⟨rfl, rfl⟩)
  go_ret
  exact ⟨rfl, rfl⟩
theorem pow2_16 (w : World) :
    Calls Tryd.prog 94 #[.int .i64 16] w fun e w' => e = .returned (.bool true) ∧ w = w' := by
  have key : (bits BinOp.and IntKind.i64 16 15 == 0) = true := by decide +kernel
  go_enter Tryd.func94, Tryd.ntmps94
  go_wp2_with (simp only [key])
  go_ret
  exact ⟨ret_bool key, rfl⟩
/-- the last k of 65 bytes: the digits of u -/
def digF (u k : Nat) : Nat → Int := fun p => if 65 ≤ p + k then ((hexC (u / 16 ^ (64 - p) % 16)).toNat : Int) else 0
theorem digF_step (u k : Nat) (hk : k < 65) : updI (digF u k) (64 - k) ((hexC (u / 16 ^ k % 16)).toNat : Int) = digF u (k + 1) := by
  funext p
  unfold updI digF
  by_cases h : p = 64 - k
  · subst h
    rw [if_pos rfl, if_pos (by omega), show 64 - (64 - k) = k from by omega]
  · rw [if_neg h]
    by_cases h2 : 65 ≤ p + k
    · rw [if_pos h2, if_pos (by omega)]
    · rw [if_neg h2, if_neg (by omega)]
/-- the n last digits of u -/
def hexN (u n : Nat) : List UInt8 := (List.range n).map fun j => hexC (u / 16 ^ (n - 1 - j) % 16)
theorem hexN_len (u n : Nat) : (hexN u n).length = n := by simp [hexN]
def Fits (u n : Nat) : Prop := 1 ≤ n ∧ n ≤ 8 ∧ u < 16 ^ n ∧ (n = 1 ∨ 16 ^ (n - 1) ≤ u)
def FmtPost (u : Nat) (e : Ending) : Prop := ∃ n, Fits u n ∧ e = .returned (.tuple #[.slice none 0 0, .string ⟨(hexN u n).toArray⟩])
theorem fits_of {u k : Nat} (hk : k ≤ 7) (hku : k = 0 ∨ 16 ^ k ≤ u) (h : u / 16 ^ k < 16) : Fits u (k + 1) := by
  refine ⟨by omega, by omega, ?_, ?_⟩
  · rw [Nat.pow_succ, Nat.mul_comm]
    rw [Nat.div_lt_iff_lt_mul (Nat.pow_pos (by omega))] at h
    exact h
  · rcases hku with h1 | h1
    · exact .inl (by omega)
    · exact .inr (by rw [Nat.add_sub_cancel]; exact h1)
theorem rowPut {w : World} {b : Nat} {f : Nat → Int} {t : TypeId} (h : w.heap[b]? = some (.cells (arr .u8 65 f) t (0, 0))) (i : Nat) (v : Int) (hi : i < 65) :
    (w.setCell ⟨b, i, none⟩ (.int .u8 v)).heap[b]? = some (.cells (arr .u8 65 (updI f i v)) t (0, 0)) := by
  simp only [World.setCell, Array.getElem?_modify, ↓reduceIte, h, Option.map_some]
  simp [arr_set .u8 65 f i v hi]
theorem slice65 (b j k : Nat) (h : j + k = 64) (W : World) : (Instr.sliceAt 128 (.pointer (some ⟨b, 0, none⟩)) (some (.int .i64 (j : Int))) none none).run Tryd.prog W = .ok (.slice (some ⟨b, j, none⟩) (k + 1) (k + 1)) W := by
  have hal : Tryd.prog.arrayLen 128 = 65 := by simp [Program.arrayLen, Tryd.underlying128]
  rw [run_sliceAt_array_l W 128 ⟨b, 0, none⟩ (by simp [Program.arrayLen, Program.elem, Tryd.underlying128]) .i64 (j : Int) (by omega) (by rw [hal]; omega)]
  rw [hal]
  go_simp
  omega
theorem digits_string {W : World} {b u k j : Nat} (h : W.heap[b]? = some (.cells (arr .u8 65 (digF u (k + 1))) 128 (0, 0))) (hj : j + k = 64) :
    (convert 35 9 (.slice (some ⟨b, j, none⟩) (k + 1) (k + 1))).run Tryd.prog W = .ok (.string ⟨(hexN u (k + 1)).toArray⟩) W := by
  have e := run_convert_bytes_back (P := Tryd.prog) W 35 9 5 ⟨b, j, none⟩ (k + 1) (hexN u (k + 1)) Tryd.underlying35 Tryd.underlying5 Tryd.underlying9 (fun i hi => by
    rw [hexN_len] at hi
    have hc := arr_get .u8 65 (digF u (k + 1)) (j + i) (by omega)
    have e2 : digF u (k + 1) (j + i) = ((hexN u (k + 1))[i]'(by rw [hexN_len]; exact hi)).toNat := by
      unfold digF
      rw [if_pos (by omega)]
      simp only [hexN, List.getElem_map, List.getElem_range]
      rw [show 64 - (j + i) = k + 1 - 1 - i from by omega]
    rw [← e2]
    have ea : (⟨b, j, none⟩ : Addr).add i = ⟨b, j + i, none⟩ := by cases i <;> simp [Addr.add]
    rw [ea]
    simp [World.cell?, h, hc])
  rw [hexN_len] at e
  exact e
theorem zeros65 (u : Nat) : Tryd.zeroCells128 = arr .u8 65 (digF u 0) := by
  rw [arr_congr (g := zI) (fun i hi => by unfold digF zI; rw [if_neg (by omega)])]
  kernel_rfl
theorem and15_64 (x : Nat) (hx : x < 18446744073709551616) : bits .and .u64 (x : Int) 15 = ((x % 16 : Nat) : Int) := by
  rw [show (15 : Int) = ((15 : Nat) : Int) from rfl, bits_and_u64_nat x _ hx (by omega), show (15 : Nat) = 2 ^ 4 - 1 from rfl, Nat.and_two_pow_sub_one_eq_mod]
set_option maxRecDepth 8000 in
theorem formatBits16 (u : Nat) (hu : u < 4294967296) (w : World) (hT : Tab4 w) (hG : 6 < w.heap.size) :
    Calls Tryd.prog 72 #[.slice none 0 0, .int .u64 u, .int .i64 16, .bool false, .bool false] w fun e w' =>
      FmtPost u e ∧ Below w.heap.size w w' := by
  have HX : Hid (∀ (d : Nat), d < 16 → ∀ w, (Instr.index 9 (.string ⟨#[48, 49, 50, 51, 52, 53, 54, 55, 56, 57, 97, 98, 99, 100, 101, 102, 103, 104, 105, 106, 107, 108, 109, 110, 111, 112, 113, 114, 115, 116, 117, 118, 119, 120, 121, 122]⟩) (.int .u64 (d : Int))).run Tryd.prog w = .ok (.int .u8 ((hexC d).toNat : Int)) w) := Lib.hid fun d hd w => idx36 9 Tryd.underlying9 .u64 d hd w
  have HT := Lib.hid hT
  clear hT
  have HZ := Lib.hid (zeros65 u)
  have HB0 := Lib.hid ((Below.refl w.heap.size w).alloc (Nat.le_refl _) (.cells (arr .u8 65 (digF u 0)) 128))
  have HR0 := Lib.hid (heap_alloc_new w (.cells (arr .u8 65 (digF u 0)) 128))
  go_enter Tryd.func72, Tryd.ntmps72
  go_wp2_with fail
  rw [HZ.out]
  refine (pow2_16 _).mono ?_
  rintro e w' ⟨rfl, rfl⟩
  generalize w.alloc (.cells (arr .u8 65 (digF u 0)) 128) = w1 at HB0 HR0 ⊢
  have T1 := Lib.hid (HT.out.below HB0.out hG)
  go_wp2_with (go_at_call 95; refine (tz16 _ T1.out).mono ?_; rintro e w' ⟨rfl, rfl⟩)
  go_loopw [1, 13] (fun x i wr => ∃ k j : Nat, k ≤ 7 ∧ j + k = 64 ∧ (k = 0 ∨ 16 ^ k ≤ u) ∧ x = .int .u64 ((u / 16 ^ k : Nat) : Int) ∧ i = .int .i64 ((j : Int) + 1) ∧ wr.heap[w.heap.size]? = some (.cells (arr .u8 65 (digF u k)) 128 (0, 0)) ∧ Below w.heap.size w wr)
    (fun x _ _ => (intOf x).toNat)
  case atStart => exact ⟨0, 64, by omega, by omega, .inl rfl, by rw [Nat.pow_zero, Nat.div_one], by go_num, HR0.out, HB0.out⟩
  case round =>
    obtain ⟨k, j, hk, hjk, hku, rfl, rfl, hrow, hbel⟩ := hrel
    have g1 : wr.cell? ⟨w.heap.size, j, none⟩ = some (.int .u8 (digF u k j)) := by simp [World.cell?, hrow, arr_get _ _ _ _ (show j < 65 by omega)]
    have g2 : wr.frozen? ⟨w.heap.size, j, none⟩ = false := by simp [World.frozen?, hrow]
    have HR := Lib.hid hrow
    have HB := Lib.hid hbel
    clear hrow hbel
    have hU : u / 16 ^ k ≤ u := Nat.div_le_self _ _
    have hD := Lib.hid (digF_step u k (by omega))
    have HS : Hid (u / 16 ^ (k + 1) = u / 16 ^ k / 16) := Lib.hid (by rw [Nat.pow_succ, Nat.div_div_eq_div_mul])
    have HP : Hid (16 ≤ u / 16 ^ k → 16 ^ (k + 1) ≤ u) := Lib.hid fun h => by
      have := Nat.mul_le_of_le_div _ _ _ h
      rw [Nat.pow_succ, Nat.mul_comm]; exact this
    obtain ⟨U, hUU⟩ : ∃ U, u / 16 ^ k = U := ⟨_, rfl⟩
    rw [hUU] at hU hD HS HP ⊢
    obtain ⟨d, hd⟩ : ∃ d, U % 16 = d := ⟨_, rfl⟩
    have hx := HX.out d (by omega)
    have hb : bits .and .u64 (U : Int) 15 = (d : Int) := by rw [and15_64 U (by omega), hd]
    rw [hd] at hD
    have hjj : ((j : Int)).toNat = j := by omega
    by_cases h16 : 16 ≤ U
    · have h16' : (16 : Int) ≤ (U : Int) := by omega
      clear hUU hd
      have hk7 : k + 1 ≤ 7 := by
        rcases Nat.lt_or_ge k 7 with h | h
        · omega
        · exfalso
          have h8 := HP.out h16
          have : 16 ^ 8 ≤ 16 ^ (k + 1) := Nat.pow_le_pow_right (by omega) (by omega)
          omega
      go_wp2
      go_roundw
      case rel => exact ⟨k + 1, j - 1, hk7, by omega, .inr (HP.out h16), by rw [HS.out]; go_num, by go_num, by rw [rowPut HR.out j _ (by omega), show j = 64 - k from by omega, hD.out], HB.out.setCell (Nat.le_refl _) _⟩
      case measure => simp [intOf]; omega
    · have h16' : (U : Int) < 16 := by omega
      have hdU : d = U := by omega
      have hx' := HX.out U (by omega)
      have HF := Lib.hid (fits_of hk hku (by rw [hUU]; omega))
      have hr1 : (wr.setCell ⟨w.heap.size, j, none⟩ (.int .u8 ((hexC U).toNat : Int))).heap[w.heap.size]? = some (.cells (arr .u8 65 (digF u (k + 1))) 128 (0, 0)) := by
        rw [rowPut HR.out j _ (by omega), ← hD.out, hdU, show 64 - k = j from by omega]
      have hb1 := HB.out.setCell (p := ⟨w.heap.size, j, none⟩) (Nat.le_refl _) (.int .u8 ((hexC U).toNat : Int))
      have hcv := digits_string hr1 (k := k) (j := j) (by omega)
      have hsl := fun W => slice65 w.heap.size j k (by omega) W
      have HB1 := Lib.hid hb1
      clear hUU hd hb h16 hx hD HS HP hb1 hr1
      go_wp2
      exact bodyPost_ret (v := .tuple #[.slice none 0 0, .string ⟨(hexN u (k + 1)).toArray⟩]) (by simp [results, Tryd.results72, go_sem]) rfl ⟨⟨k + 1, HF.out, rfl⟩, HB1.out⟩
end Go.Proofs.YtanepboepeijoaaDoor
