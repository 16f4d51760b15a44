/-
  RealText: the program's text of a number.
-/
import Derived.Test.YtanepboepeijoaaDoorFmt
import Derived.Test.YtanepboepeijoaaDoorTx
import Derived.Test.YtanepboepeijoaaDoorShd
namespace Go.Proofs.YtanepboepeijoaaDoor
open Go.ChangeShapes Go.WideShapes Go.ChangeAt Go.RowKit
open Fl
theorem hexT_snoc (b : Nat) : ∀ k, hexT b (k + 1) = hexT b k ++ [hexC (b / 16 ^ (7 - k) % 16)] := fun _ => rfl
theorem hexT_map (b : Nat) : ∀ k, hexT b k = (List.range k).map fun j => hexC (b / 16 ^ (7 - j) % 16)
  | 0 => rfl
  | k + 1 => by rw [hexT_snoc, hexT_map b k, List.range_succ, List.map_append]; rfl
theorem repeatL_zero : ∀ c, Lib.repeatL [48] c = List.replicate c 48
  | 0 => rfl
  | c + 1 => by rw [Lib.repeatL, repeatL_zero c]; rfl
/-- noughts ahead of the digits make eight -/
theorem pad_eight {u n : Nat} (h : Fits u n) : Lib.repeatL [48] (8 - n) ++ hexN u n = hexT u 8 := by
  obtain ⟨h1, h2, h3, _⟩ := h
  rw [repeatL_zero, hexT_map]
  apply List.ext_getElem
  · simp [hexN_len]; omega
  · intro i hi1 hi2
    simp only [List.length_map, List.length_range] at hi2
    simp only [List.getElem_map, List.getElem_range, List.getElem_append, List.length_replicate]
    split
    · rename_i hlt
      rw [List.getElem_replicate]
      have : u / 16 ^ (7 - i) = 0 := Nat.div_eq_of_lt (Nat.lt_of_lt_of_le h3 (Nat.pow_le_pow_right (by omega) (by omega)))
      rw [this]; rfl
    · rename_i hge
      simp only [hexN, List.getElem_map, List.getElem_range]
      rw [show n - 1 - (i - (8 - n)) = 7 - i from by omega]
def TextPost (u : Nat) (e : Ending) : Prop := ∃ n, Fits u n ∧ e = .returned (.string ⟨(hexN u n).toArray⟩)
theorem fmtIn (u : Nat) (hu : u < 4294967296) (w : World) (hT : Tab4 w) (hG : 6 < w.heap.size) :
    Calls Tryd.prog 51 #[.int .u64 u, .int .i64 16] w fun e w' => TextPost u e ∧ Below w.heap.size w w' := by
  have HF := Lib.hid (formatBits16 u hu w hT hG)
  clear hT hG
  go_enter Tryd.func51, Tryd.ntmps51
  go_wp2_with (go_at_call 72; refine HF.out.mono ?_; rintro e w1 ⟨⟨n, hn, rfl⟩, b1⟩; have HN := Lib.hid hn; have B1 := Lib.hid b1; clear hn b1)
  go_ret
  exact ⟨⟨n, HN.out, rfl⟩, B1.out⟩
theorem fmtOut (u : Nat) (hu : u < 4294967296) (w : World) (hT : Tab4 w) (hG : 6 < w.heap.size) :
    Calls Tryd.prog 32 #[.int .u64 u, .int .i64 16] w fun e w' => TextPost u e ∧ Below w.heap.size w w' := by
  have HF := Lib.hid (fmtIn u hu w hT hG)
  clear hT hG
  go_enter Tryd.func32, Tryd.ntmps32
  go_wp2_with (go_at_call 51; refine HF.out.mono ?_; rintro e w1 ⟨⟨n, hn, rfl⟩, b1⟩; have HN := Lib.hid hn; have B1 := Lib.hid b1; clear hn b1)
  go_ret
  exact ⟨⟨n, HN.out, rfl⟩, B1.out⟩
set_option maxRecDepth 8000 in
theorem implText_nan (a : Nat) (ha : W32 a) (hk : kd a = 4) (w : World) :
    Calls Tryd.prog 8 #[.float .f32 a] w fun e w' => e = .returned (.string ⟨#[110, 97, 110]⟩) ∧ Below w.heap.size w w' := by
  have hd : decide (kd a = 4) = true := by simpa using hk
  have HK := Lib.hid hk
  clear hk
  go_enter Tryd.func8, Tryd.ntmps8
  go_wp2_with (first | (go_at_call 30; refine (kindOf_any _ ha _).mono ?_; rintro e w' ⟨rfl, rfl⟩) | (go_at_call 31; refine (isNaN_any _ _).mono ?_; rintro e w' ⟨rfl, rfl⟩; rw [hd]))
  go_ret
  exact ⟨rfl, Below.refl _ _⟩
set_option maxRecDepth 8000 in
theorem implText_num (a : Nat) (ha : W32 a) (hk : kd a ≠ 4) (w : World) (hT : Tab4 w) (hG : 6 < w.heap.size) :
    Calls Tryd.prog 8 #[.float .f32 a] w fun e w' => e = .returned (.string ⟨(hexT a 8).toArray⟩) ∧ Below w.heap.size w w' := by
  have hd : decide (kd a = 4) = false := by simpa using hk
  have HF := Lib.hid (fmtOut a (by unfold W32 at ha; omega) w hT hG)
  have ha1 : (a : Int) ≤ 4294967295 := by unfold W32 at ha; omega
  clear hT hG hk
  go_enter Tryd.func8, Tryd.ntmps8
  go_wp2_with (first | (go_at_call 30; refine (kindOf_any _ ha _).mono ?_; rintro e w' ⟨rfl, rfl⟩) | (go_at_call 31; refine (isNaN_any _ _).mono ?_; rintro e w' ⟨rfl, rfl⟩; rw [hd]) | (go_at_call 32; refine HF.out.mono ?_; rintro e w1 ⟨⟨n, hn, rfl⟩, b1⟩; have HN := Lib.hid hn; have B1 := Lib.hid b1; clear hn b1))
  have hn := HN.out
  have hn1 : n ≤ 8 := hn.2.1
  have hl := hexN_len a n
  have ew : wrap64 (8 - ((hexN a n).length : Int)) = ((8 - n : Nat) : Int) := by rw [hl]; unfold wrap64; omega
  rw [ew]
  have hadd : ∀ w, (Op.stringOp .add ⟨(Lib.repeatL [48] (8 - n)).toArray⟩ ⟨(hexN a n).toArray⟩).run Tryd.prog w = .ok (.string ⟨(hexT a 8).toArray⟩) w := fun w => by
    rw [run_string_add_lists w _ _ (by rw [Lib.repeatL_length]; simp; omega) (by rw [hl]; omega), pad_eight hn]
  clear hl ew hn
  refine (Tryd.strings_Repeat ⟨#[48]⟩ (8 - n) _ (by omega) (by show 1 * (8 - n) ≤ _; omega)).mono ?_
  rintro e w2 ⟨rfl, b2⟩
  have B2 := Lib.hid (B1.out.trans (b2.mono B1.out.size))
  clear b2 B1 HN
  go_wp2
  go_ret
  exact ⟨rfl, B2.out⟩
end Go.Proofs.YtanepboepeijoaaDoor
