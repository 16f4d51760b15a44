/-
  strconv.ParseUint itself; plain facts on lower-case digits.
-/
import Derived.Test.YtanepboepeijoaaDoorPu
import Derived.Test.YtanepboepeijoaaDoorRt
namespace Go.Proofs.YtanepboepeijoaaDoor
open Go.ChangeShapes Go.WideShapes Go.ChangeAt Go.RowKit
open Fl
/-- the library's variable holds an error -/
def ErrCell (w : World) : Prop := ∃ te pe, w.cell? ⟨2, 0, none⟩ = some (.iface te pe)
theorem ErrCell.below {B : Nat} {w w' : World} (h : ErrCell w) (hb : Below B w w') (hB : 2 < B) : ErrCell w' := by
  obtain ⟨te, pe, h⟩ := h
  exact ⟨te, pe, by rw [hb.cell (p := ⟨2, 0, none⟩) hB]; exact h⟩
theorem parseOut_ok (t : ByteArray) (v : Nat) (hne : t.size ≠ 0) (hmax : t.size ≤ 8) (hv : hexV 0 t.data.toList = some v) (w : World) :
    Calls Tryd.prog 37 #[.string t, .int .i64 16, .int .i64 32] w fun e w' => e = .returned (.tuple #[.int .u64 v, .nilIface]) ∧ Below w.heap.size w w' := by
  have hp := parseIn t hne hmax w
  rw [hv] at hp
  have HP := Lib.hid hp
  clear hp hv hne hmax
  go_enter Tryd.func37, Tryd.ntmps37
  go_wp2_with (go_at_call 59; refine HP.out.mono ?_; rintro e w1 ⟨rfl, b1⟩; have B1 := Lib.hid b1; clear b1; simp only [pret])
  go_ret2
  exact ⟨rfl, B1.out⟩
def BadPost (e : Ending) : Prop := ∃ p, e = .returned (.tuple #[.int .u64 0, .iface 117 p])
theorem parseOut_bad (t : ByteArray) (hne : t.size ≠ 0) (hmax : t.size ≤ 8) (hv : hexV 0 t.data.toList = none) (w : World) (hE : ErrCell w) (hG : 2 < w.heap.size) :
    Calls Tryd.prog 37 #[.string t, .int .i64 16, .int .i64 32] w fun e w' => BadPost e ∧ Below w.heap.size w w' := by
  have hp := parseIn t hne hmax w
  rw [hv] at hp
  have HP := Lib.hid hp
  have HE := Lib.hid hE
  have HL : Hid (t.size ≤ 281474976710656) := Lib.hid (by omega)
  clear hp hv hne hmax hE
  go_enter Tryd.func37, Tryd.ntmps37
  go_wp2_with (go_at_call 59; refine HP.out.mono ?_; rintro e w1 ⟨rfl, b1⟩; have B1 := Lib.hid b1; clear b1; simp only [pret])
  obtain ⟨te, pe, hc⟩ := HE.out.below B1.out hG
  refine (Tryd.strconv_toError_syntax _ t 16 32 (.iface te pe) w1 HL.out hc (.inr ⟨te, pe, rfl⟩)).mono ?_
  rintro e w2 ⟨N, rfl, _, _, b2⟩
  have B2 := Lib.hid (B1.out.trans (b2.mono B1.out.size))
  clear b2 B1 HE HP hc
  go_wp2
  go_ret2
  exact ⟨⟨_, rfl⟩, B2.out⟩
/-! ### lower-case digits -/
def lowD (c : Nat) : Option Nat := if 48 ≤ c ∧ c ≤ 57 then some (c - 48) else if 97 ≤ c ∧ c ≤ 102 then some (c - 87) else none
def lowV : Nat → List UInt8 → Option Nat
  | acc, [] => some acc
  | acc, c :: r => match lowD c.toNat with
    | some d => lowV (acc * 16 + d) r
    | none => none
theorem lowV_some {acc d : Nat} {c : UInt8} {r : List UInt8} (h : lowD c.toNat = some d) : lowV acc (c :: r) = lowV (acc * 16 + d) r := by simp [lowV, h]
theorem lowV_none {acc : Nat} {c : UInt8} {r : List UInt8} (h : lowD c.toNat = none) : lowV acc (c :: r) = none := by simp [lowV, h]
theorem lowD_hexD {c d : Nat} (h : lowD c = some d) : hexD c = some d := by
  unfold lowD at h
  unfold hexD
  split at h
  · rename_i h1; rw [if_pos h1]; exact h
  · rename_i h1
    rw [if_neg h1]
    split at h
    · rename_i h2; rw [if_pos h2]; exact h
    · cases h
theorem lowD_char : ∀ c : Fin 256, (lowD c.val).all (fun d => hexC d == UInt8.ofNat c.val && decide (d < 16)) = true := by decide +kernel
theorem lowD_hexC : ∀ d : Fin 16, lowD (hexC d.val).toNat = some d.val := by decide +kernel
theorem lowD_back {c : UInt8} {d : Nat} (h : lowD c.toNat = some d) : hexC d = c ∧ d < 16 := by
  have h1 := lowD_char ⟨c.toNat, c.toNat_lt⟩
  simp only [h, Option.all_some, Bool.and_eq_true, beq_iff_eq, decide_eq_true_eq] at h1
  exact ⟨by rw [h1.1]; exact UInt8.ofNat_toNat, h1.2⟩
theorem lowV_hexV : ∀ (l : List UInt8) {acc v : Nat}, lowV acc l = some v → hexV acc l = some v
  | [], acc, v, h => h
  | c :: r, acc, v, h => by
    cases hd : lowD c.toNat with
    | none => rw [lowV_none hd] at h; cases h
    | some d => rw [lowV_some hd] at h; rw [hexV_some (lowD_hexD hd)]; exact lowV_hexV r h
theorem hexN_succ (v n : Nat) : hexN v (n + 1) = hexC (v / 16 ^ n % 16) :: hexN v n := by
  unfold hexN
  rw [List.range_succ_eq_map, List.map_cons, List.map_map]
  congr 1
  refine List.map_congr_left fun i hi => ?_
  simp only [Function.comp_apply]
  rw [show n + 1 - 1 - (i + 1) = n - 1 - i from by omega]
theorem lowV_digits : ∀ (l : List UInt8) {acc v : Nat}, lowV acc l = some v → v / 16 ^ l.length = acc ∧ l = hexN v l.length
  | [], acc, v, h => by cases h; exact ⟨by simp, rfl⟩
  | c :: r, acc, v, h => by
    cases hd : lowD c.toNat with
    | none => rw [lowV_none hd] at h; cases h
    | some d =>
      rw [lowV_some hd] at h
      obtain ⟨h1, h2⟩ := lowV_digits r h
      obtain ⟨h3, h4⟩ := lowD_back hd
      refine ⟨?_, ?_⟩
      · rw [List.length_cons, Nat.pow_succ, ← Nat.div_div_eq_div_mul, h1]; omega
      · rw [List.length_cons, hexN_succ, h1, show (acc * 16 + d) % 16 = d from by omega, h3, ← h2]
theorem lowV_hexN : ∀ (n v : Nat), lowV (v / 16 ^ n) (hexN v n) = some v
  | 0, v => by simp [hexN, lowV]
  | n + 1, v => by
    rw [hexN_succ, lowV_some (lowD_hexC ⟨v / 16 ^ n % 16, Nat.mod_lt _ (by omega)⟩)]
    simp only
    rw [Nat.pow_succ, ← Nat.div_div_eq_div_mul, show v / 16 ^ n / 16 * 16 + v / 16 ^ n % 16 = v / 16 ^ n from by omega]
    exact lowV_hexN n v
theorem hexV_lt : ∀ (l : List UInt8) {acc v : Nat}, hexV acc l = some v → v < (acc + 1) * 16 ^ l.length
  | [], acc, v, h => by cases h; simp
  | c :: r, acc, v, h => by
    cases hd : hexD c.toNat with
    | none => rw [hexV_none hd] at h; cases h
    | some d =>
      rw [hexV_some hd] at h
      have h1 := hexV_lt r h
      have h2 := hexD_lt hd
      rw [List.length_cons, Nat.pow_succ, Nat.mul_comm (16 ^ r.length) 16, ← Nat.mul_assoc]
      exact Nat.lt_of_lt_of_le h1 (Nat.mul_le_mul_right _ (by omega))
/-- the word that a text of eight bytes tells, NaNs left out -/
def readW (l : List UInt8) : Option Nat := match lowV 0 l with
  | some v => if kd v = 4 then none else some v
  | none => none
theorem hexT_N (v : Nat) : hexT v 8 = hexN v 8 := by
  rw [hexT_map]; rfl
/-- where the digits are read and their number's text is the text -/
theorem read_yes {l : List UInt8} {v : Nat} (hl : l.length = 8) (h : hexV 0 l = some v) (hk : kd v ≠ 4) (ht : hexT v 8 = l) : readW l = some v := by
  have hlt := hexV_lt l h
  have h2 := lowV_hexN 8 v
  rw [hl] at hlt
  rw [← hexT_N, ht, Nat.div_eq_of_lt (by simpa using hlt)] at h2
  unfold readW
  rw [h2]
  simp only
  rw [if_neg hk]
theorem read_no {l : List UInt8} {v : Nat} (hl : l.length = 8) (h : hexV 0 l = some v) (hk : kd v = 4 ∨ hexT v 8 ≠ l) : readW l = none := by
  unfold readW
  cases hv : lowV 0 l with
  | none => rfl
  | some u =>
    have e := lowV_hexV l hv
    rw [h] at e
    cases e
    rcases hk with hk | hk
    · simp only; rw [if_pos hk]
    · exfalso
      have := (lowV_digits l hv).2
      rw [hl, ← hexT_N] at this
      exact hk this.symm
theorem read_bad {l : List UInt8} (h : hexV 0 l = none) : readW l = none := by
  unfold readW
  cases hv : lowV 0 l with
  | none => rfl
  | some u =>
    have e := lowV_hexV l hv
    rw [h] at e
    cases e
end Go.Proofs.YtanepboepeijoaaDoor
