/-
  SEVERAL TEXTS IN ONE: XFl,XBits,XSf,XConK,XArr,XKey,XKey2,XKey3,XKey4,XKey5,XKey6,XCx
-/
import Derived.Laws.FloatArith
import Derived.WalkKit
import Derived.Deep.Draws
import Derived.Laws.BitsAllLaws
import Derived.Test.YtkijgadkgfapgaaChecked
import Derived.ProofKit
import Derived.OpenShut
import Derived.WalkLawsBesides
import Derived.Outline
import Derived.Laws.Externs
import Derived.Lib.Hide
import Derived.BigQuiet
import Derived.Deep.QuietTactic
import Derived.Deep.DeepFit
import Derived.ChangeShapes
import Derived.Below
import Derived.LoopTactic
import Derived.Laws.Rows
import Derived.Laws.Tables
import Derived.Laws.CopyOwn
import Derived.OwnWalk
import Derived.WalkSpells
import Derived.Deep.RegionHeld3
import Derived.StillTailTactics
/-
  PLAIN MATHEMATICS OF FLOATS (no program in sight): how words are read, compared and written; conversions between widths; the NaNs of the tape.
-/
namespace Go.Proofs.Ytkijgadkgfapgaa.Fl
open Ieee

theorem read32 (b : Nat) : single.read b = (if b % 2147483648 < 8388608 then .number (b / 2147483648 % 2 == 1) (b % 2147483648) (-149) else if b % 2147483648 < 2139095040 then .number (b / 2147483648 % 2 == 1) (8388608 + b % 2147483648 % 8388608) (-149 + ((b % 2147483648 / 8388608 - 1 : Nat) : Int)) else if b % 2147483648 = 2139095040 then .infinity (b / 2147483648 % 2 == 1) else .nan (b / 2147483648 % 2 == 1) (b % 2147483648 - 2139095040)) := by
  rfl

theorem read64 (b : Nat) : double.read b = (if b % 9223372036854775808 < 4503599627370496 then .number (b / 9223372036854775808 % 2 == 1) (b % 9223372036854775808) (-1074) else if b % 9223372036854775808 < 9218868437227405312 then .number (b / 9223372036854775808 % 2 == 1) (4503599627370496 + b % 9223372036854775808 % 4503599627370496) (-1074 + ((b % 9223372036854775808 / 4503599627370496 - 1 : Nat) : Int)) else if b % 9223372036854775808 = 9218868437227405312 then .infinity (b / 9223372036854775808 % 2 == 1) else .nan (b / 9223372036854775808 % 2 == 1) (b % 9223372036854775808 - 9218868437227405312)) := by
  rfl

def nan32 (b : Nat) : Bool := decide (2139095040 < b % 2147483648)
def nan64 (b : Nat) : Bool := decide (9218868437227405312 < b % 9223372036854775808)
def fin32 (b : Nat) : Bool := decide (b % 2147483648 < 2139095040)

theorem order_self_num (s : Bool) (m : Nat) (i : Int) : Datum.order (.number s m i) (.number s m i) = some .eq := by
  simp [Datum.order]
theorem order_self_inf (s : Bool) : Datum.order (.infinity s) (.infinity s) = some .eq := by
  simp [Datum.order]

theorem order32_self {b : Nat} (h : nan32 b = false) : single.order b b = some .eq := by
  unfold nan32 at h; simp at h
  unfold Format.order; rw [read32]
  split
  · exact order_self_num _ _ _
  · split
    · exact order_self_num _ _ _
    · rw [if_pos (by omega)]; exact order_self_inf _
theorem order64_self {b : Nat} (h : nan64 b = false) : double.order b b = some .eq := by
  unfold nan64 at h; simp at h
  unfold Format.order; rw [read64]
  split
  · exact order_self_num _ _ _
  · split
    · exact order_self_num _ _ _
    · rw [if_pos (by omega)]; exact order_self_inf _
theorem order32_nanL {a : Nat} (b : Nat) (h : nan32 a = true) : single.order a b = none := by
  unfold nan32 at h; simp at h
  unfold Format.order; rw [read32 a, if_neg (by omega), if_neg (by omega), if_neg (by omega)]; rfl
theorem order32_nanR (a : Nat) {b : Nat} (h : nan32 b = true) : single.order a b = none := by
  unfold nan32 at h; simp at h
  unfold Format.order; rw [read32 b, if_neg (by omega), if_neg (by omega), if_neg (by omega)]
  cases single.read a <;> rfl
theorem order64_nanL {a : Nat} (b : Nat) (h : nan64 a = true) : double.order a b = none := by
  unfold nan64 at h; simp at h
  unfold Format.order; rw [read64 a, if_neg (by omega), if_neg (by omega), if_neg (by omega)]; rfl
theorem order64_nanR (a : Nat) {b : Nat} (h : nan64 b = true) : double.order a b = none := by
  unfold nan64 at h; simp at h
  unfold Format.order; rw [read64 b, if_neg (by omega), if_neg (by omega), if_neg (by omega)]
  cases double.read a <;> rfl

/-- the tape's NaN is one -/
theorem nan32_cut (q : Question) (t : Nat) (h : (∃ x y, q = .nanBits .f32 x y) ∨ (∃ x, q = .nanConv .f32 x)) : nan32 (q.cut t) = true := by
  rcases h with ⟨x, y, rfl⟩ | ⟨x, rfl⟩
  · show nan32 ((t % 2) * 2147483648 + 0x7f800000 + 1 + (t / 2) % 8388607) = true
    unfold nan32; rcases Nat.mod_two_eq_zero_or_one t with h | h <;> rw [h] <;> simp <;> omega
  · show nan32 ((t % 2) * 2147483648 + 0x7f800000 + 1 + (t / 2) % 8388607) = true
    unfold nan32; rcases Nat.mod_two_eq_zero_or_one t with h | h <;> rw [h] <;> simp <;> omega
theorem nan64_cut (q : Question) (t : Nat) (h : (∃ x y, q = .nanBits .f64 x y) ∨ (∃ x, q = .nanConv .f64 x)) : nan64 (q.cut t) = true := by
  rcases h with ⟨x, y, rfl⟩ | ⟨x, rfl⟩
  · show nan64 ((t % 2) * 9223372036854775808 + 9218868437227405312 + 1 + (t / 2) % 4503599627370495) = true
    unfold nan64; rcases Nat.mod_two_eq_zero_or_one t with h | h <;> rw [h] <;> simp <;> omega
  · show nan64 ((t % 2) * 9223372036854775808 + 9218868437227405312 + 1 + (t / 2) % 4503599627370495) = true
    unfold nan64; rcases Nat.mod_two_eq_zero_or_one t with h | h <;> rw [h] <;> simp <;> omega

theorem signWeight_pos (f : Format) : 0 < f.signWeight := Nat.two_pow_pos _
theorem binade_pos (f : Format) : 0 < f.binade := Nat.two_pow_pos _

theorem word_mod (f : Format) (s : Bool) {r : Nat} (h : r < f.signWeight) : f.word s r % f.signWeight = r := by
  unfold Format.word
  cases s
  · simp [Nat.mod_eq_of_lt h]
  · simp [Nat.mod_eq_of_lt h]
theorem word_sign (f : Format) (s : Bool) {r : Nat} (h : r < f.signWeight) : (f.word s r / f.signWeight % 2 == 1) = s := by
  unfold Format.word
  have hp := signWeight_pos f
  cases s
  · simp [Nat.div_eq_of_lt h]
  · simp [Nat.add_div_left _ hp, Nat.div_eq_of_lt h]

theorem read_word (f : Format) (s : Bool) {r : Nat} (h : r < f.signWeight) :
    f.read (f.word s r) = (if r < f.binade then .number s r f.leastPlace
      else if r < f.infRung then .number s (f.binade + r % f.binade) (f.leastPlace + (r / f.binade - 1 : Nat))
      else if r = f.infRung then .infinity s else .nan s (r - f.infRung)) := by
  unfold Format.read
  simp only [word_mod f s h, word_sign f s h]

theorem cut_zero (w : Toward) (s : Bool) (n : Nat) : w.cut s n 0 = n := by
  unfold Toward.cut
  have e : (1 <<< min 0 (n.log2 + 2)) = 1 := by simp
  rw [e]
  cases w <;> simp [Nat.mod_one]

/-- A NUMBER THAT THE FORMAT HAS is written as it is, and read again. -/
theorem read_nearest_exact (f : Format) (s : Bool) (m : Nat) (p : Int) (hm : m ≠ 0) (hl : m.log2 ≤ f.fractionBits) (hp : f.leastPlace ≤ p)
    (ht : p + m.log2 < f.leastPlace + (2 ^ f.exponentBits - 2 : Nat) + f.fractionBits) (hE : 2 ≤ f.exponentBits) :
    f.read (f.nearest s m p) = .number s (m <<< (p - max (p + m.log2 - f.fractionBits) f.leastPlace).toNat) (max (p + m.log2 - f.fractionBits) f.leastPlace) := by
  have hB := binade_pos f
  have hlt : m < 2 ^ (m.log2 + 1) := Nat.lt_log2_self
  have hge : 2 ^ m.log2 ≤ m := Nat.log2_self_le hm
  obtain ⟨last, hlast⟩ : ∃ last, last = max (p + m.log2 - f.fractionBits) f.leastPlace := ⟨_, rfl⟩
  have h1 : last ≤ p := by omega
  have hE' : 4 ≤ 2 ^ f.exponentBits := by
    calc 4 = 2 ^ 2 := rfl
      _ ≤ 2 ^ f.exponentBits := Nat.pow_le_pow_right (by omega) hE
  have hdr : (last - p).toNat = 0 := by omega
  obtain ⟨k, hk⟩ : ∃ k : Nat, (p - last).toNat = k := ⟨_, rfl⟩
  have hkept : m <<< k < 2 * f.binade := by
    have h2 : m.log2 + k ≤ f.fractionBits := by omega
    rw [Nat.shiftLeft_eq]
    calc m * 2 ^ k < 2 ^ (m.log2 + 1) * 2 ^ k := (Nat.mul_lt_mul_right (Nat.two_pow_pos k)).2 hlt
      _ = 2 * 2 ^ (m.log2 + k) := by rw [← Nat.pow_add, ← Nat.pow_succ']; congr 1; omega
      _ ≤ 2 * 2 ^ f.fractionBits := Nat.mul_le_mul_left _ (Nat.pow_le_pow_right (by omega) h2)
  have hnear : f.nearest s m p = f.word s (min ((last - f.leastPlace).toNat * f.binade + m <<< k) f.infRung) := by
    unfold Format.nearest
    rw [if_neg hm]
    simp only [← hlast, hdr, hk, cut_zero]
  obtain ⟨q, hq⟩ : ∃ q : Nat, (last - f.leastPlace).toNat = q := ⟨_, rfl⟩
  have hqt : q + 2 ≤ 2 ^ f.exponentBits - 1 := by omega
  have hri : q * f.binade + m <<< k < f.infRung := by
    unfold Format.infRung
    calc q * f.binade + m <<< k < q * f.binade + 2 * f.binade := by omega
      _ = (q + 2) * f.binade := by rw [Nat.add_mul]
      _ ≤ (2 ^ f.exponentBits - 1) * f.binade := Nat.mul_le_mul_right _ hqt
  have hrs := Nat.lt_trans hri f.infRung_lt
  rw [hnear, hq, Nat.min_eq_left (Nat.le_of_lt hri), read_word f s hrs, ← hlast, hk]
  by_cases hsub : q * f.binade + m <<< k < f.binade
  · rw [if_pos hsub]
    have hq0 : q = 0 := by
      rcases Nat.eq_zero_or_pos q with h | h
      · exact h
      · have hle := Nat.le_mul_of_pos_left f.binade h
        exact absurd (Nat.lt_of_le_of_lt (Nat.le_trans hle (Nat.le_add_right _ _)) hsub) (Nat.lt_irrefl _)
    subst hq0
    simp only [Nat.zero_mul, Nat.zero_add]
    congr 1
    omega
  · rw [if_neg hsub, if_pos hri]
    have hfull : f.binade ≤ m <<< k := by
      rcases Nat.eq_zero_or_pos q with h | h
      · subst h; simpa using hsub
      · have : p + m.log2 - f.fractionBits = last := by omega
        have h2 : m.log2 + k = f.fractionBits := by omega
        rw [Nat.shiftLeft_eq]
        calc f.binade = 2 ^ m.log2 * 2 ^ k := by unfold Format.binade; rw [← Nat.pow_add, h2]
          _ ≤ m * 2 ^ k := Nat.mul_le_mul_right _ hge
    have e1 : (q * f.binade + m <<< k) % f.binade = m <<< k - f.binade := by
      rw [Nat.mul_comm, Nat.mul_add_mod, Nat.mod_eq_sub_mod hfull, Nat.mod_eq_of_lt (by omega)]
    have e2 : (q * f.binade + m <<< k) / f.binade = q + 1 := by
      rw [Nat.mul_comm, Nat.mul_add_div hB, Nat.div_eq_sub_div hB hfull, Nat.div_eq_of_lt (by omega)]
    rw [e1, e2]
    congr 1 <;> omega

theorem read_nearest_zero (f : Format) (s : Bool) (p : Int) : f.read (f.nearest s 0 p) = .number s 0 f.leastPlace := by
  unfold Format.nearest
  rw [if_pos rfl, read_word f s (signWeight_pos f), if_pos (binade_pos f)]

/-! ### a number taken from itself; the tape's NaNs -/
theorem sub_self_num (f : Format) {a : Nat} {s : Bool} {m : Nat} {p : Int} (h : f.read a = .number s m p) : f.sub a a = some 0 := by
  unfold Format.sub
  rw [h]
  have : signed s m (p - min p p).toNat + signed (!s) m (p - min p p).toNat = 0 := by
    cases s <;> simp [signed] <;> omega
  simp only [Datum.opposite, Datum.sum, this, ↓reduceIte, Option.map_some]
  cases s <;> rfl
theorem sub_self_fin {a : Nat} (h : fin32 a = true) : single.sub a a = some 0 := by
  have h' : a % 2147483648 < 2139095040 := by simpa [fin32] using h
  by_cases h1 : a % 2147483648 < 8388608
  · exact sub_self_num single (by rw [read32, if_pos h1])
  · exact sub_self_num single (by rw [read32, if_neg h1, if_pos h'])
theorem sub_self_odd {a : Nat} (h : fin32 a = false) : single.sub a a = none := by
  have h' : ¬ a % 2147483648 < 2139095040 := by simpa [fin32] using h
  have h1 : ¬ a % 2147483648 < 8388608 := by omega
  unfold Format.sub
  by_cases h2 : a % 2147483648 = 2139095040
  · rw [read32, if_neg h1, if_neg h', if_pos h2]; simp [Datum.opposite, Datum.sum]
  · rw [read32, if_neg h1, if_neg h', if_neg h2]; rfl
/-- what the tape gives where 'x op y' is no number -/
def nanS (x y : Nat) (w : World) : Nat := (Question.nanBits .f32 x y).cut (w.tape w.drawn (.nanBits .f32 x y))
def nanD (x y : Nat) (w : World) : Nat := (Question.nanBits .f64 x y).cut (w.tape w.drawn (.nanBits .f64 x y))
def nanC32 (x : Nat) (w : World) : Nat := (Question.nanConv .f32 x).cut (w.tape w.drawn (.nanConv .f32 x))
def nanC64 (x : Nat) (w : World) : Nat := (Question.nanConv .f64 x).cut (w.tape w.drawn (.nanConv .f64 x))
theorem nanS_nan (x y : Nat) (w : World) : nan32 (nanS x y w) = true := nan32_cut _ _ (Or.inl ⟨x, y, rfl⟩)
theorem nanD_nan (x y : Nat) (w : World) : nan64 (nanD x y w) = true := nan64_cut _ _ (Or.inl ⟨x, y, rfl⟩)
theorem nanC32_nan (x : Nat) (w : World) : nan32 (nanC32 x w) = true := nan32_cut _ _ (Or.inr ⟨x, rfl⟩)
theorem nanC64_nan (x : Nat) (w : World) : nan64 (nanC64 x w) = true := nan64_cut _ _ (Or.inr ⟨x, rfl⟩)
section
variable {P : Program} (w : World)
theorem run_arith_nan32 (op : BinOp) (t : TypeId) (x y : Nat) (hop : op = .add ∨ op = .sub ∨ op = .mul ∨ op = .quo) (h : floatBits op .f32 x y = none) :
    (binOp op t (.float .f32 x) (.float .f32 y)).run P w = .ok (.float .f32 (nanS x y w)) w.drew := by
  unfold floatBits at h
  rcases hop with rfl | rfl | rfl | rfl <;> simp only at h <;> simp [binOp, Op.floatArith, h, nanS, Question.forced]
theorem run_arith_nan64 (op : BinOp) (t : TypeId) (x y : Nat) (hop : op = .add ∨ op = .sub ∨ op = .mul ∨ op = .quo) (h : floatBits op .f64 x y = none) :
    (binOp op t (.float .f64 x) (.float .f64 y)).run P w = .ok (.float .f64 (nanD x y w)) w.drew := by
  unfold floatBits at h
  rcases hop with rfl | rfl | rfl | rfl <;> simp only at h <;> simp [binOp, Op.floatArith, h, nanD, Question.forced]
/-- a NaN, widened: some NaN -/
theorem run_widen_nan (src dst : TypeId) (b : Nat) (hs : P.underlying src = some (.float .f32)) (hd : P.underlying dst = some (.float .f64)) (h : nan32 b = true) :
    (convert src dst (.float .f32 b)).run P w = .ok (.float .f64 (nanC64 b w)) w.drew := by
  have h' : 2139095040 < b % 2147483648 := by simpa [nan32] using h
  have hr : FloatKind.f32.decode b = .nan (b / 2147483648 % 2 == 1) (b % 2147483648 - 2139095040) := by
    show single.read b = _
    rw [read32, if_neg (by omega), if_neg (by omega), if_neg (by omega)]
  simp [convert, run_underlying hs, run_underlying hd, Conv.floatToFloat, hr, nanC64, Question.forced]
theorem run_narrow_nan (src dst : TypeId) (b : Nat) (hs : P.underlying src = some (.float .f64)) (hd : P.underlying dst = some (.float .f32)) (h : nan64 b = true) :
    (convert src dst (.float .f64 b)).run P w = .ok (.float .f32 (nanC32 b w)) w.drew := by
  have h' : 9218868437227405312 < b % 9223372036854775808 := by simpa [nan64] using h
  have hr : FloatKind.f64.decode b = .nan (b / 9223372036854775808 % 2 == 1) (b % 9223372036854775808 - 9218868437227405312) := by
    show double.read b = _
    rw [read64, if_neg (by omega), if_neg (by omega), if_neg (by omega)]
  simp [convert, run_underlying hs, run_underlying hd, Conv.floatToFloat, hr, nanC32, Question.forced]
end

/-! ### a number widened -/
theorem log2_lt24 {m : Nat} (h : m < 16777216) : m.log2 ≤ 23 := by
  by_cases hm : m = 0
  · subst hm; decide
  · have := (Nat.log2_lt hm (k := 24)).2 h
    omega
/-- The word of a narrow number that is not NaN, as a wide one. -/
def widen (b : Nat) : Nat := double.write (single.read b)
theorem read_widen_num {b : Nat} {s : Bool} {m : Nat} {p : Int} (h : single.read b = .number s m p) (hm : m < 16777216) (h1 : -149 ≤ p) (h2 : p ≤ 104) :
    ∃ k : Nat, ∃ q : Int, double.read (widen b) = .number s (m * 2 ^ k) q ∧ (m ≠ 0 → q = p - k) := by
  unfold widen
  rw [h]
  show ∃ k : Nat, ∃ q : Int, double.read (double.nearest s m p) = _ ∧ _
  by_cases hm0 : m = 0
  · subst hm0
    refine ⟨0, double.leastPlace, ?_, fun hh => absurd rfl hh⟩
    rw [read_nearest_zero]
  · have hl := log2_lt24 hm
    have hlp : double.leastPlace = -1074 := rfl
    have hfb : double.fractionBits = 52 := rfl
    have h := read_nearest_exact double s m p hm0 (by rw [hfb]; omega) (by rw [hlp]; omega) (by rw [hlp, hfb]; have : (2 : Nat) ^ double.exponentBits = 2048 := rfl; rw [this]; omega) (by decide)
    rw [Nat.shiftLeft_eq] at h
    exact ⟨_, _, h, fun _ => by rw [hlp, hfb]; omega⟩
theorem read32_num {b : Nat} (h : fin32 b = true) : ∃ s m p, single.read b = .number s m p ∧ m < 16777216 ∧ -149 ≤ p ∧ p ≤ 104 := by
  have h' : b % 2147483648 < 2139095040 := by simpa [fin32] using h
  by_cases h1 : b % 2147483648 < 8388608
  · exact ⟨_, _, _, by rw [read32, if_pos h1], by omega, by omega, by omega⟩
  · exact ⟨_, _, _, by rw [read32, if_neg h1, if_pos h'], by omega, by omega, by omega⟩
theorem read32_inf {b : Nat} (h : fin32 b = false) (hn : nan32 b = false) : single.read b = .infinity (b / 2147483648 % 2 == 1) := by
  have h' : ¬ b % 2147483648 < 2139095040 := by simpa [fin32] using h
  have h2 : ¬ 2139095040 < b % 2147483648 := by simpa [nan32] using hn
  rw [read32, if_neg (by omega), if_neg h', if_pos (by omega)]
theorem widen_bits {b : Nat} (hn : nan32 b = false) : floatToFloatBits .f32 b .f64 = some (widen b) ∧ nan64 (widen b) = false := by
  cases hf : fin32 b
  · have hr := read32_inf hf hn
    constructor
    · unfold floatToFloatBits
      rw [if_neg (by decide)]
      show (match single.read b with | .nan _ _ => none | .infinity s => some (FloatKind.f64.encode (.infinity s)) | .number s m e => _) = _
      rw [hr]; unfold widen; rw [hr]; rfl
    · unfold widen; rw [hr]; cases (b / 2147483648 % 2 == 1) <;> decide
  · obtain ⟨s, m, p, hr, hm, h1, h2⟩ := read32_num hf
    obtain ⟨k, q, hw, _⟩ := read_widen_num hr hm h1 h2
    have hwr : double.write (.number s m p) = widen b := by unfold widen; rw [hr]
    constructor
    · unfold floatToFloatBits
      rw [if_neg (by decide)]
      show (match single.read b with | .nan _ _ => none | .infinity s => some (FloatKind.f64.encode (.infinity s)) | .number s m e => if (FloatKind.f64.decode (FloatKind.f64.encode (.number s m e))).isInfinity then none else some (FloatKind.f64.encode (.number s m e))) = _
      rw [hr]
      show (if (double.read (double.write (.number s m p))).isInfinity then none else some (double.write (.number s m p))) = _
      rw [hwr, hw]; rfl
    · cases hc : nan64 (widen b)
      · rfl
      · have h' : 9218868437227405312 < widen b % 9223372036854775808 := by simpa [nan64] using hc
        rw [read64, if_neg (by omega), if_neg (by omega), if_neg (by omega)] at hw
        cases hw

/-! ### zeros of wide numbers -/
theorem compare_zero (z : Int) : (compare z 0 == .eq) = decide (z = 0) := by
  rw [Bool.eq_iff_iff]; simp
theorem signed_zero (s : Bool) (m k : Nat) : signed s m k = 0 ↔ m = 0 := by
  have hp : 0 < 2 ^ k := Nat.two_pow_pos k
  have e : m <<< k = 0 ↔ m = 0 := by
    rw [Nat.shiftLeft_eq, Nat.mul_eq_zero]
    constructor
    · rintro (h | h)
      · exact h
      · omega
    · exact fun h => .inl h
  unfold signed
  cases s <;> simp <;> omega
theorem order_num_zero (s : Bool) (m : Nat) (i j : Int) : (Datum.order (.number s m i) (.number false 0 j) == some .eq) = decide (m = 0) := by
  have h0 : signed false 0 (j - min i j).toNat = 0 := (signed_zero _ _ _).2 rfl
  show (some (compare (signed s m (i - min i j).toNat) (signed false 0 (j - min i j).toNat)) == some Ordering.eq) = _
  rw [h0]
  have h1 := compare_zero (signed s m (i - min i j).toNat)
  have h2 := signed_zero s m (i - min i j).toNat
  rw [show (some (compare (signed s m (i - min i j).toNat) 0) == some Ordering.eq) = (compare (signed s m (i - min i j).toNat) 0 == Ordering.eq) from rfl, h1]
  exact decide_eq_decide.2 h2
theorem read64_zero : double.read 0 = .number false 0 (-1074) := by decide
theorem read32_zero : single.read 0 = .number false 0 (-149) := by decide
/-- is a wide word a zero's? -/
def zero64 (r : Nat) : Bool := decide (r % 9223372036854775808 = 0)
def zero32 (r : Nat) : Bool := decide (r % 2147483648 = 0)
theorem order64_zero {r : Nat} (h : nan64 r = false) : (double.order r 0 == some .eq) = zero64 r := by
  have h' : ¬ 9218868437227405312 < r % 9223372036854775808 := by simpa [nan64] using h
  unfold Format.order zero64
  rw [read64_zero, read64]
  by_cases h1 : r % 9223372036854775808 < 4503599627370496
  · rw [if_pos h1, order_num_zero]
  · rw [if_neg h1]
    by_cases h2 : r % 9223372036854775808 < 9218868437227405312
    · rw [if_pos h2, order_num_zero, decide_eq_decide]; omega
    · rw [if_neg h2, if_pos (by omega)]
      have : ¬ r % 9223372036854775808 = 0 := by omega
      cases (r / 9223372036854775808 % 2 == 1) <;> simp [Datum.order, this]
theorem order32_zero_eq {r : Nat} (h : nan32 r = false) : (single.order r 0 == some .eq) = zero32 r := by
  have h' : ¬ 2139095040 < r % 2147483648 := by simpa [nan32] using h
  unfold Format.order zero32
  rw [read32_zero, read32]
  by_cases h1 : r % 2147483648 < 8388608
  · rw [if_pos h1, order_num_zero]
  · rw [if_neg h1]
    by_cases h2 : r % 2147483648 < 2139095040
    · rw [if_pos h2, order_num_zero, decide_eq_decide]; omega
    · rw [if_neg h2, if_pos (by omega)]
      have : ¬ r % 2147483648 = 0 := by omega
      cases (r / 2147483648 % 2 == 1) <;> simp [Datum.order, this]
/-- 1 divided by a zero -/
theorem one_over_zero {r : Nat} (h : zero64 r = true) : ∃ x, floatBits .quo .f64 4607182418800017408 r = some x := by
  have h' : r % 9223372036854775808 = 0 := by simpa [zero64] using h
  refine ⟨double.write (.infinity (false ^^ (r / 9223372036854775808 % 2 == 1))), ?_⟩
  show double.div 4607182418800017408 r = _
  unfold Format.div
  have h1 : double.read 4607182418800017408 = .number false 4503599627370496 (-52) := by decide
  rw [h1, read64, h', if_pos (by omega)]
  rfl

/-! ### signs of widened numbers; zeros narrowed -/
theorem widen_lt (b : Nat) : widen b < 18446744073709551616 := double.write_lt _
theorem widen_sign {b : Nat} (h : fin32 b = true) (hb : b < 4294967296) : (9223372036854775808 ≤ widen b) ↔ 2147483648 ≤ b := by
  obtain ⟨s, m, p, hr, hm, h1, h2⟩ := read32_num h
  obtain ⟨k, q, hw, _⟩ := read_widen_num hr hm h1 h2
  have hl := widen_lt b
  have e1 : (widen b / 9223372036854775808 % 2 == 1) = s := by
    rw [read64] at hw
    split at hw
    · injection hw with e
    · split at hw
      · injection hw with e
      · split at hw <;> cases hw
  have e2 : (b / 2147483648 % 2 == 1) = s := by
    rw [read32] at hr
    split at hr
    · injection hr with e
    · split at hr
      · injection hr with e
      · split at hr <;> cases hr
  rw [← e2] at e1
  have e3 : (widen b / 9223372036854775808 % 2 = 1) ↔ (b / 2147483648 % 2 = 1) := by
    have := congrArg (· = true) e1
    simpa using this
  omega
theorem narrow_zero : floatToFloatBits .f64 0 .f32 = some 0 := by decide
theorem narrow_minus : floatToFloatBits .f64 9223372036854775808 .f32 = some 2147483648 := by decide
end Go.Proofs.Ytkijgadkgfapgaa.Fl
/-
  PLAIN FACTS ON BITS OF NUMBERS (no program in sight): the size of a word, its class, its place, its opposite.
-/
namespace Go.Proofs.Ytkijgadkgfapgaa
open Fl

/-- the size: all bits but the sign -/
def sz (a : Nat) : Nat := a % 2147483648
def W32 (a : Nat) : Prop := a < 4294967296
theorem W32.of_wf {a : Nat} (h : (Lit.float .f32 a).wf = true) : W32 a := by unfold W32; simpa [Lit.wf] using h
theorem W32.wf {a : Nat} (h : W32 a) : (Lit.float .f32 a).wf = true := by unfold W32 at h; simpa [Lit.wf] using h
theorem and_mask (a : Nat) (h : W32 a) : bits .and .u32 (a : Int) 2147483647 = (sz a : Int) := by
  unfold W32 at h
  unfold sz
  rw [show (2147483647 : Int) = ((2147483647 : Nat) : Int) from rfl, u32_and_nat a _ h (by omega), show (2147483647 : Nat) = 2 ^ 31 - 1 from rfl, Nat.and_two_pow_sub_one_eq_mod]

def kd (a : Nat) : Int :=
  if sz a = 0 then 0 else if sz a < 8388608 then 1 else if sz a < 2139095040 then 2 else if sz a = 2139095040 then 3 else 4
def neg (a : Nat) : Bool := decide (2147483648 ≤ a)

/-- THE FIVE CLASSES, each with its tests in the walk's own form. -/
theorem cls (a : Nat) : (kd a = 0 ∧ ((sz a : Int) == 0) = true) ∨ (kd a = 1 ∧ ((sz a : Int) == 0) = false ∧ decide ((sz a : Int) < 8388608) = true) ∨
    (kd a = 2 ∧ ((sz a : Int) == 0) = false ∧ decide ((sz a : Int) < 8388608) = false ∧ decide ((sz a : Int) < 2139095040) = true) ∨
    (kd a = 3 ∧ ((sz a : Int) == 0) = false ∧ decide ((sz a : Int) < 8388608) = false ∧ decide ((sz a : Int) < 2139095040) = false ∧ ((sz a : Int) == 2139095040) = true) ∨
    (kd a = 4 ∧ ((sz a : Int) == 0) = false ∧ decide ((sz a : Int) < 8388608) = false ∧ decide ((sz a : Int) < 2139095040) = false ∧ ((sz a : Int) == 2139095040) = false) := by
  unfold kd
  by_cases h1 : sz a = 0
  · left; simp [h1]
  · by_cases h2 : sz a < 8388608
    · right; left; simp [h1, h2]; omega
    · by_cases h3 : sz a < 2139095040
      · right; right; left; simp [h1, h2, h3]; omega
      · by_cases h4 : sz a = 2139095040
        · right; right; right; left; simp [h4]
        · right; right; right; right; simp [h1, h2, h3, h4]; omega

theorem nan_kd (a : Nat) : nan32 a = decide (kd a = 4) := by
  unfold nan32 kd sz
  by_cases h1 : a % 2147483648 = 0
  · simp [h1]
  · by_cases h2 : a % 2147483648 < 8388608
    · simp [h1, h2]; omega
    · by_cases h3 : a % 2147483648 < 2139095040
      · simp [h1, h2, h3]; omega
      · by_cases h4 : a % 2147483648 = 2139095040
        · simp [h4]
        · simp [h1, h2, h3, h4]; omega
/-- Go's 'a != a' -/
theorem neq_self (a : Nat) : (FloatKind.f32.format.order a a != some .eq) = decide (kd a = 4) := by
  rw [← nan_kd]
  show (Ieee.single.order a a != some .eq) = _
  cases h : nan32 a
  · rw [order32_self h]; rfl
  · rw [order32_nanL a h]; rfl

/-! ### bit by bit -/
theorem i64_wrap_nat (n : Nat) (h : n < 9223372036854775808) : IntKind.i64.wrap (n : Int) = n := by
  simp [IntKind.wrap, IntKind.bits, IntKind.signed]; omega
theorem ofInt_i64 (a : Nat) (ha : a < 18446744073709551616) : (BitVec.ofInt 64 (a : Int)).toNat = a := by
  rw [BitVec.ofInt_natCast, BitVec.toNat_ofNat]; exact Nat.mod_eq_of_lt (by omega)
theorem i64_and_nat (a b : Nat) (ha : a < 9223372036854775808) (hb : b < 9223372036854775808) : bits .and .i64 (a : Int) (b : Int) = ((a &&& b : Nat) : Int) := by
  have hx : a &&& b < 2 ^ 63 := Nat.and_lt_two_pow _ (by omega)
  show IntKind.i64.wrap ((BitVec.ofInt 64 (a : Int) &&& BitVec.ofInt 64 (b : Int)).toNat : Int) = _
  rw [BitVec.toNat_and, ofInt_i64 a (by omega), ofInt_i64 b (by omega), i64_wrap_nat _ (by omega)]
theorem i64_or_nat (a b : Nat) (ha : a < 9223372036854775808) (hb : b < 9223372036854775808) : bits .or .i64 (a : Int) (b : Int) = ((a ||| b : Nat) : Int) := by
  have hx : a ||| b < 2 ^ 63 := Nat.or_lt_two_pow (by omega) (by omega)
  show IntKind.i64.wrap ((BitVec.ofInt 64 (a : Int) ||| BitVec.ofInt 64 (b : Int)).toNat : Int) = _
  rw [BitVec.toNat_or, ofInt_i64 a (by omega), ofInt_i64 b (by omega), i64_wrap_nat _ (by omega)]
theorem sz_lt (a : Nat) : sz a < 2147483648 := Nat.mod_lt _ (by omega)
theorem split_bits {a : Nat} (h : W32 a) : a = sz a + (if neg a then 2147483648 else 0) := by
  unfold W32 at h; unfold sz neg; by_cases hn : 2147483648 ≤ a <;> simp [hn] <;> omega
theorem nat_and_sign (a : Nat) (h : W32 a) : a &&& 2147483648 = if neg a then 2147483648 else 0 := by
  unfold W32 at h
  rw [show (2147483648 : Nat) = 2 ^ 31 from rfl, nat_bit]
  unfold neg
  by_cases hn : 2147483648 ≤ a
  · rw [if_pos (by simpa using hn)]; omega
  · rw [if_neg (by simpa using hn)]; omega
theorem and_sign (a : Nat) (h : W32 a) : bits .and .u32 (a : Int) 2147483648 = (if neg a then 2147483648 else 0 : Int) := by
  have h' := h
  unfold W32 at h'
  rw [show (2147483648 : Int) = ((2147483648 : Nat) : Int) from rfl, u32_and_nat a _ h' (by omega), nat_and_sign a h]
  cases neg a <;> rfl
/-- the opposite number: the sign's bit turned -/
def opp (a : Nat) : Nat := if neg a then sz a else sz a + 2147483648
theorem xor_sign_nat (a : Nat) (h : W32 a) : a ^^^ 2147483648 = opp a := by
  unfold W32 at h
  have hlow : (a ^^^ 2147483648) % 2147483648 = a % 2147483648 := by
    have e := Nat.xor_mod_two_pow (a := a) (b := 2147483648) (n := 31)
    simpa using e
  have hhi : (a ^^^ 2147483648) / 2147483648 = a / 2147483648 ^^^ 1 := by
    have e := Nat.xor_div_two_pow (a := a) (b := 2147483648) (n := 31)
    simpa using e
  have hc : a / 2147483648 = 0 ∨ a / 2147483648 = 1 := by omega
  unfold opp neg sz
  rcases hc with hc | hc
  · rw [hc] at hhi
    have : ¬ 2147483648 ≤ a := by omega
    simp only [this, decide_false]
    have h2 : (0 ^^^ 1 : Nat) = 1 := rfl
    rw [h2] at hhi
    simp only [Bool.false_eq_true, ↓reduceIte]
    omega
  · rw [hc] at hhi
    have : 2147483648 ≤ a := by omega
    simp only [this, decide_true]
    have h2 : (1 ^^^ 1 : Nat) = 0 := rfl
    rw [h2] at hhi
    simp only [↓reduceIte]
    omega
theorem xor_sign (a : Nat) (h : W32 a) : bits .xor .u32 (a : Int) 2147483648 = (opp a : Int) := by
  have h' := h
  unfold W32 at h'
  rw [show (2147483648 : Int) = ((2147483648 : Nat) : Int) from rfl, u32_xor_nat a _ h' (by omega), xor_sign_nat a h]
theorem negFloat_32 (a : Nat) (h : W32 a) : Op.negFloat .f32 a = opp a := xor_sign_nat a h
theorem opp_W32 (a : Nat) : W32 (opp a) := by
  have := sz_lt a
  unfold W32 opp; split <;> omega
theorem opp_sz (a : Nat) : sz (opp a) = sz a := by
  have := sz_lt a
  unfold opp; split
  · unfold sz; omega
  · unfold sz at *; omega
theorem opp_kd (a : Nat) : kd (opp a) = kd a := by unfold kd; rw [opp_sz]

/-! ### parts and places -/
def frac (a : Nat) : Nat := if sz a < 8388608 then sz a else 8388608 + sz a % 8388608
def expo (a : Nat) : Int := if sz a < 8388608 then -149 else (sz a / 8388608 : Nat) - 150
theorem nat_low23 (a : Nat) : a &&& 8388607 = a % 8388608 := by
  rw [show (8388607 : Nat) = 2 ^ 23 - 1 from rfl, Nat.and_two_pow_sub_one_eq_mod]
theorem low23 (a : Nat) (h : W32 a) : bits .and .i64 (a : Int) 8388607 = ((sz a % 8388608 : Nat) : Int) := by
  unfold W32 at h
  rw [show (8388607 : Int) = ((8388607 : Nat) : Int) from rfl, i64_and_nat a _ (by omega) (by omega), nat_low23]
  unfold sz; congr 1; omega
theorem low23' (a : Nat) : bits .and .i64 (sz a : Int) 8388607 = ((sz a % 8388608 : Nat) : Int) := by
  have := sz_lt a
  rw [show (8388607 : Int) = ((8388607 : Nat) : Int) from rfl, i64_and_nat (sz a) _ (by omega) (by omega), nat_low23]
theorem hid23 (x : Nat) : bits .or .i64 ((x % 8388608 : Nat) : Int) 8388608 = ((8388608 + x % 8388608 : Nat) : Int) := by
  rw [show (8388608 : Int) = ((8388608 : Nat) : Int) from rfl, i64_or_nat _ _ (by omega) (by omega)]
  rw [Nat.or_comm, nat_join 23 8388608 (x % 8388608) (by decide) (by omega)]
theorem field8 (a : Nat) (h : W32 a) : bits .and .i64 ((a / 8388608 : Nat) : Int) 255 = ((sz a / 8388608 : Nat) : Int) := by
  unfold W32 at h
  rw [show (255 : Int) = ((255 : Nat) : Int) from rfl, i64_and_nat _ _ (by omega) (by omega), nat_mask8]
  unfold sz; congr 1; omega
theorem sign31 (a : Nat) (h : W32 a) : a / 2147483648 = if neg a then 1 else 0 := by
  unfold W32 at h; unfold neg; by_cases hn : 2147483648 ≤ a <;> simp [hn] <;> omega
/-- the place in the order -/
def key (a : Nat) : Int := if neg a then -1 - (sz a : Int) else sz a
def fromKey (k : Int) : Nat := if k < 0 then ((-1 - k) % 2147483648).toNat + 2147483648 else k.toNat
theorem or_sign (x : Nat) (h : x < 2147483648) : x ||| 2147483648 = x + 2147483648 := by
  rw [Nat.or_comm, nat_join 31 2147483648 x (by decide) (by omega), Nat.add_comm]
theorem fromKey_key (a : Nat) (h : W32 a) : fromKey (key a) = a := by
  have h1 := sz_lt a
  have h2 := split_bits h
  unfold fromKey key
  cases hn : neg a
  · rw [hn] at h2; simp only [Bool.false_eq_true, ↓reduceIte] at h2 ⊢; rw [if_neg (by omega)]; omega
  · rw [hn] at h2; simp only [↓reduceIte] at h2 ⊢; rw [if_pos (by omega)]; omega
theorem top31 (a : Nat) (h : W32 a) : ((a : Int) / 2147483648 == 1) = neg a := by
  unfold W32 at h; unfold neg
  rw [Bool.eq_iff_iff]; simp; omega
theorem low31 (a : Nat) (h : W32 a) : bits .and .i64 (a : Int) 2147483647 = (sz a : Int) := by
  unfold W32 at h
  rw [show (2147483647 : Int) = ((2147483647 : Nat) : Int) from rfl, i64_and_nat a _ (by omega) (by omega), show (2147483647 : Nat) = 2 ^ 31 - 1 from rfl, Nat.and_two_pow_sub_one_eq_mod]
  rfl
end Go.Proofs.Ytkijgadkgfapgaa
/-
  CONTRACTS: how the laws hold two numbers against each other ('sameFloat'), and numbers widened.
-/
namespace Go.Proofs.Ytkijgadkgfapgaa
open Go.ChangeShapes Go.WideShapes Go.ChangeAt Go.RowKit
open Fl
theorem ret_bool {a b : Bool} (h : a = b) : Ending.returned (.bool a) = .returned (.bool b) := by rw [h]
theorem ret_int {k : IntKind} {a b : Int} (h : a = b) : Ending.returned (.int k a) = .returned (.int k b) := by rw [h]
theorem ret_float {k : FloatKind} {a b : Nat} (h : a = b) : Ending.returned (.float k a) = .returned (.float k b) := by rw [h]
theorem sameFloat_same (r : Nat) (h : nan64 r = false) (w : World) :
    Calls Try.prog 75 #[.float .f64 r, .float .f64 r] w fun e w' => e = .returned (.bool true) ∧ w = w' := by
  have he : FloatKind.f64.format.order r r = some .eq := order64_self h
  have hz := order64_zero h
  cases hc : zero64 r
  · have h0 : (FloatKind.f64.format.order r 0 == some .eq) = false := by rw [show FloatKind.f64.format.order r 0 = Ieee.double.order r 0 from rfl, hz, hc]
    clear hz hc
    go_enter Try.func75, Try.ntmps75
    go_wp2
    go_ret
    exact ⟨rfl, rfl⟩
  · have h0 : (FloatKind.f64.format.order r 0 == some .eq) = true := by rw [show FloatKind.f64.format.order r 0 = Ieee.double.order r 0 from rfl, hz, hc]
    obtain ⟨x, hx⟩ := one_over_zero hc
    clear hz hc
    have hop : ∀ t w, (binOp .quo t (.float .f64 4607182418800017408) (.float .f64 r)).run Try.prog w = .ok (.float .f64 x) w := fun t w => run_float_arith w .quo t .f64 _ r x hx
    clear hx
    go_enter Try.func75, Try.ntmps75
    go_wp2_with (simp only [hop])
    go_ret
    exact ⟨ret_bool (by simp), rfl⟩
theorem sameFloat_nan (r s : Nat) (hr : nan64 r = true) (hs : nan64 s = true) (w : World) :
    Calls Try.prog 75 #[.float .f64 r, .float .f64 s] w fun e w' => e = .returned (.bool true) ∧ w = w' := by
  have h1 : (FloatKind.f64.format.order r r != some .eq) = true := by rw [show FloatKind.f64.format.order r r = none from order64_nanL r hr]; rfl
  have h2 : (FloatKind.f64.format.order s s != some .eq) = true := by rw [show FloatKind.f64.format.order s s = none from order64_nanL s hs]; rfl
  go_enter Try.func75, Try.ntmps75
  go_wp2
  go_ret
  exact ⟨rfl, rfl⟩
theorem conv_num (g : Nat) (h : kd g ≠ 4) (w : World) : (convert 213 116 (.float .f32 g)).run Try.prog w = .ok (.float .f64 (widen g)) w :=
  run_convert_float_float w 213 116 .f32 .f64 g (widen g) (by rw [Try.underlying213]; rfl) Try.underlying116 (widen_bits (by rw [nan_kd]; simpa using h)).1
theorem widen_num (g : Nat) (h : kd g ≠ 4) : nan64 (widen g) = false := (widen_bits (by rw [nan_kd]; simpa using h)).2
theorem conv_nan (g : Nat) (h : kd g = 4) (w : World) : (convert 213 116 (.float .f32 g)).run Try.prog w = .ok (.float .f64 (nanC64 g w)) w.drew :=
  run_widen_nan w 213 116 g Try.underlying213 Try.underlying116 (by rw [nan_kd]; simpa using h)
theorem nan_kd4 {r : Nat} (h : nan32 r = true) : kd r = 4 := by rw [nan_kd] at h; simpa using h
end Go.Proofs.Ytkijgadkgfapgaa
/-
  CONTRACTS of the functions of narrow numbers that only look at bits (those alone that keys want).
-/
namespace Go.Proofs.Ytkijgadkgfapgaa
open Go.ChangeShapes Go.WideShapes Go.ChangeAt Go.RowKit
open Fl
@[go_sem] theorem call_f32bits (b : Nat) (w : World) : (callFunc 149 #[.float .f32 b]).run Try.prog w = .ok (.value (.int .u32 b)) w := by
  rw [run_callFunc_extern Try.func149 (by kernel_rfl) (by kernel_rfl) (by kernel_rfl) (e := Extern.MathFloatBits.float32bits) (by kernel_rfl)]; rfl
@[go_sem] theorem call_f32from (n : Int) (w : World) : (callFunc 134 #[.int .u32 n]).run Try.prog w = .ok (.value (.float .f32 n.toNat)) w := by
  rw [run_callFunc_extern Try.func134 (by kernel_rfl) (by kernel_rfl) (by kernel_rfl) (e := Extern.MathFloatBits.float32frombits) (by kernel_rfl)]; rfl
theorem kindOf_any (a : Nat) (h : W32 a) (w : World) :
    Calls Try.prog 150 #[.float .f32 a] w fun e w' => e = .returned (.int .i64 (kd a)) ∧ w = w' := by
  have hm := and_mask a h
  rcases cls a with ⟨hk, h1⟩ | ⟨hk, h1, h2⟩ | ⟨hk, h1, h2, h3⟩ | ⟨hk, h1, h2, h3, h4⟩ | ⟨hk, h1, h2, h3, h4⟩
  all_goals
    go_enter Try.func150, Try.ntmps150
    go_wp2
    go_ret
    exact ⟨by rw [hk]; rfl, rfl⟩
theorem l01NaN_any (a : Nat) (w : World) :
    Calls Try.prog 148 #[.float .f32 a] w fun e w' => e = .returned (.bool (decide (kd a = 4))) ∧ w = w' := by
  have hn := neq_self a
  go_enter Try.func148, Try.ntmps148
  go_wp2
  go_ret
  exact ⟨rfl, rfl⟩
theorem isNaN_any (k : Int) (w : World) :
    Calls Try.prog 151 #[.int .i64 k] w fun e w' => e = .returned (.bool (decide (k = 4))) ∧ w = w' := by
  go_enter Try.func151, Try.ntmps151
  go_wp2
  go_ret
  exact ⟨rfl, rfl⟩
/-- the bits, those of a NaN made one -/
def can (a : Nat) : Nat := if kd a = 4 then 2143289344 else a
theorem keyBits_any (a : Nat) (h : W32 a) (w : World) :
    Calls Try.prog 144 #[.float .f32 a] w fun e w' => e = .returned (.int .u32 (can a : Nat)) ∧ w = w' := by
  by_cases hk : kd a = 4
  all_goals
    have hc : can a = if kd a = 4 then 2143289344 else a := rfl
    simp only [hk, if_true, if_false] at hc
    have HC := Lib.hid hc
    clear hc
    go_enter Try.func144, Try.ntmps144
    go_wp2_with (first | (go_at_call 150; refine (kindOf_any _ (by assumption) _).mono ?_; rintro e w' ⟨rfl, rfl⟩) | (go_at_call 151; refine (isNaN_any _ _).mono ?_; rintro e w' ⟨rfl, rfl⟩))
    go_ret
    exact ⟨by rw [HC.out]; rfl, rfl⟩
theorem l02Bits_any (a : Nat) (h : W32 a) (w : World) :
    Calls Try.prog 143 #[.float .f32 a] w fun e w' => e = .returned (.int .u32 (can a : Nat)) ∧ w = w' := by
  by_cases hk : kd a = 4
  all_goals
    have hc : can a = if kd a = 4 then 2143289344 else a := rfl
    simp only [hk, if_true, if_false] at hc
    have HC := Lib.hid hc
    clear hc
    go_enter Try.func143, Try.ntmps143
    go_wp2_with (first | (go_at_call 148; refine (l01NaN_any _ _).mono ?_; rintro e w' ⟨rfl, rfl⟩))
    go_ret
    exact ⟨by rw [HC.out]; rfl, rfl⟩
end Go.Proofs.Ytkijgadkgfapgaa
/-
  ARRAYS OF INTEGERS (no program in sight): n cells of one kind, as a function of the index; one that came in, opened and shut.
-/
namespace Go.Proofs.Ytkijgadkgfapgaa
open Go.ChangeShapes Go.WideShapes Go.ChangeAt Go.RowKit
/-- n integers in a block -/
def arr (k : IntKind) (n : Nat) (f : Nat → Int) : Array Value := ((List.range n).map fun i => Value.int k (f i)).toArray
theorem arr_size (k : IntKind) (n : Nat) (f : Nat → Int) : (arr k n f).size = n := by simp [arr]
theorem arr_get (k : IntKind) (n : Nat) (f : Nat → Int) (i : Nat) (h : i < n) : (arr k n f)[i]? = some (.int k (f i)) := by simp [arr, h]
theorem arr_none (k : IntKind) (n : Nat) (f : Nat → Int) (i : Nat) (h : n ≤ i) : (arr k n f)[i]? = none := Array.getElem?_eq_none (by rw [arr_size]; exact h)
theorem arr_congr {k : IntKind} {n : Nat} {f g : Nat → Int} (h : ∀ i, i < n → f i = g i) : arr k n f = arr k n g := by
  unfold arr
  congr 1
  refine List.map_congr_left fun i hi => ?_
  rw [h i (by simpa using hi)]
/-- one of them turned -/
def updI (f : Nat → Int) (i : Nat) (v : Int) : Nat → Int := fun j => if j = i then v else f j
theorem arr_set (k : IntKind) (n : Nat) (f : Nat → Int) (i : Nat) (v : Int) (h : i < n) : (arr k n f).setIfInBounds i (.int k v) = arr k n (updI f i v) := by
  apply Array.ext_getElem?
  intro j
  rw [Array.getElem?_setIfInBounds]
  by_cases hj : j < n
  · rw [arr_get k n (updI f i v) j hj]
    by_cases hk : i = j
    · subst hk
      rw [if_pos rfl, if_pos (by rw [arr_size]; exact h)]
      simp [updI]
    · rw [if_neg hk, arr_get k n f j hj]
      have hne : j ≠ i := fun h => hk h.symm
      simp [updI, hne]
  · rw [arr_none k n (updI f i v) j (by omega)]
    by_cases hk : i = j
    · omega
    · rw [if_neg hk, arr_none k n f j (by omega)]
theorem arr_cells (k : IntKind) (n : Nat) (f : Nat → Int) : (arr k n f).all (·.oneCell') = true := by
  rw [Array.all_eq_true]
  intro i hi
  have hn : i < n := by rw [arr_size] at hi; exact hi
  have h := arr_get k n f i hn
  rw [Array.getElem?_eq_getElem hi] at h
  rw [Option.some.inj h]; rfl
/-- the first m are those of another array -/
def mixI (f g : Nat → Int) (m : Nat) : Nat → Int := fun j => if j < m then g j else f j
theorem mixI_zero (f g : Nat → Int) : mixI f g 0 = f := by funext j; simp [mixI]
theorem mixI_step (f g : Nat → Int) (m : Nat) : updI (mixI f g m) m (g m) = mixI f g (m + 1) := by
  funext j
  unfold updI mixI
  by_cases h : j = m
  · subst h; rw [if_pos rfl, if_pos (by omega)]
  · by_cases h2 : j < m
    · rw [if_neg h, if_pos h2, if_pos (by omega)]
    · rw [if_neg h, if_neg h2, if_neg (by omega)]
theorem mixI_at (f g : Nat → Int) (m : Nat) : mixI f g m m = f m := by unfold mixI; rw [if_neg (by omega)]
theorem arr_mix (k : IntKind) (n : Nat) (f g : Nat → Int) : arr k n (mixI f g n) = arr k n g := arr_congr fun i hi => by unfold mixI; rw [if_pos hi]
def zI : Nat → Int := fun _ => 0

/-- THE DATUM of an array of integers -/
def arrD {H : Type} (k : IntKind) (n : Nat) (f : Nat → Int) : DataW H := .agg ((List.range n).map fun i => .lit (.int k (f i)))
section
variable {H : Type} {enc : TypeId × Value → H} {P : Program} {w : World} {base : Nat} {spare : Nat → Bool} {held : Bool}
theorem mapM_of_get {α β : Type} (F : α → Option β) (L : List α) (ys : List β) (h : ∀ i (hi : i < L.length), F L[i] = ys[i]?) (hl : ys.length = L.length) : L.mapM F = some ys := by
  induction L generalizing ys with
  | nil => cases ys with
    | nil => rfl
    | cons y r => simp at hl
  | cons a r ih =>
    cases ys with
    | nil => simp at hl
    | cons y q =>
      rw [List.mapM_cons]
      have h0 := h 0 (by simp)
      simp at h0
      rw [h0]
      have := ih q (fun i hi => by have := h (i + 1) (by simp; omega); simpa using this) (by simpa using hl)
      simp [this]
/-- AN ARRAY OF INTEGERS THAT CAME IN, OPENED. -/
theorem open_arrI {r : Reach} {b0 n : Nat} {t e : TypeId} {k : IntKind} {v : Value} {d : DataW H} {ps : List MemPlace} (ht : P.underlying t = some (.array n e)) (he : P.underlying e = some (.int k)) (hc : P.cellsOf e = 1) (hn : P.cellsOf t = n)
    (hval : Value.okWide P w r b0 t v) (hd : DataW.Trod enc P w base spare held t v d ps) :
    ∃ f : Nat → Int, v = .agg (arr k n f) ∧ d = arrD k n f ∧ ps = [] ∧ ∀ i, i < n → (Lit.int k (f i)).wf = true := by
  obtain ⟨cs, rfl, hsz⟩ : ∃ cs : Array Value, v = .agg cs ∧ cs.size = n := by
    simp only [Value.okWide, ht] at hval
    obtain ⟨cs, h1, h2, _⟩ := hval
    exact ⟨cs, h1, by rw [h2, hn]⟩
  obtain ⟨fuel, hf⟩ := hd
  obtain ⟨xs, m, rfl, hx, hlen, hl, hel⟩ := DataW.trod_array ht hf
  rw [hc] at hel
  simp only [Value.cells] at hel hlen
  have each : ∀ i, i < n → ∃ a : Int, cs[i]? = some (.int k a) ∧ xs[i]? = some (.lit (.int k a), []) ∧ (Lit.int k a).wf = true := by
    intro i hi
    have h := hel i hi
    obtain ⟨y, hy⟩ : ∃ y, xs[i]? = some y := ⟨xs[i]'(by omega), by rw [List.getElem?_eq_getElem (by omega)]⟩
    rw [hy] at h
    obtain ⟨a, ea, rfl, wa⟩ := DataW.trod_int he h
    refine ⟨a, ?_, hy, wa⟩
    have h0 : (List.take 1 (List.drop (i * 1) cs.toList))[0]? = some (.int k a) := by rw [ea]; rfl
    rw [Nat.mul_one, List.getElem?_take, if_pos (by omega), List.getElem?_drop] at h0
    simpa using h0
  let f : Nat → Int := fun i => match cs[i]? with | some (.int _ a) => a | _ => 0
  have hfi : ∀ i, i < n → cs[i]? = some (.int k (f i)) ∧ xs[i]? = some (.lit (.int k (f i)), []) ∧ (Lit.int k (f i)).wf = true := by
    intro i hi
    obtain ⟨a, h1, h2, h3⟩ := each i hi
    have : f i = a := by show (match cs[i]? with | some (.int _ a) => a | _ => 0) = a; rw [h1]
    rw [this]; exact ⟨h1, h2, h3⟩
  refine ⟨f, ?_, ?_, ?_, fun i hi => (hfi i hi).2.2⟩
  · congr 1
    apply Array.ext_getElem?
    intro i
    by_cases hi : i < n
    · rw [(hfi i hi).1, arr_get k n f i hi]
    · rw [arr_none k n f i (by omega), Array.getElem?_eq_none (by omega)]
  · simp only [Prod.mk.injEq] at hx
    rw [hx.1]
    unfold arrD
    congr 1
    apply List.ext_getElem?
    intro i
    by_cases hi : i < n
    · simp [(hfi i hi).2.1, hi]
    · simp [hi, hl]
  · simp only [Prod.mk.injEq] at hx
    rw [hx.2, List.flatMap_eq_nil_iff]
    intro y hy
    obtain ⟨i, hi, rfl⟩ := List.getElem_of_mem hy
    have := (hfi i (by omega)).2.1
    rw [List.getElem?_eq_getElem hi] at this
    rw [Option.some.inj this]
/-- SHUT AGAIN. -/
theorem shut_arrI {n : Nat} {t e : TypeId} {k : IntKind} {f : Nat → Int} (ht : P.underlying t = some (.array n e)) (he : P.underlying e = some (.int k)) (hc : P.cellsOf e = 1) (hn : P.cellsOf t = n)
    (hw : ∀ i, i < n → (Lit.int k (f i)).wf = true) : DataW.Trod enc P w base spare held t (.agg (arr k n f)) (arrD k n f) [] := by
  refine ⟨2, ?_⟩
  unfold DataW.trod
  simp only [ht, Value.cells]
  rw [if_pos (by rw [hn]; simpa using arr_size k n f)]
  rw [mapM_of_get _ _ ((List.range n).map fun i => ((.lit (.int k (f i)) : DataW H), ([] : List MemPlace)))]
  · simp [arrD, Function.comp_def]
  · intro i hi
    have hi' : i < n := by simpa using hi
    simp only [List.getElem_range, hc, Nat.mul_one]
    have h1 : List.take 1 (List.drop i (arr k n f).toList) = [.int k (f i)] := by
      have hg := arr_get k n f i hi'
      have hs : i < (arr k n f).toList.length := by simpa [arr_size] using hi'
      rw [List.drop_eq_getElem_cons hs]
      simp at hg ⊢
      have := Array.getElem?_eq_some_iff.1 hg
      obtain ⟨_, h⟩ := this
      rw [h]
    rw [h1]
    simp [DataW.trod, he, hw i hi', hi']
  · simp
end
/-- 'a[i]' of an array by value -/
theorem run_index_arr {P : Program} {t e : TypeId} {n : Nat} {q : IntKind} (k : IntKind) (f : Nat → Int) (i : Nat) (ht : P.underlying t = some (.array n e)) (he : P.underlying e = some (.int q)) (hs : (P.info? e).map (·.size) = some 1) (hi : i < n) (w : World) :
    (Instr.index t (.agg (arr q n f)) (.int k (i : Int))).run P w = .ok (.int q (f i)) w := by
  have hc := arr_get q n f i hi
  have hz : (sizeOf e).run P w = .ok 1 w := by
    unfold sizeOf typeInfo
    cases hq : P.info? e with
    | none => simp [hq] at hs
    | some x => simp [hq] at hs ⊢; exact hs
  have hag : (isAgg e).run P w = .ok false w := by
    unfold isAgg
    rw [Sem.run_bind, run_underlying he w]; rfl
  have h1 : (0 : Int) ≤ i ∧ (i : Int) < n := by omega
  have h2 : ¬ n ≤ i := by omega
  simp [Instr.index, run_underlying ht, asIntOf, h1, h2, hi, hz, part, hag, hc, go_sem]
/-! ### arrays held equal -/
theorem forIn_allI {P : Program} {w : World} {σ : Type} (b : Nat → σ → Sem (ForInStep σ)) (s0 sF : σ) (c : Nat → Bool) :
    ∀ l : List Nat, (∀ i, i ∈ l → (b i s0).run P w = .ok (if c i then .yield s0 else .done sF) w) → (forIn l s0 b).run P w = .ok (if l.all c then s0 else sF) w
  | [], _ => rfl
  | i :: r, h => by
    rw [List.forIn_cons, Sem.run_bind, h i (by simp), Result.andThen_ok]
    cases hc : c i
    · simp [hc]
    · have ih := forIn_allI b s0 sF c r (fun j hj => h j (by simp [hj]))
      simp only [List.all_cons, hc, Bool.true_and, if_true]
      exact ih
theorem eqArrI {P : Program} {t e : TypeId} {n : Nat} {q : IntKind} (f g : Nat → Int) (ht : P.underlying t = some (.array n e)) (he : P.underlying e = some (.int q)) (hs : (P.info? e).map (·.size) = some 1) (w : World) :
    (Op.equalIn 10000 t (.agg (arr q n f)) (.agg (arr q n g))).run P w = .ok ((List.range n).all fun i => f i == g i) w := by
  have hz : ∀ w, (sizeOf e).run P w = .ok 1 w := fun w => by
    unfold sizeOf typeInfo
    cases hq : P.info? e with
    | none => simp [hq] at hs
    | some x => simp [hq] at hs ⊢; exact hs
  have hag : ∀ w, (isAgg e).run P w = .ok false w := fun w => by
    unfold isAgg
    rw [Sem.run_bind, run_underlying he w]; rfl
  rw [show (10000 : Nat) = 9999 + 1 from rfl, Op.equalIn]
  simp only [Sem.run_bind, run_underlying ht, Result.andThen_ok]
  simp only [Std.Legacy.Range.forIn_eq_forIn_range', Std.Legacy.Range.size, Nat.sub_zero, Nat.add_sub_cancel, Nat.div_one]
  rw [hz, Result.andThen_ok]
  rw [forIn_allI _ (none, ()) (some false, ()) (fun i => f i == g i)]
  · rw [← List.range_eq_range']
    cases (List.range n).all fun i => f i == g i <;> rfl
  · intro i hi
    have hn : i < n := by
      have := List.mem_range'.1 hi
      omega
    have c1 := arr_get q n f i hn
    have c2 := arr_get q n g i hn
    clear hi
    go_simp
    by_cases h : f i = g i
    · simp [h]
    · rw [if_neg h]; simp [h]
end Go.Proofs.Ytkijgadkgfapgaa
/-
  KEYS OF POINTS: words of four bytes, the highest one first.
-/
namespace Go.Proofs.Ytkijgadkgfapgaa
open Go.ChangeShapes Go.WideShapes Go.ChangeAt Go.RowKit
open Fl
theorem info_b4 (f : Nat → Int) : (Try.prog.info? 206).map (·.size) = some (arr .u8 4 f).size := by rw [arr_size]; kernel_rfl
theorem info_key (f : Nat → Int) : (Try.prog.info? 156).map (·.size) = some (arr .u8 8 f).size := by rw [arr_size]; kernel_rfl
theorem info_b8 (f : Nat → Int) : (Try.prog.info? 155).map (·.size) = some (arr .u8 8 f).size := by rw [arr_size]; kernel_rfl
/-- the number with the bytes from o on, the highest one first -/
def hdB (f : Nat → Int) (o : Nat) : Nat → Nat
  | 0 => 0
  | k + 1 => hdB f o k * 256 + (f (o + k)).toNat
theorem hdB_lt (f : Nat → Int) (o : Nat) : ∀ k, (∀ i, i < k → 0 ≤ f (o + i) ∧ f (o + i) ≤ 255) → hdB f o k < 256 ^ k
  | 0, _ => by simp [hdB]
  | k + 1, h => by
    have ih := hdB_lt f o k (fun i hi => h i (by omega))
    have hb := h k (by omega)
    have hp : (256 : Nat) ^ (k + 1) = 256 ^ k * 256 := Nat.pow_succ ..
    unfold hdB
    omega
theorem hdB_24 {f : Nat → Int} {o k : Nat} (hk : k < 4) (h : ∀ i, i < k → 0 ≤ f (o + i) ∧ f (o + i) ≤ 255) : hdB f o k ≤ 16777215 := by
  have := hdB_lt f o k h
  have h2 : (256 : Nat) ^ k ≤ 256 ^ 3 := Nat.pow_le_pow_right (by omega) (by omega)
  omega
theorem or_byte (x : Nat) (y : Int) (hx : x ≤ 16777215) (h0 : 0 ≤ y) (h1 : y ≤ 255) : bits .or .u32 ((x : Int) * 256) y = ((x * 256 + y.toNat : Nat) : Int) := by
  obtain ⟨b, rfl⟩ : ∃ b : Nat, y = b := ⟨y.toNat, by omega⟩
  have e : ((x : Int) * 256) = ((x * 256 : Nat) : Int) := by omega
  rw [e, u32_or_nat _ _ (by omega) (by omega)]
  rw [show x * 256 = 2 ^ 8 * x from by omega, Nat.two_pow_add_eq_or_of_lt (by omega) x |>.symm]
  rfl
theorem wordOf_any (f : Nat → Int) (hf : ∀ i, i < 4 → 0 ≤ f i ∧ f i ≤ 255) (w : World) :
    Calls Try.prog 129 #[.agg (arr .u8 4 f)] w fun e w' => e = .returned (.int .u32 (hdB f 0 4 : Nat)) ∧ w.alloc (.cells (arr .u8 4 f) 206) = w' := by
  have HB := Lib.hid (heap_alloc_new w (.cells (arr .u8 4 f) 206 (0, 0)))
  go_enter Try.func129, Try.ntmps129
  go_wp2_with (refine wpList_load_row rfl 206 _ rfl w.heap.size rfl 206 _ _ _ HB.out Try.underlying206 rfl (info_b4 _) ?_)
  go_loop [3, 7] (fun x i => ∃ k : Nat, k ≤ 4 ∧ i = .int .i64 k ∧ x = .int .u32 (hdB f 0 k : Nat)) (fun _ i => 4 - (intOf i).toNat)
  case atStart => exact ⟨0, by omega, rfl, rfl⟩
  case round =>
    obtain ⟨k, hk, rfl, rfl⟩ := hrel
    by_cases hlt : k < 4
    · have hix := fun w => run_index_arr (P := Try.prog) .i64 f k Try.underlying206 Try.underlying5 (by kernel_rfl) hlt w
      have hs : hdB f 0 (k + 1) = hdB f 0 k * 256 + (f k).toNat := by simp [hdB]
      have hx1 := hdB_24 (f := f) (o := 0) hlt (fun i hi => by simpa using hf i (by omega))
      obtain ⟨b0, b1⟩ := hf k hlt
      have hor := or_byte _ _ hx1 b0 b1
      rw [← hs] at hor
      have hx0 : (0 : Int) ≤ (hdB f 0 k : Nat) := by omega
      have hx2 : ((hdB f 0 k : Nat) : Int) ≤ 16777215 := by omega
      clear hf hs hx1
      go_wp2
      go_round
      case rel => exact ⟨k + 1, by omega, by go_num, rfl⟩
      case measure => simp [intOf]; omega
    · obtain rfl : k = 4 := by omega
      clear hf
      go_wp2
      go_ret
      exact ⟨rfl, rfl⟩
end Go.Proofs.Ytkijgadkgfapgaa
namespace Go.Proofs.Ytkijgadkgfapgaa
open Go.ChangeShapes Go.WideShapes Go.ChangeAt Go.RowKit
open Fl
def keyF (r m : Nat) : Nat → Int
  | 0 => (r : Int) / 16777216 % 256
  | 1 => (r : Int) / 65536 % 256
  | 2 => (r : Int) / 256 % 256
  | 3 => (r : Int) % 256
  | 4 => (m : Int) / 16777216 % 256
  | 5 => (m : Int) / 65536 % 256
  | 6 => (m : Int) / 256 % 256
  | _ => (m : Int) % 256
set_option maxRecDepth 8000 in
theorem l02Key_any (a b : Nat) (ha : W32 a) (hb : W32 b) (w : World) :
    Calls Try.prog 135 #[.complex .f32 a b] w fun e w' => e = .returned (.agg (arr .u8 8 (keyF (can a) (can b)))) ∧ Below w.heap.size w w' := by
  have hc : W32 (can a) := by unfold can W32 at *; split <;> omega
  have hd : W32 (can b) := by unfold can W32 at *; split <;> omega
  go_enter Try.func135, Try.ntmps135
  go_wp2_with (first | (go_at_call 143; first | (refine (l02Bits_any _ ha _).mono ?_; rintro e w' ⟨rfl, rfl⟩) | (refine (l02Bits_any _ hb _).mono ?_; rintro e w' ⟨rfl, rfl⟩)))
  refine wp_loop_rounds 5 ?_
  rw [rounds_succ]
  go_wp2
  rw [rounds_succ]
  go_wp2
  rw [rounds_succ]
  go_wp2
  rw [rounds_succ]
  go_wp2
  rw [rounds_succ]
  go_wp2
  refine bodyPost_ret (v := .agg (arr .u8 8 (keyF (can a) (can b)))) (by simp [results, Try.results135, go_sem]; rfl) rfl ⟨rfl, ?_⟩
  exact ((Below.refl _ _).alloc (Nat.le_refl _) _).alloc (by simp) _
theorem own_alloc {w : World} {base : Nat} {e : TypeId} {size : Nat} {v : Value} {n : Nat} {xs : List Value} (h : w.ownsRow base e size v n xs) (o : Obj) : (w.alloc o).ownsRow base e size v n xs := by
  refine h.kept (World.grownBy_alloc w o none) ?_
  cases hv : v.ownBlock with
  | none => exact .inl rfl
  | some k => exact .inr (by simp)
def wordL (r : Nat) : List Value := [.int .u8 (keyF r 0 0), .int .u8 (keyF r 0 1), .int .u8 (keyF r 0 2), .int .u8 (keyF r 0 3)]
theorem wordL_at (w : World) (r : Nat) (t : TypeId) : ∀ j u, (wordL r)[j]? = some u → (w.alloc (.cells #[.int .u8 ((r : Int) / 16777216 % 256), .int .u8 ((r : Int) / 65536 % 256), .int .u8 ((r : Int) / 256 % 256), .int .u8 ((r : Int) % 256)] t)).cell? ((⟨w.heap.size, 0, none⟩ : Addr).add j) = some u := by
  intro j u h
  have e : (⟨w.heap.size, 0, none⟩ : Addr).add j = ⟨w.heap.size, j, none⟩ := by rw [Go.WideShapes.add_plain, Nat.zero_add]
  rw [e, World.cell?_alloc_new]
  match j, h with
  | 0, h => exact h
  | 1, h => exact h
  | 2, h => exact h
  | 3, h => exact h
  | k + 4, h => simp [wordL] at h
theorem wordL_one (r : Nat) : ∀ u ∈ wordL r, u.oneCell' = true := by
  intro u hu
  simp [wordL] at hu
  rcases hu with rfl | rfl | rfl | rfl <;> rfl
set_option maxRecDepth 8000 in
theorem appendWord_any (v : Value) (n : Nat) (xs : List Value) (base r : Nat) (hr : W32 r) (w : World) (hn : n ≤ 100) (hb : base ≤ w.heap.size) (ho : w.ownsRow base 5 1 v n xs) :
    Calls Try.prog 86 #[v, .int .u32 (r : Nat)] w fun e w' => ∃ v', e = .returned v' ∧ w'.ownsRow base 5 1 v' (n + 4) (xs ++ wordL r) ∧ Below base w w' := by
  have HO := Lib.hid ho
  have HB := Lib.hid hb
  have hl := fun k (h : v.ownBlock = some k) => (ho.lt k h).1
  have HL := Lib.hid hl
  clear ho hb hl
  go_enter Try.func86, Try.ntmps86
  go_wp2_with (at_builtin; refine wpList_append_own _ rfl (.tmp 5) (.tmp 17) 45 rfl base 5 Try.t5 (.int .u8 0) 1 1 Try.underlying45 (by kernel_rfl) (by kernel_rfl) (by kernel_rfl) (by kernel_rfl) (by kernel_rfl) (by decide) v n xs rfl (own_alloc HO.out _) ⟨w.heap.size, 0, none⟩ 4 4 (wordL r) rfl rfl (wordL_at _ _ _) (wordL_one r) (by unfold maxLen; omega) (by omega) (by have := HB.out; simp; omega) ?_; intro v' w' h1 h2 _; have H1 := Lib.hid h1; have H2 := Lib.hid h2; clear h1 h2)
  go_ret
  refine ⟨_, rfl, H1.out, ?_⟩
  exact (((Below.refl base w).alloc HB.out _).grown H2.out (by have := HB.out; simp; omega) (fun k hk => HL.out k hk))
theorem run_arrayAt {P : Program} (t e : TypeId) (n : Nat) (a : Option Addr) (len cap : Nat) (h : P.underlying t = some (.array n e)) (hl : n ≤ len) (w : World) : (Instr.arrayAt t (.slice a len cap)).run P w = .ok (.pointer a) w := by
  have : ¬ len < n := by omega
  simp [Instr.arrayAt, run_underlying h, this]
theorem own_bytes {w : World} {base : Nat} {e : TypeId} {v : Value} {n : Nat} {xs : List Value} (h : w.ownsRow base e 1 v n xs) (hn : 0 < n) : ∃ g cap, v = .slice (some ⟨g, 0, none⟩) n cap ∧ base ≤ g ∧ ∀ j, j < n → w.cell? ⟨g, j, none⟩ = xs[j]? := by
  rcases h.2 with ⟨_, h0⟩ | ⟨g, cap, cur, hv, hb, _⟩
  · omega
  · subst hv
    exact ⟨g, cap, rfl, hb, fun j hj => h.cellAt j (by omega)⟩
/-- a row of cells is read as an array -/
theorem run_loadVar_arr {P : Program} {ty e : TypeId} {n : Nat} {k : IntKind} (f : Nat → Int) (g off : Nat) (w : World) (hu : P.underlying ty = some (.array n e)) (hi : (P.info? ty).map (·.size) = some n)
    (hc : ∀ j, j < n → w.cell? ⟨g, off + j, none⟩ = some (.int k (f j))) : (loadVar ty ⟨g, off, none⟩).run P w = .ok (.agg (arr k n f)) w := by
  have hl : (loadCells ⟨g, off, none⟩ n).run P w = .ok (arr k n f) w := by
    have h := run_loadCells_list (P := P) w ⟨g, off, none⟩ (arr k n f).toList (fun j v hv => by
      rw [Go.WideShapes.add_plain]
      by_cases hj : j < n
      · rw [hc j hj, ← arr_get k n f j hj]; simpa using hv
      · have := arr_none k n f j (by omega)
        simp [this] at hv)
    simpa [arr_size] using h
  cases hq : P.info? ty with
  | none => simp [hq] at hi
  | some i =>
    have hs : i.size = n := by simpa [hq] using hi
    have hagg : (isAgg ty).run P w = .ok true w := by
      unfold isAgg
      rw [Sem.run_bind, run_underlying hu w]; rfl
    simp [loadVar, Sem.run_bind, hagg, sizeOf, typeInfo, hq, hs, hl]
end Go.Proofs.Ytkijgadkgfapgaa
namespace Go.Proofs.Ytkijgadkgfapgaa
open Go.ChangeShapes Go.WideShapes Go.ChangeAt Go.RowKit
open Fl
theorem can_W {a : Nat} (h : W32 a) : W32 (can a) := by unfold can W32 at *; split <;> omega
theorem getI_arr (k : IntKind) (r m : Nat) : ∀ j, j < 8 → ([] ++ wordL r ++ wordL m)[j]? = some (.int .u8 (keyF r m j)) := by
  intro j hj
  match j, hj with
  | 0, _ => rfl
  | 1, _ => rfl
  | 2, _ => rfl
  | 3, _ => rfl
  | 4, _ => rfl
  | 5, _ => rfl
  | 6, _ => rfl
  | 7, _ => rfl
set_option maxRecDepth 8000 in
theorem implKey_any (a b : Nat) (ha : W32 a) (hb : W32 b) (w : World) :
    Calls Try.prog 136 #[.complex .f32 a b] w fun e w' => e = .returned (.agg (arr .u8 8 (keyF (can a) (can b)))) ∧ Below w.heap.size w w' := by
  have hca := can_W ha
  have hcb := can_W hb
  go_enter Try.func136, Try.ntmps136
  go_wp2_with fail
  refine (keyBits_any _ ha _).mono ?_; rintro e w' ⟨rfl, rfl⟩
  go_wp2_with fail
  refine (appendWord_any _ 0 [] (w.heap.size + 1) (can a) hca _ (by omega) (by simp) (World.ownsRow_nil _ _ _ _)).mono ?_
  rintro e w1 ⟨v1, rfl, h1, b1⟩
  have H1 := Lib.hid h1
  have B1 := Lib.hid b1
  clear h1 b1
  go_wp2_with fail
  refine (keyBits_any _ hb _).mono ?_; rintro e w' ⟨rfl, rfl⟩
  go_wp2_with fail
  refine (appendWord_any _ 4 ([] ++ wordL (can a)) (w.heap.size + 1) (can b) hcb _ (by omega) (by have := B1.out.size; simp at this; omega) H1.out).mono ?_
  rintro e w2 ⟨v2, rfl, h2, b2⟩
  obtain ⟨g, cap, rfl, hg, hcell⟩ := own_bytes h2 (by omega)
  have hcl : ∀ j, j < 8 → w2.cell? ⟨g, j, none⟩ = some (.int .u8 (keyF (can a) (can b) j)) := fun j hj => by rw [hcell j hj]; exact getI_arr .u8 _ _ j hj
  have c0 := hcl 0 (by omega)
  have c1 := hcl 1 (by omega)
  have c2 := hcl 2 (by omega)
  have c3 := hcl 3 (by omega)
  have c4 := hcl 4 (by omega)
  have c5 := hcl 5 (by omega)
  have c6 := hcl 6 (by omega)
  have c7 := hcl 7 (by omega)
  have hat := fun w => run_arrayAt (P := Try.prog) 156 _ 8 (some ⟨g, 0, none⟩) 8 cap Try.underlying156 (by omega) w
  have HB := Lib.hid (B1.out.trans b2)
  have HG := Lib.hid ((HB.out.block w.heap.size (by omega)).trans (heap_alloc_new w _))
  clear h2 b2 hcell hcl H1
  go_wp2_with (refine wpList_store_row rfl 156 _ _ rfl w.heap.size (arr .u8 8 (keyF (can a) (can b))) rfl rfl 156 _ HG.out (info_key _) (by rw [arr_size]; rfl) (arr_cells _ _ _) ?_)
  refine bodyPost_ret (v := .agg (arr .u8 8 (keyF (can a) (can b)))) (results_cell_row Try.results136 _ _ w.heap.size _ _ _ _ rfl (setRow_heap _ _ _ _ _ _ HG.out) Try.underlying156 rfl (info_key _)) rfl ⟨rfl, ?_⟩
  refine below_setRow ?_ (Nat.le_refl _) _
  exact ((Below.refl _ _).alloc (Nat.le_refl _) _).trans (HB.out.mono (by omega))
end Go.Proofs.Ytkijgadkgfapgaa
namespace Go.Proofs.Ytkijgadkgfapgaa
open Go.ChangeShapes Go.WideShapes Go.ChangeAt Go.RowKit
open Fl
theorem forIn_all {P : Program} {w : World} {σ : Type} (b : Nat → σ → Sem (ForInStep σ)) (s0 sF : σ) (c : Nat → Bool) :
    ∀ l : List Nat, (∀ i, i ∈ l → (b i s0).run P w = .ok (if c i then .yield s0 else .done sF) w) → (forIn l s0 b).run P w = .ok (if l.all c then s0 else sF) w
  | [], _ => rfl
  | i :: r, h => by
    rw [List.forIn_cons, Sem.run_bind, h i (by simp), Result.andThen_ok]
    cases hc : c i
    · simp [hc]
    · have ih := forIn_all b s0 sF c r (fun j hj => h j (by simp [hj]))
      simp only [List.all_cons, hc, Bool.true_and, if_true]
      exact ih
theorem eqArr {P : Program} {t e : TypeId} {n : Nat} {q : IntKind} (f g : Nat → Int) (ht : P.underlying t = some (.array n e)) (he : P.underlying e = some (.int q)) (hs : (P.info? e).map (·.size) = some 1) (w : World) :
    (Op.equalIn 10000 t (.agg (arr q n f)) (.agg (arr q n g))).run P w = .ok ((List.range n).all fun i => f i == g i) w := by
  have hz : ∀ w, (sizeOf e).run P w = .ok 1 w := fun w => by
    unfold sizeOf typeInfo
    cases hq : P.info? e with
    | none => simp [hq] at hs
    | some x => simp [hq] at hs ⊢; exact hs
  have hag : ∀ w, (isAgg e).run P w = .ok false w := fun w => by
    unfold isAgg
    rw [Sem.run_bind, run_underlying he w]; rfl
  rw [show (10000 : Nat) = 9999 + 1 from rfl, Op.equalIn]
  simp only [Sem.run_bind, run_underlying ht, Result.andThen_ok]
  simp only [Std.Legacy.Range.forIn_eq_forIn_range', Std.Legacy.Range.size, Nat.sub_zero, Nat.add_sub_cancel, Nat.div_one]
  rw [hz, Result.andThen_ok]
  rw [forIn_all _ (none, ()) (some false, ()) (fun i => f i == g i)]
  · rw [← List.range_eq_range']
    cases (List.range n).all fun i => f i == g i <;> rfl
  · intro i hi
    have hn : i < n := by
      have := List.mem_range'.1 hi
      omega
    have c1 := arr_get q n f i hn
    have c2 := arr_get q n g i hn
    clear hi
    go_simp
    by_cases h : f i = g i
    · simp [h]
    · rw [if_neg h]; simp [h]
/-- the point's parts of a key -/
def reB (f : Nat → Int) : Nat := hdB f 0 4
def imB (f : Nat → Int) : Nat := hdB f 4 4
def okB (f : Nat → Int) : Bool := (List.range 8).all fun i => keyF (can (reB f)) (can (imB f)) i == f i
end Go.Proofs.Ytkijgadkgfapgaa
namespace Go.Proofs.Ytkijgadkgfapgaa
open Go.ChangeShapes Go.WideShapes Go.ChangeAt Go.RowKit
open Fl
theorem kept_first {w W : World} {o : Obj} {f : Nat → Int} {t : TypeId} (hW : Below (w.heap.size + 1) (w.alloc (.cells (arr .u8 8 f) t)) W) : ∀ j, j < 8 → W.cell? ⟨w.heap.size, j, none⟩ = some (.int .u8 (f j)) := by
  intro j hj
  rw [hW.cell (p := ⟨w.heap.size, j, none⟩) (by simp), World.cell?_alloc_new, arr_get _ _ _ _ hj]
theorem kept_at {w W : World} {f : Nat → Int} {t : TypeId} (hW : Below (w.heap.size + 1) (w.alloc (.cells (arr .u8 8 f) t)) W) :
    Below (w.heap.size + 1) (w.alloc (.cells (arr .u8 8 f) t)) W ∧ ∀ j, j < 8 → W.cell? ⟨w.heap.size, j, none⟩ = some (.int .u8 (f j)) := ⟨hW, kept_first (o := .cells #[] 0) hW⟩
theorem hdB_W {f : Nat → Int} {o : Nat} (h : ∀ i, i < 4 → 0 ≤ f (o + i) ∧ f (o + i) ≤ 255) : W32 (hdB f o 4) := by
  have := hdB_lt f o 4 h
  unfold W32; omega
set_option maxRecDepth 8000 in
theorem l02FromKey_any (f : Nat → Int) (hf : ∀ i, i < 8 → 0 ≤ f i ∧ f i ≤ 255) (w : World) :
    Calls Try.prog 112 #[.agg (arr .u8 8 f)] w fun e w' => e = .returned (.tuple #[.complex .f32 (reB f) (imB f), .bool (okB f)]) ∧ Below w.heap.size w w' := by
  have hre : W32 (reB f) := hdB_W fun i hi => by have := hf i (by omega); simpa using this
  have him : W32 (imB f) := hdB_W fun i hi => hf (4 + i) (by omega)
  go_enter Try.func112, Try.ntmps112
  go_wp2
  go_loop [4, 5, 6] (fun x y i => ∃ k : Nat, k ≤ 4 ∧ i = .int .i64 k ∧ x = .int .u32 (hdB f 0 k : Nat) ∧ y = .int .u32 (hdB f 4 k : Nat)) (fun _ _ i => 4 - (intOf i).toNat)
  case atStart => exact ⟨0, by omega, rfl, rfl, rfl⟩
  case round =>
    obtain ⟨k, hk, rfl, rfl, rfl⟩ := hrel
    by_cases hlt : k < 4
    · have g1 := arr_get .u8 8 f k (by omega)
      have g2 := arr_get .u8 8 f (4 + k) (by omega)
      have hs : hdB f 0 (k + 1) = hdB f 0 k * 256 + (f k).toNat := by simp [hdB]
      have hs2 : hdB f 4 (k + 1) = hdB f 4 k * 256 + (f (4 + k)).toNat := by simp [hdB]
      have hx1 := hdB_24 (f := f) (o := 0) hlt (fun i hi => by simpa using hf i (by omega))
      have hx2 := hdB_24 (f := f) (o := 4) hlt (fun i hi => hf (4 + i) (by omega))
      obtain ⟨b0, b1⟩ := hf k (by omega)
      obtain ⟨b2, b3⟩ := hf (4 + k) (by omega)
      have hor := or_byte _ _ hx1 b0 b1
      have hor2 := or_byte _ _ hx2 b2 b3
      rw [← hs] at hor
      rw [← hs2] at hor2
      have hx0 : (0 : Int) ≤ (hdB f 0 k : Nat) := by omega
      have hx3 : ((hdB f 0 k : Nat) : Int) ≤ 16777215 := by omega
      have hx4 : (0 : Int) ≤ (hdB f 4 k : Nat) := by omega
      have hx5 : ((hdB f 4 k : Nat) : Int) ≤ 16777215 := by omega
      clear hf hs hx1 hs2 hx2
      go_wp2
      go_round
      case rel => exact ⟨k + 1, by omega, by go_num, rfl, rfl⟩
      case measure => simp [intOf]; omega
    · obtain rfl : k = 4 := by omega
      clear hf
      have e1 : hdB f 0 4 = reB f := rfl
      have e2 : hdB f 4 4 = imB f := rfl
      rw [e1, e2]
      clear e1 e2
      go_wp2
      have hS : ∀ w, (Op.equalIn 10000 156 (.agg (arr .u8 8 (keyF (can (reB f)) (can (imB f))))) (.agg #[.int .u8 (f 0), .int .u8 (f 1), .int .u8 (f 2), .int .u8 (f 3), .int .u8 (f 4), .int .u8 (f 5), .int .u8 (f 6), .int .u8 (f 7)])).run Try.prog w = .ok (okB f) w :=
        fun w => eqArr (P := Try.prog) (t := 156) (q := .u8) (keyF (can (reB f)) (can (imB f))) f Try.underlying156 Try.underlying5 (by kernel_rfl) w
      go_region_held3 (fun w' => Below (w.heap.size + 1) (w.alloc (.cells (arr .u8 8 f) 156)) w' ∧ ∀ j, j < 8 → w'.cell? ⟨w.heap.size, j, none⟩ = some (.int .u8 (f j)))
        (first | exact kept_at (Below.refl _ _).drew | exact kept_at ((Below.refl _ _).drew.trans (Below.mono (by assumption) (by simp))))
        (first | (go_at_call 135; refine (l02Key_any _ _ hre him _).mono ?_; rintro e w' ⟨rfl, hb⟩))
      rename_i hH
      have HH := Lib.hid hH.1
      clear hH hb
      go_wp2
      go_ret2
      exact ⟨rfl, ((Below.refl _ _).alloc (Nat.le_refl _) _).trans (HH.out.mono (by omega))⟩
end Go.Proofs.Ytkijgadkgfapgaa
namespace Go.Proofs.Ytkijgadkgfapgaa
open Go.ChangeShapes Go.WideShapes Go.ChangeAt Go.RowKit
open Fl
theorem hdB_shift (f : Nat → Int) (o : Nat) : ∀ k, hdB (fun i => f (o + i)) 0 k = hdB f o k
  | 0 => rfl
  | k + 1 => by simp [hdB, hdB_shift f o k]
theorem wordOf_lo (f : Nat → Int) (hf : ∀ i, i < 8 → 0 ≤ f i ∧ f i ≤ 255) (w : World) :
    Calls Try.prog 129 #[.agg #[.int .u8 (f 0), .int .u8 (f 1), .int .u8 (f 2), .int .u8 (f 3)]] w fun e w' => e = .returned (.int .u32 (reB f : Nat)) ∧ w.alloc (.cells (arr .u8 4 f) 206) = w' :=
  wordOf_any f (fun i hi => hf i (by omega)) w
theorem wordOf_hi (f : Nat → Int) (hf : ∀ i, i < 8 → 0 ≤ f i ∧ f i ≤ 255) (w : World) :
    Calls Try.prog 129 #[.agg #[.int .u8 (f 4), .int .u8 (f 5), .int .u8 (f 6), .int .u8 (f 7)]] w fun e w' => e = .returned (.int .u32 (imB f : Nat)) ∧ w.alloc (.cells (arr .u8 4 (fun i => f (4 + i))) 206) = w' := by
  have h := wordOf_any (fun i => f (4 + i)) (fun i hi => hf (4 + i) (by omega)) w
  rw [hdB_shift] at h
  exact h
set_option maxRecDepth 8000 in
theorem implFromKey_any (f : Nat → Int) (hf : ∀ i, i < 8 → 0 ≤ f i ∧ f i ≤ 255) (w : World) :
    Calls Try.prog 113 #[.agg (arr .u8 8 f)] w fun e w' => e = .returned (if okB f then .tuple #[.complex .f32 (reB f) (imB f), .int .i64 0] else .tuple #[.complex .f32 0 0, .int .i64 2]) ∧ Below w.heap.size w w' := by
  have hre : W32 (reB f) := hdB_W fun i hi => by have := hf i (by omega); simpa using this
  have him : W32 (imB f) := hdB_W fun i hi => hf (4 + i) (by omega)
  have g0 := arr_get .u8 8 f 0 (by omega)
  have g1 := arr_get .u8 8 f 1 (by omega)
  have g2 := arr_get .u8 8 f 2 (by omega)
  have g3 := arr_get .u8 8 f 3 (by omega)
  have g4 := arr_get .u8 8 f 4 (by omega)
  have g5 := arr_get .u8 8 f 5 (by omega)
  have g6 := arr_get .u8 8 f 6 (by omega)
  have g7 := arr_get .u8 8 f 7 (by omega)
  have ha1 := fun a w => run_arrayAt (P := Try.prog) 206 _ 4 a 4 8 Try.underlying206 (by omega) w
  have ha2 := fun a w => run_arrayAt (P := Try.prog) 206 _ 4 a 4 4 Try.underlying206 (by omega) w
  have HF := Lib.hid hf
  clear hf
  cases hok : okB f
  all_goals
    have HK := Lib.hid hok
    clear hok
    go_enter Try.func113, Try.ntmps113
    go_wp2_with fail
    refine (wordOf_lo f HF.out _).mono ?_; rintro e w' ⟨rfl, rfl⟩
    go_wp2_with fail
    refine (wordOf_hi f HF.out _).mono ?_; rintro e w' ⟨rfl, rfl⟩
    go_wp2_with fail
    have hS : ∀ w, (Op.equalIn 10000 156 (.agg (arr .u8 8 (keyF (can (reB f)) (can (imB f))))) (.agg #[.int .u8 (f 0), .int .u8 (f 1), .int .u8 (f 2), .int .u8 (f 3), .int .u8 (f 4), .int .u8 (f 5), .int .u8 (f 6), .int .u8 (f 7)])).run Try.prog w = .ok (okB f) w :=
          fun w => eqArr (P := Try.prog) (t := 156) (q := .u8) (keyF (can (reB f)) (can (imB f))) f Try.underlying156 Try.underlying5 (by kernel_rfl) w
    rw [HK.out] at hS
    clear g0 g1 g2 g3 g4 g5 g6 g7 ha1 ha2
    go_region_held3 (fun w' => Below (w.heap.size + 1) (w.alloc (.cells (arr .u8 8 f) 156)) w' ∧ ∀ j, j < 8 → w'.cell? ⟨w.heap.size, j, none⟩ = some (.int .u8 (f j)))
      (first | exact kept_at (((Below.refl _ _).alloc (by simp) _).alloc (by simp) _).drew | exact kept_at ((((Below.refl _ _).alloc (by simp) _).alloc (by simp) _).drew.trans (Below.mono (by assumption) (by first | (simp; done) | (simp; omega)))))
      (first | (go_at_call 136; refine (implKey_any _ _ hre him _).mono ?_; rintro e w' ⟨rfl, hb⟩))
    rename_i hH
    have HH := Lib.hid hH.1
    clear hH hb hS
    go_wp2
    go_ret2
    exact ⟨rfl, ((Below.refl _ _).alloc (Nat.le_refl _) _).trans (HH.out.mono (by omega))⟩
end Go.Proofs.Ytkijgadkgfapgaa
/-
  COMPLEX NUMBERS WIDENED AND HELD AGAINST EACH OTHER by the laws.
-/
namespace Go.Proofs.Ytkijgadkgfapgaa
open Go.ChangeShapes Go.WideShapes Go.ChangeAt Go.RowKit
open Fl
theorem f2f_nan {P : Program} (b : Nat) (h : kd b = 4) (w : World) : (Conv.floatToFloat .f32 b .f64).run P w = .ok (.float .f64 (nanC64 b w)) w.drew := by
  have h0 : nan32 b = true := by rw [nan_kd]; simpa using h
  have h' : 2139095040 < b % 2147483648 := by simpa [nan32] using h0
  have hr : FloatKind.f32.decode b = .nan (b / 2147483648 % 2 == 1) (b % 2147483648 - 2139095040) := by
    show Ieee.single.read b = _
    rw [read32, if_neg (by omega), if_neg (by omega), if_neg (by omega)]
  simp [Conv.floatToFloat, hr, nanC64, Question.forced]
theorem f2f_num {P : Program} (b : Nat) (h : kd b ≠ 4) (w : World) : (Conv.floatToFloat .f32 b .f64).run P w = .ok (.float .f64 (widen b)) w :=
  run_floatToFloat w (widen_bits (by rw [nan_kd]; simpa using h)).1
/-- a number widened, the tape's NaN where it is one; and the world behind it -/
def wd (b : Nat) (w : World) : Nat := if kd b = 4 then nanC64 b w else widen b
def wdW (b : Nat) (w : World) : World := if kd b = 4 then w.drew else w
theorem f2f_any {P : Program} (b : Nat) (w : World) : (Conv.floatToFloat .f32 b .f64).run P w = .ok (.float .f64 (wd b w)) (wdW b w) := by
  by_cases h : kd b = 4
  · rw [f2f_nan b h w]; simp [wd, wdW, h]
  · rw [f2f_num b h w]; simp [wd, wdW, h]
theorem conv_cx (a b : Nat) (w : World) : (convert 55 60 (.complex .f32 a b)).run Try.prog w = .ok (.complex .f64 (wd a w) (wd b (wdW a w))) (wdW b (wdW a w)) := by
  simp [convert, run_underlying Try.underlying55, run_underlying Try.underlying60, Conv.complexToComplex, f2f_any]
def Alk (x y : Nat) : Prop := (x = y ∧ nan64 x = false) ∨ (nan64 x = true ∧ nan64 y = true)
theorem wd_alk (b : Nat) (w w' : World) : Alk (wd b w) (wd b w') := by
  unfold wd
  by_cases h : kd b = 4
  · simp only [h, if_true]; exact .inr ⟨nanC64_nan _ _, nanC64_nan _ _⟩
  · simp only [h, if_false]; exact .inl ⟨rfl, widen_num b h⟩
theorem wdW_drew (b : Nat) (w : World) : ∃ n, wdW b w = w.drewN n := by
  unfold wdW
  by_cases h : kd b = 4
  · exact ⟨1, by simp only [h, if_true]; rfl⟩
  · exact ⟨0, by simp only [h, if_false]; rfl⟩
theorem wdW_below (b B : Nat) {w0 w : World} (h : Below B w0 w) : Below B w0 (wdW b w) := by
  obtain ⟨n, e⟩ := wdW_drew b w
  rw [e]
  exact ⟨h.os, h.tape, h.output, h.size, h.block⟩
theorem sameFloat_alk (x y : Nat) (h : Alk x y) (w : World) : Calls Try.prog 75 #[.float .f64 x, .float .f64 y] w fun e w' => e = .returned (.bool true) ∧ w = w' := by
  rcases h with ⟨rfl, h⟩ | ⟨h1, h2⟩
  · exact sameFloat_same x h w
  · exact sameFloat_nan x y h1 h2 w
theorem sameCx_alk (x y u v : Nat) (h : Alk x u) (k : Alk y v) (w : World) : Calls Try.prog 35 #[.complex .f64 x y, .complex .f64 u v] w fun e w' => e = .returned (.bool true) ∧ w = w' := by
  have H := Lib.hid h
  have K := Lib.hid k
  clear h k
  go_enter Try.func35, Try.ntmps35
  go_wp2_with fail
  refine (sameFloat_alk _ _ H.out _).mono ?_; rintro e w' ⟨rfl, rfl⟩
  go_wp2_with fail
  refine (sameFloat_alk _ _ K.out _).mono ?_; rintro e w' ⟨rfl, rfl⟩
  go_wp2
  go_ret
  exact ⟨rfl, rfl⟩
end Go.Proofs.Ytkijgadkgfapgaa
