/-
  SEVERAL TEXTS IN ONE: XFl,XBits,XSf,XWd,XWdc,XOwn,XWdo,XWdr,XWde,XWds,XWdi,XWdp,XWma
-/
import Derived.Laws.FloatArith
import Derived.WalkKit
import Derived.Deep.Draws
import Derived.Laws.BitsAllLaws
import Derived.Test.YtdcphheeapmjcaaChecked
import Derived.ProofKit
import Derived.OpenShut
import Derived.WalkLawsBesides
import Derived.Outline
import Derived.Laws.Externs
import Derived.Lib.Hide
import Derived.LoopTactic
import Derived.OwnWalk
import Derived.Below
import Derived.Deep.QuietTactic
import Derived.BigQuiet
import Derived.StillTailTactics
/-
  PLAIN MATHEMATICS OF FLOATS (no program in sight): how words are read, compared and written; conversions between widths; the NaNs of the tape.
-/
namespace Go.Proofs.Ytdcphheeapmjcaa.Fl
open Ieee

theorem read32 (b : Nat) : single.read b = (if b % 2147483648 < 8388608 then .number (b / 2147483648 % 2 == 1) (b % 2147483648) (-149) else if b % 2147483648 < 2139095040 then .number (b / 2147483648 % 2 == 1) (8388608 + b % 2147483648 % 8388608) (-149 + ((b % 2147483648 / 8388608 - 1 : Nat) : Int)) else if b % 2147483648 = 2139095040 then .infinity (b / 2147483648 % 2 == 1) else .nan (b / 2147483648 % 2 == 1) (b % 2147483648 - 2139095040)) := by
  rfl

theorem read64 (b : Nat) : double.read b = (if b % 9223372036854775808 < 4503599627370496 then .number (b / 9223372036854775808 % 2 == 1) (b % 9223372036854775808) (-1074) else if b % 9223372036854775808 < 9218868437227405312 then .number (b / 9223372036854775808 % 2 == 1) (4503599627370496 + b % 9223372036854775808 % 4503599627370496) (-1074 + ((b % 9223372036854775808 / 4503599627370496 - 1 : Nat) : Int)) else if b % 9223372036854775808 = 9218868437227405312 then .infinity (b / 9223372036854775808 % 2 == 1) else .nan (b / 9223372036854775808 % 2 == 1) (b % 9223372036854775808 - 9218868437227405312)) := by
  rfl

def nan32 (b : Nat) : Bool := decide (2139095040 < b % 2147483648)
def nan64 (b : Nat) : Bool := decide (9218868437227405312 < b % 9223372036854775808)
def fin32 (b : Nat) : Bool := decide (b % 2147483648 < 2139095040)

theorem order_self_num (s : Bool) (m : Nat) (i : Int) : Datum.order (.number s m i) (.number s m i) = some .eq := by
  simp [Datum.order]
theorem order_self_inf (s : Bool) : Datum.order (.infinity s) (.infinity s) = some .eq := by
  simp [Datum.order]

theorem order32_self {b : Nat} (h : nan32 b = false) : single.order b b = some .eq := by
  unfold nan32 at h; simp at h
  unfold Format.order; rw [read32]
  split
  · exact order_self_num _ _ _
  · split
    · exact order_self_num _ _ _
    · rw [if_pos (by omega)]; exact order_self_inf _
theorem order64_self {b : Nat} (h : nan64 b = false) : double.order b b = some .eq := by
  unfold nan64 at h; simp at h
  unfold Format.order; rw [read64]
  split
  · exact order_self_num _ _ _
  · split
    · exact order_self_num _ _ _
    · rw [if_pos (by omega)]; exact order_self_inf _
theorem order32_nanL {a : Nat} (b : Nat) (h : nan32 a = true) : single.order a b = none := by
  unfold nan32 at h; simp at h
  unfold Format.order; rw [read32 a, if_neg (by omega), if_neg (by omega), if_neg (by omega)]; rfl
theorem order32_nanR (a : Nat) {b : Nat} (h : nan32 b = true) : single.order a b = none := by
  unfold nan32 at h; simp at h
  unfold Format.order; rw [read32 b, if_neg (by omega), if_neg (by omega), if_neg (by omega)]
  cases single.read a <;> rfl
theorem order64_nanL {a : Nat} (b : Nat) (h : nan64 a = true) : double.order a b = none := by
  unfold nan64 at h; simp at h
  unfold Format.order; rw [read64 a, if_neg (by omega), if_neg (by omega), if_neg (by omega)]; rfl
theorem order64_nanR (a : Nat) {b : Nat} (h : nan64 b = true) : double.order a b = none := by
  unfold nan64 at h; simp at h
  unfold Format.order; rw [read64 b, if_neg (by omega), if_neg (by omega), if_neg (by omega)]
  cases double.read a <;> rfl

/-- the tape's NaN is one -/
theorem nan32_cut (q : Question) (t : Nat) (h : (∃ x y, q = .nanBits .f32 x y) ∨ (∃ x, q = .nanConv .f32 x)) : nan32 (q.cut t) = true := by
  rcases h with ⟨x, y, rfl⟩ | ⟨x, rfl⟩
  · show nan32 ((t % 2) * 2147483648 + 0x7f800000 + 1 + (t / 2) % 8388607) = true
    unfold nan32; rcases Nat.mod_two_eq_zero_or_one t with h | h <;> rw [h] <;> simp <;> omega
  · show nan32 ((t % 2) * 2147483648 + 0x7f800000 + 1 + (t / 2) % 8388607) = true
    unfold nan32; rcases Nat.mod_two_eq_zero_or_one t with h | h <;> rw [h] <;> simp <;> omega
theorem nan64_cut (q : Question) (t : Nat) (h : (∃ x y, q = .nanBits .f64 x y) ∨ (∃ x, q = .nanConv .f64 x)) : nan64 (q.cut t) = true := by
  rcases h with ⟨x, y, rfl⟩ | ⟨x, rfl⟩
  · show nan64 ((t % 2) * 9223372036854775808 + 9218868437227405312 + 1 + (t / 2) % 4503599627370495) = true
    unfold nan64; rcases Nat.mod_two_eq_zero_or_one t with h | h <;> rw [h] <;> simp <;> omega
  · show nan64 ((t % 2) * 9223372036854775808 + 9218868437227405312 + 1 + (t / 2) % 4503599627370495) = true
    unfold nan64; rcases Nat.mod_two_eq_zero_or_one t with h | h <;> rw [h] <;> simp <;> omega

theorem signWeight_pos (f : Format) : 0 < f.signWeight := Nat.two_pow_pos _
theorem binade_pos (f : Format) : 0 < f.binade := Nat.two_pow_pos _

theorem word_mod (f : Format) (s : Bool) {r : Nat} (h : r < f.signWeight) : f.word s r % f.signWeight = r := by
  unfold Format.word
  cases s
  · simp [Nat.mod_eq_of_lt h]
  · simp [Nat.mod_eq_of_lt h]
theorem word_sign (f : Format) (s : Bool) {r : Nat} (h : r < f.signWeight) : (f.word s r / f.signWeight % 2 == 1) = s := by
  unfold Format.word
  have hp := signWeight_pos f
  cases s
  · simp [Nat.div_eq_of_lt h]
  · simp [Nat.add_div_left _ hp, Nat.div_eq_of_lt h]

theorem read_word (f : Format) (s : Bool) {r : Nat} (h : r < f.signWeight) :
    f.read (f.word s r) = (if r < f.binade then .number s r f.leastPlace
      else if r < f.infRung then .number s (f.binade + r % f.binade) (f.leastPlace + (r / f.binade - 1 : Nat))
      else if r = f.infRung then .infinity s else .nan s (r - f.infRung)) := by
  unfold Format.read
  simp only [word_mod f s h, word_sign f s h]

theorem cut_zero (w : Toward) (s : Bool) (n : Nat) : w.cut s n 0 = n := by
  unfold Toward.cut
  have e : (1 <<< min 0 (n.log2 + 2)) = 1 := by simp
  rw [e]
  cases w <;> simp [Nat.mod_one]

/-- A NUMBER THAT THE FORMAT HAS is written as it is, and read again. -/
theorem read_nearest_exact (f : Format) (s : Bool) (m : Nat) (p : Int) (hm : m ≠ 0) (hl : m.log2 ≤ f.fractionBits) (hp : f.leastPlace ≤ p)
    (ht : p + m.log2 < f.leastPlace + (2 ^ f.exponentBits - 2 : Nat) + f.fractionBits) (hE : 2 ≤ f.exponentBits) :
    f.read (f.nearest s m p) = .number s (m <<< (p - max (p + m.log2 - f.fractionBits) f.leastPlace).toNat) (max (p + m.log2 - f.fractionBits) f.leastPlace) := by
  have hB := binade_pos f
  have hlt : m < 2 ^ (m.log2 + 1) := Nat.lt_log2_self
  have hge : 2 ^ m.log2 ≤ m := Nat.log2_self_le hm
  obtain ⟨last, hlast⟩ : ∃ last, last = max (p + m.log2 - f.fractionBits) f.leastPlace := ⟨_, rfl⟩
  have h1 : last ≤ p := by omega
  have hE' : 4 ≤ 2 ^ f.exponentBits := by
    calc 4 = 2 ^ 2 := rfl
      _ ≤ 2 ^ f.exponentBits := Nat.pow_le_pow_right (by omega) hE
  have hdr : (last - p).toNat = 0 := by omega
  obtain ⟨k, hk⟩ : ∃ k : Nat, (p - last).toNat = k := ⟨_, rfl⟩
  have hkept : m <<< k < 2 * f.binade := by
    have h2 : m.log2 + k ≤ f.fractionBits := by omega
    rw [Nat.shiftLeft_eq]
    calc m * 2 ^ k < 2 ^ (m.log2 + 1) * 2 ^ k := (Nat.mul_lt_mul_right (Nat.two_pow_pos k)).2 hlt
      _ = 2 * 2 ^ (m.log2 + k) := by rw [← Nat.pow_add, ← Nat.pow_succ']; congr 1; omega
      _ ≤ 2 * 2 ^ f.fractionBits := Nat.mul_le_mul_left _ (Nat.pow_le_pow_right (by omega) h2)
  have hnear : f.nearest s m p = f.word s (min ((last - f.leastPlace).toNat * f.binade + m <<< k) f.infRung) := by
    unfold Format.nearest
    rw [if_neg hm]
    simp only [← hlast, hdr, hk, cut_zero]
  obtain ⟨q, hq⟩ : ∃ q : Nat, (last - f.leastPlace).toNat = q := ⟨_, rfl⟩
  have hqt : q + 2 ≤ 2 ^ f.exponentBits - 1 := by omega
  have hri : q * f.binade + m <<< k < f.infRung := by
    unfold Format.infRung
    calc q * f.binade + m <<< k < q * f.binade + 2 * f.binade := by omega
      _ = (q + 2) * f.binade := by rw [Nat.add_mul]
      _ ≤ (2 ^ f.exponentBits - 1) * f.binade := Nat.mul_le_mul_right _ hqt
  have hrs := Nat.lt_trans hri f.infRung_lt
  rw [hnear, hq, Nat.min_eq_left (Nat.le_of_lt hri), read_word f s hrs, ← hlast, hk]
  by_cases hsub : q * f.binade + m <<< k < f.binade
  · rw [if_pos hsub]
    have hq0 : q = 0 := by
      rcases Nat.eq_zero_or_pos q with h | h
      · exact h
      · have hle := Nat.le_mul_of_pos_left f.binade h
        exact absurd (Nat.lt_of_le_of_lt (Nat.le_trans hle (Nat.le_add_right _ _)) hsub) (Nat.lt_irrefl _)
    subst hq0
    simp only [Nat.zero_mul, Nat.zero_add]
    congr 1
    omega
  · rw [if_neg hsub, if_pos hri]
    have hfull : f.binade ≤ m <<< k := by
      rcases Nat.eq_zero_or_pos q with h | h
      · subst h; simpa using hsub
      · have : p + m.log2 - f.fractionBits = last := by omega
        have h2 : m.log2 + k = f.fractionBits := by omega
        rw [Nat.shiftLeft_eq]
        calc f.binade = 2 ^ m.log2 * 2 ^ k := by unfold Format.binade; rw [← Nat.pow_add, h2]
          _ ≤ m * 2 ^ k := Nat.mul_le_mul_right _ hge
    have e1 : (q * f.binade + m <<< k) % f.binade = m <<< k - f.binade := by
      rw [Nat.mul_comm, Nat.mul_add_mod, Nat.mod_eq_sub_mod hfull, Nat.mod_eq_of_lt (by omega)]
    have e2 : (q * f.binade + m <<< k) / f.binade = q + 1 := by
      rw [Nat.mul_comm, Nat.mul_add_div hB, Nat.div_eq_sub_div hB hfull, Nat.div_eq_of_lt (by omega)]
    rw [e1, e2]
    congr 1 <;> omega

theorem read_nearest_zero (f : Format) (s : Bool) (p : Int) : f.read (f.nearest s 0 p) = .number s 0 f.leastPlace := by
  unfold Format.nearest
  rw [if_pos rfl, read_word f s (signWeight_pos f), if_pos (binade_pos f)]

/-! ### a number taken from itself; the tape's NaNs -/
theorem sub_self_num (f : Format) {a : Nat} {s : Bool} {m : Nat} {p : Int} (h : f.read a = .number s m p) : f.sub a a = some 0 := by
  unfold Format.sub
  rw [h]
  have : signed s m (p - min p p).toNat + signed (!s) m (p - min p p).toNat = 0 := by
    cases s <;> simp [signed] <;> omega
  simp only [Datum.opposite, Datum.sum, this, ↓reduceIte, Option.map_some]
  cases s <;> rfl
theorem sub_self_fin {a : Nat} (h : fin32 a = true) : single.sub a a = some 0 := by
  have h' : a % 2147483648 < 2139095040 := by simpa [fin32] using h
  by_cases h1 : a % 2147483648 < 8388608
  · exact sub_self_num single (by rw [read32, if_pos h1])
  · exact sub_self_num single (by rw [read32, if_neg h1, if_pos h'])
theorem sub_self_odd {a : Nat} (h : fin32 a = false) : single.sub a a = none := by
  have h' : ¬ a % 2147483648 < 2139095040 := by simpa [fin32] using h
  have h1 : ¬ a % 2147483648 < 8388608 := by omega
  unfold Format.sub
  by_cases h2 : a % 2147483648 = 2139095040
  · rw [read32, if_neg h1, if_neg h', if_pos h2]; simp [Datum.opposite, Datum.sum]
  · rw [read32, if_neg h1, if_neg h', if_neg h2]; rfl
/-- what the tape gives where 'x op y' is no number -/
def nanS (x y : Nat) (w : World) : Nat := (Question.nanBits .f32 x y).cut (w.tape w.drawn (.nanBits .f32 x y))
def nanD (x y : Nat) (w : World) : Nat := (Question.nanBits .f64 x y).cut (w.tape w.drawn (.nanBits .f64 x y))
def nanC32 (x : Nat) (w : World) : Nat := (Question.nanConv .f32 x).cut (w.tape w.drawn (.nanConv .f32 x))
def nanC64 (x : Nat) (w : World) : Nat := (Question.nanConv .f64 x).cut (w.tape w.drawn (.nanConv .f64 x))
theorem nanS_nan (x y : Nat) (w : World) : nan32 (nanS x y w) = true := nan32_cut _ _ (Or.inl ⟨x, y, rfl⟩)
theorem nanD_nan (x y : Nat) (w : World) : nan64 (nanD x y w) = true := nan64_cut _ _ (Or.inl ⟨x, y, rfl⟩)
theorem nanC32_nan (x : Nat) (w : World) : nan32 (nanC32 x w) = true := nan32_cut _ _ (Or.inr ⟨x, rfl⟩)
theorem nanC64_nan (x : Nat) (w : World) : nan64 (nanC64 x w) = true := nan64_cut _ _ (Or.inr ⟨x, rfl⟩)
section
variable {P : Program} (w : World)
theorem run_arith_nan32 (op : BinOp) (t : TypeId) (x y : Nat) (hop : op = .add ∨ op = .sub ∨ op = .mul ∨ op = .quo) (h : floatBits op .f32 x y = none) :
    (binOp op t (.float .f32 x) (.float .f32 y)).run P w = .ok (.float .f32 (nanS x y w)) w.drew := by
  unfold floatBits at h
  rcases hop with rfl | rfl | rfl | rfl <;> simp only at h <;> simp [binOp, Op.floatArith, h, nanS, Question.forced]
theorem run_arith_nan64 (op : BinOp) (t : TypeId) (x y : Nat) (hop : op = .add ∨ op = .sub ∨ op = .mul ∨ op = .quo) (h : floatBits op .f64 x y = none) :
    (binOp op t (.float .f64 x) (.float .f64 y)).run P w = .ok (.float .f64 (nanD x y w)) w.drew := by
  unfold floatBits at h
  rcases hop with rfl | rfl | rfl | rfl <;> simp only at h <;> simp [binOp, Op.floatArith, h, nanD, Question.forced]
/-- a NaN, widened: some NaN -/
theorem run_widen_nan (src dst : TypeId) (b : Nat) (hs : P.underlying src = some (.float .f32)) (hd : P.underlying dst = some (.float .f64)) (h : nan32 b = true) :
    (convert src dst (.float .f32 b)).run P w = .ok (.float .f64 (nanC64 b w)) w.drew := by
  have h' : 2139095040 < b % 2147483648 := by simpa [nan32] using h
  have hr : FloatKind.f32.decode b = .nan (b / 2147483648 % 2 == 1) (b % 2147483648 - 2139095040) := by
    show single.read b = _
    rw [read32, if_neg (by omega), if_neg (by omega), if_neg (by omega)]
  simp [convert, run_underlying hs, run_underlying hd, Conv.floatToFloat, hr, nanC64, Question.forced]
theorem run_narrow_nan (src dst : TypeId) (b : Nat) (hs : P.underlying src = some (.float .f64)) (hd : P.underlying dst = some (.float .f32)) (h : nan64 b = true) :
    (convert src dst (.float .f64 b)).run P w = .ok (.float .f32 (nanC32 b w)) w.drew := by
  have h' : 9218868437227405312 < b % 9223372036854775808 := by simpa [nan64] using h
  have hr : FloatKind.f64.decode b = .nan (b / 9223372036854775808 % 2 == 1) (b % 9223372036854775808 - 9218868437227405312) := by
    show double.read b = _
    rw [read64, if_neg (by omega), if_neg (by omega), if_neg (by omega)]
  simp [convert, run_underlying hs, run_underlying hd, Conv.floatToFloat, hr, nanC32, Question.forced]
end

/-! ### a number widened -/
theorem log2_lt24 {m : Nat} (h : m < 16777216) : m.log2 ≤ 23 := by
  by_cases hm : m = 0
  · subst hm; decide
  · have := (Nat.log2_lt hm (k := 24)).2 h
    omega
/-- The word of a narrow number that is not NaN, as a wide one. -/
def widen (b : Nat) : Nat := double.write (single.read b)
theorem read_widen_num {b : Nat} {s : Bool} {m : Nat} {p : Int} (h : single.read b = .number s m p) (hm : m < 16777216) (h1 : -149 ≤ p) (h2 : p ≤ 104) :
    ∃ k : Nat, ∃ q : Int, double.read (widen b) = .number s (m * 2 ^ k) q ∧ (m ≠ 0 → q = p - k) := by
  unfold widen
  rw [h]
  show ∃ k : Nat, ∃ q : Int, double.read (double.nearest s m p) = _ ∧ _
  by_cases hm0 : m = 0
  · subst hm0
    refine ⟨0, double.leastPlace, ?_, fun hh => absurd rfl hh⟩
    rw [read_nearest_zero]
  · have hl := log2_lt24 hm
    have hlp : double.leastPlace = -1074 := rfl
    have hfb : double.fractionBits = 52 := rfl
    have h := read_nearest_exact double s m p hm0 (by rw [hfb]; omega) (by rw [hlp]; omega) (by rw [hlp, hfb]; have : (2 : Nat) ^ double.exponentBits = 2048 := rfl; rw [this]; omega) (by decide)
    rw [Nat.shiftLeft_eq] at h
    exact ⟨_, _, h, fun _ => by rw [hlp, hfb]; omega⟩
theorem read32_num {b : Nat} (h : fin32 b = true) : ∃ s m p, single.read b = .number s m p ∧ m < 16777216 ∧ -149 ≤ p ∧ p ≤ 104 := by
  have h' : b % 2147483648 < 2139095040 := by simpa [fin32] using h
  by_cases h1 : b % 2147483648 < 8388608
  · exact ⟨_, _, _, by rw [read32, if_pos h1], by omega, by omega, by omega⟩
  · exact ⟨_, _, _, by rw [read32, if_neg h1, if_pos h'], by omega, by omega, by omega⟩
theorem read32_inf {b : Nat} (h : fin32 b = false) (hn : nan32 b = false) : single.read b = .infinity (b / 2147483648 % 2 == 1) := by
  have h' : ¬ b % 2147483648 < 2139095040 := by simpa [fin32] using h
  have h2 : ¬ 2139095040 < b % 2147483648 := by simpa [nan32] using hn
  rw [read32, if_neg (by omega), if_neg h', if_pos (by omega)]
theorem widen_bits {b : Nat} (hn : nan32 b = false) : floatToFloatBits .f32 b .f64 = some (widen b) ∧ nan64 (widen b) = false := by
  cases hf : fin32 b
  · have hr := read32_inf hf hn
    constructor
    · unfold floatToFloatBits
      rw [if_neg (by decide)]
      show (match single.read b with | .nan _ _ => none | .infinity s => some (FloatKind.f64.encode (.infinity s)) | .number s m e => _) = _
      rw [hr]; unfold widen; rw [hr]; rfl
    · unfold widen; rw [hr]; cases (b / 2147483648 % 2 == 1) <;> decide
  · obtain ⟨s, m, p, hr, hm, h1, h2⟩ := read32_num hf
    obtain ⟨k, q, hw, _⟩ := read_widen_num hr hm h1 h2
    have hwr : double.write (.number s m p) = widen b := by unfold widen; rw [hr]
    constructor
    · unfold floatToFloatBits
      rw [if_neg (by decide)]
      show (match single.read b with | .nan _ _ => none | .infinity s => some (FloatKind.f64.encode (.infinity s)) | .number s m e => if (FloatKind.f64.decode (FloatKind.f64.encode (.number s m e))).isInfinity then none else some (FloatKind.f64.encode (.number s m e))) = _
      rw [hr]
      show (if (double.read (double.write (.number s m p))).isInfinity then none else some (double.write (.number s m p))) = _
      rw [hwr, hw]; rfl
    · cases hc : nan64 (widen b)
      · rfl
      · have h' : 9218868437227405312 < widen b % 9223372036854775808 := by simpa [nan64] using hc
        rw [read64, if_neg (by omega), if_neg (by omega), if_neg (by omega)] at hw
        cases hw

/-! ### zeros of wide numbers -/
theorem compare_zero (z : Int) : (compare z 0 == .eq) = decide (z = 0) := by
  rw [Bool.eq_iff_iff]; simp
theorem signed_zero (s : Bool) (m k : Nat) : signed s m k = 0 ↔ m = 0 := by
  have hp : 0 < 2 ^ k := Nat.two_pow_pos k
  have e : m <<< k = 0 ↔ m = 0 := by
    rw [Nat.shiftLeft_eq, Nat.mul_eq_zero]
    constructor
    · rintro (h | h)
      · exact h
      · omega
    · exact fun h => .inl h
  unfold signed
  cases s <;> simp <;> omega
theorem order_num_zero (s : Bool) (m : Nat) (i j : Int) : (Datum.order (.number s m i) (.number false 0 j) == some .eq) = decide (m = 0) := by
  have h0 : signed false 0 (j - min i j).toNat = 0 := (signed_zero _ _ _).2 rfl
  show (some (compare (signed s m (i - min i j).toNat) (signed false 0 (j - min i j).toNat)) == some Ordering.eq) = _
  rw [h0]
  have h1 := compare_zero (signed s m (i - min i j).toNat)
  have h2 := signed_zero s m (i - min i j).toNat
  rw [show (some (compare (signed s m (i - min i j).toNat) 0) == some Ordering.eq) = (compare (signed s m (i - min i j).toNat) 0 == Ordering.eq) from rfl, h1]
  exact decide_eq_decide.2 h2
theorem read64_zero : double.read 0 = .number false 0 (-1074) := by decide
theorem read32_zero : single.read 0 = .number false 0 (-149) := by decide
/-- is a wide word a zero's? -/
def zero64 (r : Nat) : Bool := decide (r % 9223372036854775808 = 0)
def zero32 (r : Nat) : Bool := decide (r % 2147483648 = 0)
theorem order64_zero {r : Nat} (h : nan64 r = false) : (double.order r 0 == some .eq) = zero64 r := by
  have h' : ¬ 9218868437227405312 < r % 9223372036854775808 := by simpa [nan64] using h
  unfold Format.order zero64
  rw [read64_zero, read64]
  by_cases h1 : r % 9223372036854775808 < 4503599627370496
  · rw [if_pos h1, order_num_zero]
  · rw [if_neg h1]
    by_cases h2 : r % 9223372036854775808 < 9218868437227405312
    · rw [if_pos h2, order_num_zero, decide_eq_decide]; omega
    · rw [if_neg h2, if_pos (by omega)]
      have : ¬ r % 9223372036854775808 = 0 := by omega
      cases (r / 9223372036854775808 % 2 == 1) <;> simp [Datum.order, this]
theorem order32_zero_eq {r : Nat} (h : nan32 r = false) : (single.order r 0 == some .eq) = zero32 r := by
  have h' : ¬ 2139095040 < r % 2147483648 := by simpa [nan32] using h
  unfold Format.order zero32
  rw [read32_zero, read32]
  by_cases h1 : r % 2147483648 < 8388608
  · rw [if_pos h1, order_num_zero]
  · rw [if_neg h1]
    by_cases h2 : r % 2147483648 < 2139095040
    · rw [if_pos h2, order_num_zero, decide_eq_decide]; omega
    · rw [if_neg h2, if_pos (by omega)]
      have : ¬ r % 2147483648 = 0 := by omega
      cases (r / 2147483648 % 2 == 1) <;> simp [Datum.order, this]
/-- 1 divided by a zero -/
theorem one_over_zero {r : Nat} (h : zero64 r = true) : ∃ x, floatBits .quo .f64 4607182418800017408 r = some x := by
  have h' : r % 9223372036854775808 = 0 := by simpa [zero64] using h
  refine ⟨double.write (.infinity (false ^^ (r / 9223372036854775808 % 2 == 1))), ?_⟩
  show double.div 4607182418800017408 r = _
  unfold Format.div
  have h1 : double.read 4607182418800017408 = .number false 4503599627370496 (-52) := by decide
  rw [h1, read64, h', if_pos (by omega)]
  rfl

/-! ### signs of widened numbers; zeros narrowed -/
theorem widen_lt (b : Nat) : widen b < 18446744073709551616 := double.write_lt _
theorem widen_sign {b : Nat} (h : fin32 b = true) (hb : b < 4294967296) : (9223372036854775808 ≤ widen b) ↔ 2147483648 ≤ b := by
  obtain ⟨s, m, p, hr, hm, h1, h2⟩ := read32_num h
  obtain ⟨k, q, hw, _⟩ := read_widen_num hr hm h1 h2
  have hl := widen_lt b
  have e1 : (widen b / 9223372036854775808 % 2 == 1) = s := by
    rw [read64] at hw
    split at hw
    · injection hw with e
    · split at hw
      · injection hw with e
      · split at hw <;> cases hw
  have e2 : (b / 2147483648 % 2 == 1) = s := by
    rw [read32] at hr
    split at hr
    · injection hr with e
    · split at hr
      · injection hr with e
      · split at hr <;> cases hr
  rw [← e2] at e1
  have e3 : (widen b / 9223372036854775808 % 2 = 1) ↔ (b / 2147483648 % 2 = 1) := by
    have := congrArg (· = true) e1
    simpa using this
  omega
theorem narrow_zero : floatToFloatBits .f64 0 .f32 = some 0 := by decide
theorem narrow_minus : floatToFloatBits .f64 9223372036854775808 .f32 = some 2147483648 := by decide
end Go.Proofs.Ytdcphheeapmjcaa.Fl
/-
  PLAIN FACTS ON BITS OF NUMBERS (no program in sight): the size of a word, its class, its place, its opposite.
-/
namespace Go.Proofs.Ytdcphheeapmjcaa
open Fl

/-- the size: all bits but the sign -/
def sz (a : Nat) : Nat := a % 2147483648
def W32 (a : Nat) : Prop := a < 4294967296
theorem W32.of_wf {a : Nat} (h : (Lit.float .f32 a).wf = true) : W32 a := by unfold W32; simpa [Lit.wf] using h
theorem W32.wf {a : Nat} (h : W32 a) : (Lit.float .f32 a).wf = true := by unfold W32 at h; simpa [Lit.wf] using h
theorem and_mask (a : Nat) (h : W32 a) : bits .and .u32 (a : Int) 2147483647 = (sz a : Int) := by
  unfold W32 at h
  unfold sz
  rw [show (2147483647 : Int) = ((2147483647 : Nat) : Int) from rfl, u32_and_nat a _ h (by omega), show (2147483647 : Nat) = 2 ^ 31 - 1 from rfl, Nat.and_two_pow_sub_one_eq_mod]

def kd (a : Nat) : Int :=
  if sz a = 0 then 0 else if sz a < 8388608 then 1 else if sz a < 2139095040 then 2 else if sz a = 2139095040 then 3 else 4
def neg (a : Nat) : Bool := decide (2147483648 ≤ a)

/-- THE FIVE CLASSES, each with its tests in the walk's own form. -/
theorem cls (a : Nat) : (kd a = 0 ∧ ((sz a : Int) == 0) = true) ∨ (kd a = 1 ∧ ((sz a : Int) == 0) = false ∧ decide ((sz a : Int) < 8388608) = true) ∨
    (kd a = 2 ∧ ((sz a : Int) == 0) = false ∧ decide ((sz a : Int) < 8388608) = false ∧ decide ((sz a : Int) < 2139095040) = true) ∨
    (kd a = 3 ∧ ((sz a : Int) == 0) = false ∧ decide ((sz a : Int) < 8388608) = false ∧ decide ((sz a : Int) < 2139095040) = false ∧ ((sz a : Int) == 2139095040) = true) ∨
    (kd a = 4 ∧ ((sz a : Int) == 0) = false ∧ decide ((sz a : Int) < 8388608) = false ∧ decide ((sz a : Int) < 2139095040) = false ∧ ((sz a : Int) == 2139095040) = false) := by
  unfold kd
  by_cases h1 : sz a = 0
  · left; simp [h1]
  · by_cases h2 : sz a < 8388608
    · right; left; simp [h1, h2]; omega
    · by_cases h3 : sz a < 2139095040
      · right; right; left; simp [h1, h2, h3]; omega
      · by_cases h4 : sz a = 2139095040
        · right; right; right; left; simp [h4]
        · right; right; right; right; simp [h1, h2, h3, h4]; omega

theorem nan_kd (a : Nat) : nan32 a = decide (kd a = 4) := by
  unfold nan32 kd sz
  by_cases h1 : a % 2147483648 = 0
  · simp [h1]
  · by_cases h2 : a % 2147483648 < 8388608
    · simp [h1, h2]; omega
    · by_cases h3 : a % 2147483648 < 2139095040
      · simp [h1, h2, h3]; omega
      · by_cases h4 : a % 2147483648 = 2139095040
        · simp [h4]
        · simp [h1, h2, h3, h4]; omega
/-- Go's 'a != a' -/
theorem neq_self (a : Nat) : (FloatKind.f32.format.order a a != some .eq) = decide (kd a = 4) := by
  rw [← nan_kd]
  show (Ieee.single.order a a != some .eq) = _
  cases h : nan32 a
  · rw [order32_self h]; rfl
  · rw [order32_nanL a h]; rfl

/-! ### bit by bit -/
theorem i64_wrap_nat (n : Nat) (h : n < 9223372036854775808) : IntKind.i64.wrap (n : Int) = n := by
  simp [IntKind.wrap, IntKind.bits, IntKind.signed]; omega
theorem ofInt_i64 (a : Nat) (ha : a < 18446744073709551616) : (BitVec.ofInt 64 (a : Int)).toNat = a := by
  rw [BitVec.ofInt_natCast, BitVec.toNat_ofNat]; exact Nat.mod_eq_of_lt (by omega)
theorem i64_and_nat (a b : Nat) (ha : a < 9223372036854775808) (hb : b < 9223372036854775808) : bits .and .i64 (a : Int) (b : Int) = ((a &&& b : Nat) : Int) := by
  have hx : a &&& b < 2 ^ 63 := Nat.and_lt_two_pow _ (by omega)
  show IntKind.i64.wrap ((BitVec.ofInt 64 (a : Int) &&& BitVec.ofInt 64 (b : Int)).toNat : Int) = _
  rw [BitVec.toNat_and, ofInt_i64 a (by omega), ofInt_i64 b (by omega), i64_wrap_nat _ (by omega)]
theorem i64_or_nat (a b : Nat) (ha : a < 9223372036854775808) (hb : b < 9223372036854775808) : bits .or .i64 (a : Int) (b : Int) = ((a ||| b : Nat) : Int) := by
  have hx : a ||| b < 2 ^ 63 := Nat.or_lt_two_pow (by omega) (by omega)
  show IntKind.i64.wrap ((BitVec.ofInt 64 (a : Int) ||| BitVec.ofInt 64 (b : Int)).toNat : Int) = _
  rw [BitVec.toNat_or, ofInt_i64 a (by omega), ofInt_i64 b (by omega), i64_wrap_nat _ (by omega)]
theorem sz_lt (a : Nat) : sz a < 2147483648 := Nat.mod_lt _ (by omega)
theorem split_bits {a : Nat} (h : W32 a) : a = sz a + (if neg a then 2147483648 else 0) := by
  unfold W32 at h; unfold sz neg; by_cases hn : 2147483648 ≤ a <;> simp [hn] <;> omega
theorem nat_and_sign (a : Nat) (h : W32 a) : a &&& 2147483648 = if neg a then 2147483648 else 0 := by
  unfold W32 at h
  rw [show (2147483648 : Nat) = 2 ^ 31 from rfl, nat_bit]
  unfold neg
  by_cases hn : 2147483648 ≤ a
  · rw [if_pos (by simpa using hn)]; omega
  · rw [if_neg (by simpa using hn)]; omega
theorem and_sign (a : Nat) (h : W32 a) : bits .and .u32 (a : Int) 2147483648 = (if neg a then 2147483648 else 0 : Int) := by
  have h' := h
  unfold W32 at h'
  rw [show (2147483648 : Int) = ((2147483648 : Nat) : Int) from rfl, u32_and_nat a _ h' (by omega), nat_and_sign a h]
  cases neg a <;> rfl
/-- the opposite number: the sign's bit turned -/
def opp (a : Nat) : Nat := if neg a then sz a else sz a + 2147483648
theorem xor_sign_nat (a : Nat) (h : W32 a) : a ^^^ 2147483648 = opp a := by
  unfold W32 at h
  have hlow : (a ^^^ 2147483648) % 2147483648 = a % 2147483648 := by
    have e := Nat.xor_mod_two_pow (a := a) (b := 2147483648) (n := 31)
    simpa using e
  have hhi : (a ^^^ 2147483648) / 2147483648 = a / 2147483648 ^^^ 1 := by
    have e := Nat.xor_div_two_pow (a := a) (b := 2147483648) (n := 31)
    simpa using e
  have hc : a / 2147483648 = 0 ∨ a / 2147483648 = 1 := by omega
  unfold opp neg sz
  rcases hc with hc | hc
  · rw [hc] at hhi
    have : ¬ 2147483648 ≤ a := by omega
    simp only [this, decide_false]
    have h2 : (0 ^^^ 1 : Nat) = 1 := rfl
    rw [h2] at hhi
    simp only [Bool.false_eq_true, ↓reduceIte]
    omega
  · rw [hc] at hhi
    have : 2147483648 ≤ a := by omega
    simp only [this, decide_true]
    have h2 : (1 ^^^ 1 : Nat) = 0 := rfl
    rw [h2] at hhi
    simp only [↓reduceIte]
    omega
theorem xor_sign (a : Nat) (h : W32 a) : bits .xor .u32 (a : Int) 2147483648 = (opp a : Int) := by
  have h' := h
  unfold W32 at h'
  rw [show (2147483648 : Int) = ((2147483648 : Nat) : Int) from rfl, u32_xor_nat a _ h' (by omega), xor_sign_nat a h]
theorem negFloat_32 (a : Nat) (h : W32 a) : Op.negFloat .f32 a = opp a := xor_sign_nat a h
theorem opp_W32 (a : Nat) : W32 (opp a) := by
  have := sz_lt a
  unfold W32 opp; split <;> omega
theorem opp_sz (a : Nat) : sz (opp a) = sz a := by
  have := sz_lt a
  unfold opp; split
  · unfold sz; omega
  · unfold sz at *; omega
theorem opp_kd (a : Nat) : kd (opp a) = kd a := by unfold kd; rw [opp_sz]

/-! ### parts and places -/
def frac (a : Nat) : Nat := if sz a < 8388608 then sz a else 8388608 + sz a % 8388608
def expo (a : Nat) : Int := if sz a < 8388608 then -149 else (sz a / 8388608 : Nat) - 150
theorem nat_low23 (a : Nat) : a &&& 8388607 = a % 8388608 := by
  rw [show (8388607 : Nat) = 2 ^ 23 - 1 from rfl, Nat.and_two_pow_sub_one_eq_mod]
theorem low23 (a : Nat) (h : W32 a) : bits .and .i64 (a : Int) 8388607 = ((sz a % 8388608 : Nat) : Int) := by
  unfold W32 at h
  rw [show (8388607 : Int) = ((8388607 : Nat) : Int) from rfl, i64_and_nat a _ (by omega) (by omega), nat_low23]
  unfold sz; congr 1; omega
theorem low23' (a : Nat) : bits .and .i64 (sz a : Int) 8388607 = ((sz a % 8388608 : Nat) : Int) := by
  have := sz_lt a
  rw [show (8388607 : Int) = ((8388607 : Nat) : Int) from rfl, i64_and_nat (sz a) _ (by omega) (by omega), nat_low23]
theorem hid23 (x : Nat) : bits .or .i64 ((x % 8388608 : Nat) : Int) 8388608 = ((8388608 + x % 8388608 : Nat) : Int) := by
  rw [show (8388608 : Int) = ((8388608 : Nat) : Int) from rfl, i64_or_nat _ _ (by omega) (by omega)]
  rw [Nat.or_comm, nat_join 23 8388608 (x % 8388608) (by decide) (by omega)]
theorem field8 (a : Nat) (h : W32 a) : bits .and .i64 ((a / 8388608 : Nat) : Int) 255 = ((sz a / 8388608 : Nat) : Int) := by
  unfold W32 at h
  rw [show (255 : Int) = ((255 : Nat) : Int) from rfl, i64_and_nat _ _ (by omega) (by omega), nat_mask8]
  unfold sz; congr 1; omega
theorem sign31 (a : Nat) (h : W32 a) : a / 2147483648 = if neg a then 1 else 0 := by
  unfold W32 at h; unfold neg; by_cases hn : 2147483648 ≤ a <;> simp [hn] <;> omega
/-- the place in the order -/
def key (a : Nat) : Int := if neg a then -1 - (sz a : Int) else sz a
def fromKey (k : Int) : Nat := if k < 0 then ((-1 - k) % 2147483648).toNat + 2147483648 else k.toNat
theorem or_sign (x : Nat) (h : x < 2147483648) : x ||| 2147483648 = x + 2147483648 := by
  rw [Nat.or_comm, nat_join 31 2147483648 x (by decide) (by omega), Nat.add_comm]
theorem fromKey_key (a : Nat) (h : W32 a) : fromKey (key a) = a := by
  have h1 := sz_lt a
  have h2 := split_bits h
  unfold fromKey key
  cases hn : neg a
  · rw [hn] at h2; simp only [Bool.false_eq_true, ↓reduceIte] at h2 ⊢; rw [if_neg (by omega)]; omega
  · rw [hn] at h2; simp only [↓reduceIte] at h2 ⊢; rw [if_pos (by omega)]; omega
theorem top31 (a : Nat) (h : W32 a) : ((a : Int) / 2147483648 == 1) = neg a := by
  unfold W32 at h; unfold neg
  rw [Bool.eq_iff_iff]; simp; omega
theorem low31 (a : Nat) (h : W32 a) : bits .and .i64 (a : Int) 2147483647 = (sz a : Int) := by
  unfold W32 at h
  rw [show (2147483647 : Int) = ((2147483647 : Nat) : Int) from rfl, i64_and_nat a _ (by omega) (by omega), show (2147483647 : Nat) = 2 ^ 31 - 1 from rfl, Nat.and_two_pow_sub_one_eq_mod]
  rfl
end Go.Proofs.Ytdcphheeapmjcaa
/-
  CONTRACTS: how the laws hold two numbers against each other ('sameFloat'), and numbers widened.
-/
namespace Go.Proofs.Ytdcphheeapmjcaa
open Go.ChangeShapes Go.WideShapes Go.ChangeAt Go.RowKit
open Fl
theorem ret_bool {a b : Bool} (h : a = b) : Ending.returned (.bool a) = .returned (.bool b) := by rw [h]
theorem ret_int {k : IntKind} {a b : Int} (h : a = b) : Ending.returned (.int k a) = .returned (.int k b) := by rw [h]
theorem ret_float {k : FloatKind} {a b : Nat} (h : a = b) : Ending.returned (.float k a) = .returned (.float k b) := by rw [h]
theorem widen_num (g : Nat) (h : kd g ≠ 4) : nan64 (widen g) = false := (widen_bits (by rw [nan_kd]; simpa using h)).2
theorem nan_kd4 {r : Nat} (h : nan32 r = true) : kd r = 4 := by rw [nan_kd] at h; simpa using h
end Go.Proofs.Ytdcphheeapmjcaa
/-
  PLAIN MATHEMATICS OF WORDS: letters, their numbers, inverses; reduced words.
-/
namespace Go.Proofs.Ytdcphheeapmjcaa.Wd
/-- the number of a letter in the order a A b B c C d D; -1 for every other byte -/
def lnum (c : UInt8) : Int := if c = 97 then 0 else if c = 65 then 1 else if c = 98 then 2 else if c = 66 then 3 else if c = 99 then 4 else if c = 67 then 5 else if c = 100 then 6 else if c = 68 then 7 else -1
/-- the inverse of a letter -/
def oth (c : UInt8) : UInt8 := if c = 97 then 65 else if c = 65 then 97 else if c = 98 then 66 else if c = 66 then 98 else if c = 99 then 67 else if c = 67 then 99 else if c = 100 then 68 else if c = 68 then 100 else c
def isL (c : UInt8) : Bool := decide (0 ≤ lnum c)
theorem lcases {c : UInt8} (h : isL c = true) : c = 97 ∨ c = 65 ∨ c = 98 ∨ c = 66 ∨ c = 99 ∨ c = 67 ∨ c = 100 ∨ c = 68 := by
  unfold isL lnum at h
  by_cases h0 : c = 97; · simp [h0]
  by_cases h1 : c = 65; · simp [h1]
  by_cases h2 : c = 98; · simp [h2]
  by_cases h3 : c = 66; · simp [h3]
  by_cases h4 : c = 99; · simp [h4]
  by_cases h5 : c = 67; · simp [h5]
  by_cases h6 : c = 100; · simp [h6]
  by_cases h7 : c = 68; · simp [h7]
  simp [h0, h1, h2, h3, h4, h5, h6, h7] at h
theorem nocase {c : UInt8} (h : isL c = false) : c ≠ 97 ∧ c ≠ 65 ∧ c ≠ 98 ∧ c ≠ 66 ∧ c ≠ 99 ∧ c ≠ 67 ∧ c ≠ 100 ∧ c ≠ 68 := by
  refine ⟨?_, ?_, ?_, ?_, ?_, ?_, ?_, ?_⟩ <;> (rintro rfl; revert h; decide)
theorem lnum_no {c : UInt8} (h : isL c = false) : lnum c = -1 := by
  obtain ⟨h0, h1, h2, h3, h4, h5, h6, h7⟩ := nocase h
  simp [lnum, h0, h1, h2, h3, h4, h5, h6, h7]
theorem lnum_yes {c : UInt8} (h : isL c = true) : 0 ≤ lnum c ∧ lnum c ≤ 7 := by
  rcases lcases h with rfl | rfl | rfl | rfl | rfl | rfl | rfl | rfl <;> decide
theorem oth_isL {c : UInt8} (h : isL c = true) : isL (oth c) = true := by
  rcases lcases h with rfl | rfl | rfl | rfl | rfl | rfl | rfl | rfl <;> decide
theorem oth_oth {c : UInt8} (h : isL c = true) : oth (oth c) = c := by
  rcases lcases h with rfl | rfl | rfl | rfl | rfl | rfl | rfl | rfl <;> decide
/-- only letters -/
def lets (l : List UInt8) : Bool := l.all isL
/-- a word -/
def wordB (l : List UInt8) : Bool := lets l && decide (l.length ≤ 40)
theorem wordB_lets {l : List UInt8} (h : wordB l = true) : ∀ c ∈ l, isL c = true := by
  unfold wordB lets at h
  rw [Bool.and_eq_true, List.all_eq_true] at h
  exact h.1
theorem wordB_len {l : List UInt8} (h : wordB l = true) : l.length ≤ 40 := by
  unfold wordB at h
  simp at h
  exact h.2
/-- the inverse of a word -/
def inv (l : List UInt8) : List UInt8 := l.reverse.map oth
theorem inv_length (l : List UInt8) : (inv l).length = l.length := by simp [inv]
/-- a letter more: left out with its inverse, or laid on -/
def redS (out : List UInt8) (c : UInt8) : List UInt8 := if out.getLast? = some (oth c) then out.dropLast else out ++ [c]
/-- the reduced word -/
def red (l : List UInt8) : List UInt8 := l.foldl redS []
theorem red_snoc (l : List UInt8) (c : UInt8) : red (l ++ [c]) = redS (red l) c := by simp [red, List.foldl_append]
theorem redS_length (out : List UInt8) (c : UInt8) : (redS out c).length ≤ out.length + 1 := by
  unfold redS; split
  · simp; omega
  · simp
theorem red_length (l : List UInt8) : (red l).length ≤ l.length := by
  suffices h : ∀ (l out : List UInt8), (l.foldl redS out).length ≤ out.length + l.length by
    have := h l []
    simpa [red] using this
  intro l
  induction l with
  | nil => intro out; simp
  | cons c r ih =>
    intro out
    have h1 := ih (redS out c)
    have h2 := redS_length out c
    simp only [List.foldl_cons, List.length_cons]
    omega
theorem take_snoc (l : List UInt8) (k : Nat) (h : k < l.length) : l.take (k + 1) = l.take k ++ [l[k]] := by
  rw [List.take_succ_eq_append_getElem h]
theorem red_take (l : List UInt8) (k : Nat) (h : k < l.length) : red (l.take (k + 1)) = redS (red (l.take k)) l[k] := by
  rw [take_snoc l k h, red_snoc]
end Go.Proofs.Ytdcphheeapmjcaa.Wd
/-
  CONTRACTS: the specification's letters.
-/
namespace Go.Proofs.Ytdcphheeapmjcaa
open Go.ChangeShapes Go.WideShapes Go.ChangeAt Go.RowKit
open Wd
theorem u8ne {c d : UInt8} (h : c ≠ d) : (((d.toNat : Nat) : Int) == ((c.toNat : Nat) : Int)) = false := by
  have : d.toNat ≠ c.toNat := fun e => h (UInt8.toNat_inj.1 e.symm)
  simp; omega
theorem letter_no (c : UInt8) (h : isL c = false) (w : World) :
    Calls Try.prog 63 #[.int .u8 ((c.toNat : Nat) : Int)] w fun e w' => e = .returned (.int .i64 (-1)) ∧ w = w' := by
  obtain ⟨h0, h1, h2, h3, h4, h5, h6, h7⟩ := nocase h
  have t0 : ((97 : Int) == ((c.toNat : Nat) : Int)) = false := u8ne h0
  have t1 : ((65 : Int) == ((c.toNat : Nat) : Int)) = false := u8ne h1
  have t2 : ((98 : Int) == ((c.toNat : Nat) : Int)) = false := u8ne h2
  have t3 : ((66 : Int) == ((c.toNat : Nat) : Int)) = false := u8ne h3
  have t4 : ((99 : Int) == ((c.toNat : Nat) : Int)) = false := u8ne h4
  have t5 : ((67 : Int) == ((c.toNat : Nat) : Int)) = false := u8ne h5
  have t6 : ((100 : Int) == ((c.toNat : Nat) : Int)) = false := u8ne h6
  have t7 : ((68 : Int) == ((c.toNat : Nat) : Int)) = false := u8ne h7
  clear h h0 h1 h2 h3 h4 h5 h6 h7
  generalize ((c.toNat : Nat) : Int) = x at t0 t1 t2 t3 t4 t5 t6 t7 ⊢
  have e0 : (({ data := #[97, 65, 98, 66, 99, 67, 100, 68] } : ByteArray)[0]'(by decide)).toNat = 97 := rfl
  have e1 : (({ data := #[97, 65, 98, 66, 99, 67, 100, 68] } : ByteArray)[1]'(by decide)).toNat = 65 := rfl
  have e2 : (({ data := #[97, 65, 98, 66, 99, 67, 100, 68] } : ByteArray)[2]'(by decide)).toNat = 98 := rfl
  have e3 : (({ data := #[97, 65, 98, 66, 99, 67, 100, 68] } : ByteArray)[3]'(by decide)).toNat = 66 := rfl
  have e4 : (({ data := #[97, 65, 98, 66, 99, 67, 100, 68] } : ByteArray)[4]'(by decide)).toNat = 99 := rfl
  have e5 : (({ data := #[97, 65, 98, 66, 99, 67, 100, 68] } : ByteArray)[5]'(by decide)).toNat = 67 := rfl
  have e6 : (({ data := #[97, 65, 98, 66, 99, 67, 100, 68] } : ByteArray)[6]'(by decide)).toNat = 100 := rfl
  have e7 : (({ data := #[97, 65, 98, 66, 99, 67, 100, 68] } : ByteArray)[7]'(by decide)).toNat = 68 := rfl
  go_enter Try.func63, Try.ntmps63
  go_wp2
  refine wp_loop_rounds 9 ?_
  iterate 9 (rw [rounds_succ]; go_wp2)
  go_ret
  exact ⟨rfl, rfl⟩
theorem letter_at (b : Int) (n : Nat) (hb : (b = 97 ∧ n = 0) ∨ (b = 65 ∧ n = 1) ∨ (b = 98 ∧ n = 2) ∨ (b = 66 ∧ n = 3) ∨ (b = 99 ∧ n = 4) ∨ (b = 67 ∧ n = 5) ∨ (b = 100 ∧ n = 6) ∨ (b = 68 ∧ n = 7)) (w : World) :
    Calls Try.prog 63 #[.int .u8 b] w fun e w' => e = .returned (.int .i64 (n : Nat)) ∧ w = w' := by
  rcases hb with ⟨rfl, rfl⟩ | ⟨rfl, rfl⟩ | ⟨rfl, rfl⟩ | ⟨rfl, rfl⟩ | ⟨rfl, rfl⟩ | ⟨rfl, rfl⟩ | ⟨rfl, rfl⟩ | ⟨rfl, rfl⟩
  all_goals
    have e0 : (({ data := #[97, 65, 98, 66, 99, 67, 100, 68] } : ByteArray)[0]'(by decide)).toNat = 97 := rfl
    have e1 : (({ data := #[97, 65, 98, 66, 99, 67, 100, 68] } : ByteArray)[1]'(by decide)).toNat = 65 := rfl
    have e2 : (({ data := #[97, 65, 98, 66, 99, 67, 100, 68] } : ByteArray)[2]'(by decide)).toNat = 98 := rfl
    have e3 : (({ data := #[97, 65, 98, 66, 99, 67, 100, 68] } : ByteArray)[3]'(by decide)).toNat = 66 := rfl
    have e4 : (({ data := #[97, 65, 98, 66, 99, 67, 100, 68] } : ByteArray)[4]'(by decide)).toNat = 99 := rfl
    have e5 : (({ data := #[97, 65, 98, 66, 99, 67, 100, 68] } : ByteArray)[5]'(by decide)).toNat = 67 := rfl
    have e6 : (({ data := #[97, 65, 98, 66, 99, 67, 100, 68] } : ByteArray)[6]'(by decide)).toNat = 100 := rfl
    have e7 : (({ data := #[97, 65, 98, 66, 99, 67, 100, 68] } : ByteArray)[7]'(by decide)).toNat = 68 := rfl
    go_enter Try.func63, Try.ntmps63
    go_wp2
    refine wp_loop_rounds 9 ?_
    repeat (rw [rounds_succ]; go_wp2)
    go_ret
    exact ⟨rfl, rfl⟩
theorem letter_any (c : UInt8) (w : World) :
    Calls Try.prog 63 #[.int .u8 ((c.toNat : Nat) : Int)] w fun e w' => e = .returned (.int .i64 (lnum c)) ∧ w = w' := by
  cases h : isL c
  · rw [lnum_no h]; exact letter_no c h w
  · rcases lcases h with rfl | rfl | rfl | rfl | rfl | rfl | rfl | rfl
    · exact letter_at 97 0 (by simp) w
    · exact letter_at 65 1 (by simp) w
    · exact letter_at 98 2 (by simp) w
    · exact letter_at 66 3 (by simp) w
    · exact letter_at 99 4 (by simp) w
    · exact letter_at 67 5 (by simp) w
    · exact letter_at 100 6 (by simp) w
    · exact letter_at 68 7 (by simp) w
end Go.Proofs.Ytdcphheeapmjcaa
/-
  SLICES OF BYTES THAT THE CALL ITSELF BUILDS BY append, one byte after the other, and what string(..) makes of them.
-/
namespace Go.Proofs.Ytdcphheeapmjcaa
open Go.ChangeShapes Go.WideShapes Go.ChangeAt Go.RowKit
/-- the cells of bytes -/
def bytesC (l : List UInt8) : List Value := l.map fun c => .int .u8 (c.toNat : Int)
theorem bytesC_len (l : List UInt8) : (bytesC l).length = l.length := by simp [bytesC]
theorem bytesC_snoc (l : List UInt8) (c : UInt8) : bytesC l ++ [.int .u8 (c.toNat : Int)] = bytesC (l ++ [c]) := by simp [bytesC]
/-- v is a slice of the call's own (its blocks begin at base) that holds the bytes l -/
def OwnB (base : Nat) (v : Value) (l : List UInt8) (w : World) : Prop := w.ownsRow base 5 1 v l.length (bytesC l)
theorem info_u8 : (Try.prog.info? 5).map (fun i => (i.zero, i.size, i.bytes)) = some (some (.int .u8 0), 1, 1) := by kernel_rfl
theorem OwnB.alloc {base : Nat} {v : Value} {l : List UInt8} {w : World} (h : OwnB base v l w) (o : Obj) : OwnB base v l (w.alloc o) := World.ownsRow.alloc h o
theorem OwnB.drew {base : Nat} {v : Value} {l : List UInt8} {w : World} (h : OwnB base v l w) : OwnB base v l w.drew := h
/-- 'out = append(out, c)' -/
theorem wpList_append_byte {ops : Array Oper} {rest : List Oper} {o : Oper} {a : Act} {W : World} {Q : Exit → Act → World → Prop} (hgd : o.guard = none) (s x : Operand)
    (ho : o.op = .call { callee := .builtin .append, args := #[s, x], argTypes := #[47, 47] })
    (base : Nat) (v : Value) (l : List UInt8) (c : UInt8) (hs : a.eval s = v) (hown : OwnB base v l W) (g : Nat) (hx : a.eval x = .slice (some ⟨g, 0, none⟩) 1 1)
    (hc : W.cell? ⟨g, 0, none⟩ = some (.int .u8 (c.toNat : Int))) (hl : l.length ≤ 100000000) (hbase : base ≤ W.heap.size)
    (w0 : World) (hb : Below base w0 W)
    (h : ∀ v' w', OwnB base v' (l ++ [c]) w' → Below base w0 w' → wpList Try.prog ops Q rest (a.put o.dst v') w') : wpList Try.prog ops Q (o :: rest) a W := by
  obtain ⟨i0, hi, hz0, hz1, hz2⟩ := info_parts info_u8
  refine wpList_append_own W hgd s x 47 ho base 5 i0 (.int .u8 0) 1 1 Try.underlying47 hi hz0 hz1 hz2 rfl (by decide) v l.length (bytesC l) hs hown ⟨g, 0, none⟩ 1 1 [.int .u8 (c.toNat : Int)] hx rfl ?_ ?_ (by unfold maxLen; omega) (by omega) hbase ?_
  · intro j u hj
    match j, hj with
    | 0, hj => simp at hj; subst hj; exact hc
    | j + 1, hj => simp at hj
  · intro u hu; simp at hu; subst hu; rfl
  · intro v' w' h1 h2 _
    refine h v' w' ?_ ?_
    · unfold OwnB
      rw [List.length_append, ← bytesC_snoc]
      exact h1
    · exact hb.grown h2 hbase (fun k hk => (World.ownsRow.lt hown k hk).1)
/-- 'string(out)' -/
theorem own_string {base : Nat} {v : Value} {l : List UInt8} {W : World} (h : OwnB base v l W) : (convert 47 9 v).run Try.prog W = .ok (.string ⟨l.toArray⟩) W := by
  obtain ⟨h1, h2⟩ := h
  rcases h2 with ⟨rfl, h0⟩ | ⟨g, cap, cur, rfl, hb, hg, hn, hm, hs, ht⟩
  · have : l = [] := List.eq_nil_of_length_eq_zero h0
    subst this
    rw [run_convert_bytes_string W 47 9 5 none 0 0 Try.underlying47 Try.underlying5 Try.underlying9]
    rfl
  · refine run_convert_bytes_back W 47 9 5 ⟨g, 0, none⟩ cap l Try.underlying47 Try.underlying5 Try.underlying9 ?_
    intro j hj
    have e : (bytesC l)[j]? = some (.int .u8 (l[j].toNat : Int)) := by simp [bytesC, hj]
    have := World.ownsRow.cells (w := W) (base := base) (e := 5) (size := 1) (v := .slice (some ⟨g, 0, none⟩) l.length cap) (n := l.length) (xs := bytesC l) ⟨h1, .inr ⟨g, cap, cur, rfl, hb, hg, hn, hm, hs, ht⟩⟩ (g := g) rfl j _ e
    exact this
end Go.Proofs.Ytdcphheeapmjcaa
/-
  CONTRACTS: the specification's words: which texts are words, inverses, reduced words.
-/
namespace Go.Proofs.Ytdcphheeapmjcaa
open Go.ChangeShapes Go.WideShapes Go.ChangeAt Go.RowKit
open Wd
/-- a text of a list of bytes -/
def txt (l : List UInt8) : ByteArray := ⟨l.toArray⟩
theorem txt_list (t : ByteArray) : txt t.data.toList = t := by simp [txt]
theorem txt_size (l : List UInt8) : (txt l).size = l.length := by simp [txt, ByteArray.size]
theorem idx_txt (l : List UInt8) (k : Nat) (hk : k < l.length) (w : World) :
    (Instr.index 9 (.string (txt l)) (.int .i64 (k : Int))).run Try.prog w = .ok (.int .u8 (((l[k]'hk).toNat : Nat) : Int)) w := by
  rw [run_index_string w 9 (txt l) .i64 _ Try.underlying9, dif_pos ⟨by omega, by rw [txt_size]; omega⟩]
  simp [txt]
  rfl
theorem ok_any (l : List UInt8) (hm : l.length ≤ 4000000) (w : World) :
    Calls Try.prog 58 #[.string (txt l)] w fun e w' => e = .returned (.bool (wordB l)) ∧ w = w' := by
  have hs := txt_size l
  have hm' : (l.length : Int) ≤ 4000000 := by omega
  go_enter Try.func58, Try.ntmps58
  go_wp2
  go_loop [3] (fun i => ∃ k : Nat, k ≤ l.length ∧ i = .int .i64 k ∧ lets (l.take k) = true) (fun i => l.length - (intOf i).toNat)
  case atStart => exact ⟨0, Nat.zero_le _, rfl, rfl⟩
  case round =>
    obtain ⟨k, hk, rfl, hl⟩ := hrel
    have HL := Lib.hid hl
    clear hl
    by_cases hlt : k < l.length
    · have hi := idx_txt l k hlt
      have t1 : decide (k < l.length) = true := by simpa using hlt
      cases hc : isL l[k]
      · have hn := lnum_no hc
        have R : Hid (wordB l = false) := Lib.hid (by
          unfold wordB lets
          rw [Bool.and_eq_false_iff]
          left
          rw [← Bool.not_eq_true, List.all_eq_true]
          intro h
          have := h l[k] (List.getElem_mem hlt)
          rw [hc] at this; cases this)
        clear hc
        go_wp2_with (go_at_call 63; refine (letter_any _ _).mono ?_; rintro e w' ⟨rfl, rfl⟩)
        go_ret
        exact ⟨ret_bool (by rw [R.out]), rfl⟩
      · obtain ⟨h0, h7⟩ := lnum_yes hc
        have t2 : decide (lnum l[k] < 0) = false := by simp; omega
        have R : Hid (lets (l.take (k + 1)) = true) := Lib.hid (by
          rw [take_snoc l k hlt]
          unfold lets at HL ⊢
          rw [List.all_append, HL.out]; simp [hc])
        clear hc
        go_wp2_with (go_at_call 63; refine (letter_any _ _).mono ?_; rintro e w' ⟨rfl, rfl⟩)
        go_round
        case rel => exact ⟨k + 1, by omega, by go_num, R.out⟩
        case measure => simp [intOf]; omega
    · obtain rfl : k = l.length := by omega
      have R : Hid (wordB l = decide (l.length ≤ 40)) := Lib.hid (by
        have h := HL.out
        rw [List.take_length] at h
        unfold wordB; rw [h]; rfl)
      go_wp2
      go_ret
      exact ⟨ret_bool (by rw [R.out]; simp <;> omega), rfl⟩
theorem other_0 (w : World) : Calls Try.prog 112 #[.int .u8 97] w fun e w' => e = .returned (.int .u8 65) ∧ w = w' := by
  have hlet : ∀ w, Calls Try.prog 63 #[.int .u8 97] w fun e w' => e = .returned (.int .i64 0) ∧ w = w' := letter_at 97 0 (by simp)
  have HL := Lib.hid hlet
  clear hlet
  have e0 : (({ data := #[97, 65, 98, 66, 99, 67, 100, 68] } : ByteArray)[1]'(by decide)).toNat = 65 := rfl
  go_enter Try.func112, Try.ntmps112
  go_wp2_with (go_at_call 63; refine (HL.out _).mono ?_; rintro e w' ⟨rfl, rfl⟩)
  go_ret
  exact ⟨rfl, rfl⟩
theorem other_1 (w : World) : Calls Try.prog 112 #[.int .u8 65] w fun e w' => e = .returned (.int .u8 97) ∧ w = w' := by
  have hlet : ∀ w, Calls Try.prog 63 #[.int .u8 65] w fun e w' => e = .returned (.int .i64 1) ∧ w = w' := letter_at 65 1 (by simp)
  have HL := Lib.hid hlet
  clear hlet
  have e0 : (({ data := #[97, 65, 98, 66, 99, 67, 100, 68] } : ByteArray)[0]'(by decide)).toNat = 97 := rfl
  go_enter Try.func112, Try.ntmps112
  go_wp2_with (go_at_call 63; refine (HL.out _).mono ?_; rintro e w' ⟨rfl, rfl⟩)
  go_ret
  exact ⟨rfl, rfl⟩
theorem other_2 (w : World) : Calls Try.prog 112 #[.int .u8 98] w fun e w' => e = .returned (.int .u8 66) ∧ w = w' := by
  have hlet : ∀ w, Calls Try.prog 63 #[.int .u8 98] w fun e w' => e = .returned (.int .i64 2) ∧ w = w' := letter_at 98 2 (by simp)
  have HL := Lib.hid hlet
  clear hlet
  have e0 : (({ data := #[97, 65, 98, 66, 99, 67, 100, 68] } : ByteArray)[3]'(by decide)).toNat = 66 := rfl
  go_enter Try.func112, Try.ntmps112
  go_wp2_with (go_at_call 63; refine (HL.out _).mono ?_; rintro e w' ⟨rfl, rfl⟩)
  go_ret
  exact ⟨rfl, rfl⟩
theorem other_3 (w : World) : Calls Try.prog 112 #[.int .u8 66] w fun e w' => e = .returned (.int .u8 98) ∧ w = w' := by
  have hlet : ∀ w, Calls Try.prog 63 #[.int .u8 66] w fun e w' => e = .returned (.int .i64 3) ∧ w = w' := letter_at 66 3 (by simp)
  have HL := Lib.hid hlet
  clear hlet
  have e0 : (({ data := #[97, 65, 98, 66, 99, 67, 100, 68] } : ByteArray)[2]'(by decide)).toNat = 98 := rfl
  go_enter Try.func112, Try.ntmps112
  go_wp2_with (go_at_call 63; refine (HL.out _).mono ?_; rintro e w' ⟨rfl, rfl⟩)
  go_ret
  exact ⟨rfl, rfl⟩
theorem other_4 (w : World) : Calls Try.prog 112 #[.int .u8 99] w fun e w' => e = .returned (.int .u8 67) ∧ w = w' := by
  have hlet : ∀ w, Calls Try.prog 63 #[.int .u8 99] w fun e w' => e = .returned (.int .i64 4) ∧ w = w' := letter_at 99 4 (by simp)
  have HL := Lib.hid hlet
  clear hlet
  have e0 : (({ data := #[97, 65, 98, 66, 99, 67, 100, 68] } : ByteArray)[5]'(by decide)).toNat = 67 := rfl
  go_enter Try.func112, Try.ntmps112
  go_wp2_with (go_at_call 63; refine (HL.out _).mono ?_; rintro e w' ⟨rfl, rfl⟩)
  go_ret
  exact ⟨rfl, rfl⟩
theorem other_5 (w : World) : Calls Try.prog 112 #[.int .u8 67] w fun e w' => e = .returned (.int .u8 99) ∧ w = w' := by
  have hlet : ∀ w, Calls Try.prog 63 #[.int .u8 67] w fun e w' => e = .returned (.int .i64 5) ∧ w = w' := letter_at 67 5 (by simp)
  have HL := Lib.hid hlet
  clear hlet
  have e0 : (({ data := #[97, 65, 98, 66, 99, 67, 100, 68] } : ByteArray)[4]'(by decide)).toNat = 99 := rfl
  go_enter Try.func112, Try.ntmps112
  go_wp2_with (go_at_call 63; refine (HL.out _).mono ?_; rintro e w' ⟨rfl, rfl⟩)
  go_ret
  exact ⟨rfl, rfl⟩
theorem other_6 (w : World) : Calls Try.prog 112 #[.int .u8 100] w fun e w' => e = .returned (.int .u8 68) ∧ w = w' := by
  have hlet : ∀ w, Calls Try.prog 63 #[.int .u8 100] w fun e w' => e = .returned (.int .i64 6) ∧ w = w' := letter_at 100 6 (by simp)
  have HL := Lib.hid hlet
  clear hlet
  have e0 : (({ data := #[97, 65, 98, 66, 99, 67, 100, 68] } : ByteArray)[7]'(by decide)).toNat = 68 := rfl
  go_enter Try.func112, Try.ntmps112
  go_wp2_with (go_at_call 63; refine (HL.out _).mono ?_; rintro e w' ⟨rfl, rfl⟩)
  go_ret
  exact ⟨rfl, rfl⟩
theorem other_7 (w : World) : Calls Try.prog 112 #[.int .u8 68] w fun e w' => e = .returned (.int .u8 100) ∧ w = w' := by
  have hlet : ∀ w, Calls Try.prog 63 #[.int .u8 68] w fun e w' => e = .returned (.int .i64 7) ∧ w = w' := letter_at 68 7 (by simp)
  have HL := Lib.hid hlet
  clear hlet
  have e0 : (({ data := #[97, 65, 98, 66, 99, 67, 100, 68] } : ByteArray)[6]'(by decide)).toNat = 100 := rfl
  go_enter Try.func112, Try.ntmps112
  go_wp2_with (go_at_call 63; refine (HL.out _).mono ?_; rintro e w' ⟨rfl, rfl⟩)
  go_ret
  exact ⟨rfl, rfl⟩
theorem other_any (c : UInt8) (h : isL c = true) (w : World) :
    Calls Try.prog 112 #[.int .u8 ((c.toNat : Nat) : Int)] w fun e w' => e = .returned (.int .u8 (((oth c).toNat : Nat) : Int)) ∧ w = w' := by
  rcases lcases h with rfl | rfl | rfl | rfl | rfl | rfl | rfl | rfl
  · exact other_0 w
  · exact other_1 w
  · exact other_2 w
  · exact other_3 w
  · exact other_4 w
  · exact other_5 w
  · exact other_6 w
  · exact other_7 w
end Go.Proofs.Ytdcphheeapmjcaa
/-
  CONTRACTS: the specification's inverse and reduced word.
-/
namespace Go.Proofs.Ytdcphheeapmjcaa
open Go.ChangeShapes Go.WideShapes Go.ChangeAt Go.RowKit
open Wd
theorem inv_at (l : List UInt8) (j : Nat) (h : j < l.length) : (inv l).take (j + 1) = (inv l).take j ++ [oth (l[l.length - 1 - j]'(by omega))] := by
  rw [take_snoc (inv l) j (by rw [inv_length]; exact h)]
  congr 2
  simp [inv, List.getElem_reverse]
def StrPost (r : List UInt8) (w : World) (e : Ending) (w' : World) : Prop := e = .returned (.string (txt r)) ∧ Below w.heap.size w w'
theorem own_start (w : World) : OwnB w.heap.size (.slice (some ⟨w.heap.size, 0, none⟩) 0 0) [] (w.alloc (.cells #[] 5)) := World.ownsRow_made (size := 1) w #[] 0 (Nat.le_refl _) (by unfold maxLen; omega) rfl
set_option maxHeartbeats 1000000 in
theorem inverse_any (l : List UInt8) (hl : ∀ c ∈ l, isL c = true) (hm : l.length ≤ 4000000) (w : World) :
    Calls Try.prog 100 #[.string (txt l)] w (StrPost (inv l) w) := by
  have hs := txt_size l
  have hm' : (l.length : Int) ≤ 4000000 := by omega
  have HL := Lib.hid hl
  have O0 := Lib.hid (own_start w)
  have B0 : Hid (Below w.heap.size w (w.alloc (.cells #[] 5))) := Lib.hid ((Below.refl _ _).alloc (Nat.le_refl _) _)
  clear hl
  go_enter Try.func100, Try.ntmps100
  go_wp2
  go_loopw [3, 4] (fun v i wr => ∃ j : Nat, j ≤ l.length ∧ i = .int .i64 ((l.length : Int) - 1 - (j : Int)) ∧ OwnB w.heap.size v ((inv l).take j) wr ∧ Below w.heap.size w wr) (fun _ i _ => (intOf i + 1).toNat)
  case atStart => exact ⟨0, Nat.zero_le _, by go_num, O0.out, B0.out⟩
  case round =>
    obtain ⟨j, hj, rfl, ho, hb⟩ := hrel
    have O := Lib.hid ho
    have B := Lib.hid hb
    clear ho hb O0 B0
    by_cases hlt : j < l.length
    · obtain ⟨k, hk⟩ : ∃ k : Nat, k = l.length - 1 - j := ⟨_, rfl⟩
      have e : (l.length : Int) - 1 - (j : Int) = (k : Int) := by omega
      have hk2 : k < l.length := by omega
      have hi := idx_txt l k hk2
      have NI : Hid ((inv l).take (j + 1) = (inv l).take j ++ [oth l[k]]) := Lib.hid (by subst hk; exact inv_at l j hlt)
      have IL : Hid (isL l[k] = true) := Lib.hid (HL.out _ (List.getElem_mem hk2))
      have LE : Hid (((inv l).take j).length ≤ 100000000) := Lib.hid (by rw [List.length_take, inv_length]; omega)
      have EE : Hid ((k : Int) - 1 = (l.length : Int) - 1 - ((j + 1 : Nat) : Int)) := Lib.hid (by omega)
      have hk' : (k : Int) ≤ 4000000 := by omega
      rw [e]
      clear e hk
      generalize l[k] = c at hi NI IL
      go_wp2_with (first | (go_at_call 112; refine (other_any _ IL.out _).mono ?_; rintro e w' ⟨rfl, rfl⟩) | (refine wpList_append_byte rfl (.tmp 13) (.tmp 18) rfl w.heap.size _ _ (oth c) rfl (O.out.alloc _) wr.heap.size rfl (by simp) LE.out (by have := B.out.size; simp; omega) w (B.out.alloc B.out.size _) ?_; intro v2 w2 o2 b2))
      have O2 : Hid (OwnB w.heap.size v2 ((inv l).take (j + 1)) w2) := Lib.hid (by rw [NI.out]; exact o2)
      have B2 := Lib.hid b2
      clear o2 b2
      go_roundw
      case rel => exact ⟨j + 1, by omega, by rw [EE.out], O2.out, B2.out⟩
      case measure => simp [intOf]
    · obtain rfl : j = l.length := by omega
      have hc := own_string O.out
      have R : Hid (StrPost (inv l) w (.returned (.string ⟨((inv l).take l.length).toArray⟩)) wr) := Lib.hid ⟨by
        rw [List.take_of_length_le (by rw [inv_length]; exact Nat.le_refl _)]; rfl, B.out⟩
      have e : (l.length : Int) - 1 - (l.length : Int) = -1 := by omega
      rw [e]
      clear e
      go_wp2
      go_ret
      exact R.out
end Go.Proofs.Ytdcphheeapmjcaa
/-
  CONTRACT: the specification's reduced word (a stack of bytes).
-/
namespace Go.Proofs.Ytdcphheeapmjcaa
open Go.ChangeShapes Go.WideShapes Go.ChangeAt Go.RowKit
open Wd
theorem bytesC_at (l : List UInt8) (j : Nat) (h : j < l.length) : (bytesC l)[j]? = some (.int .u8 (((l[j]'h).toNat : Nat) : Int)) := by simp [bytesC, h]
theorem addr_off (g off j : Nat) : (⟨g, off, none⟩ : Addr).add j = ⟨g, off + j, none⟩ := by cases j <;> simp [Addr.add]
/-- 'out = append(out, c)', and the slice is not nil -/
theorem wpList_append_b {ops : Array Oper} {rest : List Oper} {o : Oper} {a : Act} {W : World} {Q : Exit → Act → World → Prop} (hgd : o.guard = none) (s x : Operand)
    (ho : o.op = .call { callee := .builtin .append, args := #[s, x], argTypes := #[47, 47] })
    (base : Nat) (v : Value) (l : List UInt8) (c : UInt8) (hs : a.eval s = v) (hown : OwnB base v l W) (g : Nat) (hx : a.eval x = .slice (some ⟨g, 0, none⟩) 1 1)
    (hc : W.cell? ⟨g, 0, none⟩ = some (.int .u8 (c.toNat : Int))) (hl : l.length ≤ 100000000) (hbase : base ≤ W.heap.size)
    (w0 : World) (hb : Below base w0 W) (hn : v ≠ .slice none 0 0)
    (h : ∀ v' w', OwnB base v' (l ++ [c]) w' → Below base w0 w' → v' ≠ .slice none 0 0 → wpList Try.prog ops Q rest (a.put o.dst v') w') : wpList Try.prog ops Q (o :: rest) a W := by
  obtain ⟨i0, hi, hz0, hz1, hz2⟩ := info_parts info_u8
  refine wpList_append_own W hgd s x 47 ho base 5 i0 (.int .u8 0) 1 1 Try.underlying47 hi hz0 hz1 hz2 rfl (by decide) v l.length (bytesC l) hs hown ⟨g, 0, none⟩ 1 1 [.int .u8 (c.toNat : Int)] hx rfl ?_ ?_ (by unfold maxLen; omega) (by omega) hbase ?_
  · intro j u hj
    match j, hj with
    | 0, hj => simp at hj; subst hj; exact hc
    | j + 1, hj => simp at hj
  · intro u hu; simp at hu; subst hu; rfl
  · intro v' w' h1 h2 h3
    refine h v' w' ?_ ?_ (fun e => hn (h3.1 e).1)
    · unfold OwnB
      rw [List.length_append, ← bytesC_snoc]
      exact h1
    · exact hb.grown h2 hbase (fun k hk => (World.ownsRow.lt hown k hk).1)
/-- what a slice of bytes of the call's own looks like -/
theorem OwnB.form {base : Nat} {v : Value} {l : List UInt8} {w : World} (h : OwnB base v l w) (hn : v ≠ .slice none 0 0) :
    ∃ g cap, v = .slice (some ⟨g, 0, none⟩) l.length cap ∧ base ≤ g ∧ g < w.heap.size ∧ l.length ≤ cap ∧ cap ≤ maxLen ∧ ∀ j (hj : j < l.length), w.cell? ⟨g, j, none⟩ = some (.int .u8 (((l[j]'hj).toNat : Nat) : Int)) := by
  have h' := h
  obtain ⟨h1, h2⟩ := h
  rcases h2 with ⟨rfl, h0⟩ | ⟨g, cap, cur, rfl, hb, hg, hn2, hm, hs, ht⟩
  · exact absurd rfl hn
  · refine ⟨g, cap, rfl, hb, (Array.getElem?_eq_some_iff.1 hg).1, hn2, hm, fun j hj => ?_⟩
    have := World.ownsRow.cells h' (g := g) rfl j _ (bytesC_at l j hj)
    rw [addr_off, Nat.zero_add] at this
    exact this
/-- 'out = out[:len(out)-1]' -/
theorem OwnB.pop {base g n cap : Nat} {l : List UInt8} {w : World} (h : OwnB base (.slice (some ⟨g, 0, none⟩) (n + 1) cap) l w) (hl : l.length = n + 1) : OwnB base (.slice (some ⟨g, 0, none⟩) n cap) l.dropLast w := by
  obtain ⟨h1, h2⟩ := h
  have hd : l.dropLast.length = n := by rw [List.length_dropLast, hl]; rfl
  rcases h2 with ⟨h3, _⟩ | ⟨g', cap', cur, hv, hb, hg, hn2, hm, hs, ht⟩
  · cases h3
  · rw [hl] at hv
    cases hv
    refine ⟨by rw [bytesC_len, Nat.mul_one], .inr ⟨g, cap, cur, by rw [hd], hb, hg, by omega, hm, hs, ?_⟩⟩
    rw [hd, Nat.mul_one]
    have e : cur.toList.take n = (cur.toList.take (l.length * 1)).take n := by rw [List.take_take]; congr 1; omega
    rw [e, ht]
    simp only [bytesC, ← List.map_take]
    rw [List.dropLast_eq_take, hl]; rfl
theorem slice_toB (g k cap p : Nat) (hp : p ≤ k) (hk : k ≤ 4000000) (hc : k ≤ cap) (w : World) : (Instr.slice 47 (.slice (some ⟨g, 0, none⟩) k cap) none (some (.int .i64 (p : Int))) none).run Try.prog w = .ok (.slice (some ⟨g, 0, none⟩) p cap) w := by
  have hs : ∀ w, (sizeOf (Try.prog.elem 47)).run Try.prog w = .ok 1 w := fun w => by kernel_rfl
  rw [run_slice_h (P := Try.prog) (w := w) 47 (some ⟨g, 0, none⟩) k cap (by kernel_rfl) .i64 (p : Int) (by omega) (by omega), hs]
  simp [Result.andThen_ok, sliced, addr_off]
theorem redS_pop {out : List UInt8} {c : UInt8} (h : out.getLast? = some (oth c)) : redS out c = out.dropLast := if_pos h
theorem redS_push {out : List UInt8} {c : UInt8} (h : out.getLast? ≠ some (oth c)) : redS out c = out ++ [c] := if_neg h
structure RedTo (l : List UInt8) (k : Nat) (v : Value) (w0 w : World) : Prop where
  own : OwnB w0.heap.size v (red (l.take k)) w
  ne : v ≠ .slice none 0 0
  bel : Below w0.heap.size w0 w
theorem RedTo.len {l : List UInt8} {k : Nat} (hk : k ≤ l.length) : (red (l.take k)).length ≤ k := by
  have := red_length (l.take k)
  rw [List.length_take] at this
  omega
theorem RedTo.drewN {l : List UInt8} {k : Nat} {v : Value} {w0 w : World} (h : RedTo l k v w0 w) (n : Nat) : RedTo l k v w0 (w.drewN n) := ⟨h.own, h.ne, h.bel.trans ⟨rfl, rfl, rfl, Nat.le_refl _, fun _ _ => rfl⟩⟩
set_option maxHeartbeats 4000000 in
theorem reduce_any (l : List UInt8) (hl : ∀ c ∈ l, isL c = true) (hm : l.length ≤ 4000000) (w : World) :
    Calls Try.prog 89 #[.string (txt l)] w (StrPost (red l) w) := by
  have hs := txt_size l
  have hm' : (l.length : Int) ≤ 4000000 := by omega
  have HL := Lib.hid hl
  have S0 : Hid (RedTo l 0 (.slice (some ⟨w.heap.size, 0, none⟩) 0 0) w (w.alloc (.cells #[] 5))) := Lib.hid ⟨own_start w, by simp, (Below.refl _ _).alloc (Nat.le_refl _) _⟩
  clear hl
  go_enter Try.func89, Try.ntmps89
  go_wp2
  go_loopw [3, 4] (fun v i wr => ∃ k : Nat, k ≤ l.length ∧ i = .int .i64 (k : Int) ∧ RedTo l k v w wr) (fun _ i _ => l.length - (intOf i).toNat)
  case atStart => exact ⟨0, Nat.zero_le _, rfl, S0.out⟩
  case round =>
    obtain ⟨k, hk, rfl, hR⟩ := hrel
    obtain ⟨g, cap, rfl, hg0, hg1, hg2, hg3, hg4⟩ := hR.own.form hR.ne
    have RT := Lib.hid hR
    have C := Lib.hid hg4
    have G2 := Lib.hid hg2
    have LE : Hid ((red (l.take k)).length ≤ k) := Lib.hid (RedTo.len hk)
    clear hR hg0 hg1 hg2 hg3 hg4 S0
    by_cases hlt : k < l.length
    · have hi := idx_txt l k hlt
      have t1 : decide (k < l.length) = true := by simpa using hlt
      have hk' : (k : Int) ≤ 3999999 := by omega
      have RK := Lib.hid (red_take l k hlt)
      have IL : Hid (isL l[k] = true) := Lib.hid (HL.out _ (List.getElem_mem hlt))
      generalize l[k] = c at hi RK IL
      generalize hout : red (l.take k) = out at RT C G2 LE RK ⊢
      have HO := Lib.hid hout
      clear hout
      have hoq : Hid (∀ n, Calls Try.prog 112 #[.int .u8 ((c.toNat : Nat) : Int)] (wr.drewN n) fun e w'' => e = .returned (.int .u8 (((oth c).toNat : Nat) : Int)) ∧ ∃ m, w'' = wr.drewN m) := Lib.hid fun n =>
        (other_any c IL.out _).mono fun e w' ⟨h1, h2⟩ => ⟨h1, n, h2.symm⟩
      have HK := Lib.hid hlt
      clear hlt
      have LEN := LE.out
      cases hn0 : out.length with
      | zero =>
        obtain rfl : out = [] := List.length_eq_zero_iff.1 hn0
        clear hn0 hoq C LE LEN
        have t2 : decide ((0 : Int) < (0 : Int)) = false := rfl
        have RN : Hid (red (l.take (k + 1)) = [] ++ [c]) := Lib.hid (by rw [RK.out]; exact redS_push (by simp))
        clear RK
        go_wp2
        go_quiet (fail)
        generalize hW : wr.drewN nq = w1
        have R1 : Hid (RedTo l k (.slice (some ⟨g, 0, none⟩) 0 cap) w w1) := Lib.hid (by rw [← hW]; exact RT.out.drewN nq)
        have OW : Hid (OwnB w.heap.size (.slice (some ⟨g, 0, none⟩) 0 cap) [] w1) := Lib.hid (by have := R1.out.own; rw [HO.out] at this; exact this)
        clear hW RT
        go_wp2_with (refine wpList_append_b rfl (.tmp 33) (.tmp 37) rfl w.heap.size (.slice (some ⟨g, 0, none⟩) 0 cap) [] c rfl (OW.out.alloc _) w1.heap.size rfl (by simp) (by simp) (by have := R1.out.bel.size; simp; omega) w (R1.out.bel.alloc R1.out.bel.size _) (by simp) ?_; intro v2 w2 o2 b2 n2)
        have R2 : Hid (RedTo l (k + 1) v2 w w2) := Lib.hid ⟨by rw [RN.out]; exact o2, n2, b2⟩
        clear o2 b2 n2
        go_roundw
        case rel => exact ⟨k + 1, HK.out, by go_num, R2.out⟩
        case measure => have := HK.out; simp [intOf]; omega
      | succ n =>
        obtain ⟨z, hz⟩ : ∃ z, out.getLast? = some z := by
          cases h : out.getLast? with
          | none => rw [List.getLast?_eq_none_iff] at h; subst h; simp at hn0
          | some z => exact ⟨z, rfl⟩
        have C1 : wr.cell? ⟨g, n, none⟩ = some (.int .u8 ((z.toNat : Nat) : Int)) := by
          have h1 := C.out n (by omega)
          rw [List.getLast?_eq_getElem?, hn0, Nat.add_sub_cancel, List.getElem?_eq_getElem (by omega)] at hz
          rw [Option.some.inj hz] at h1
          exact h1
        have HN : Hid (out.length = n + 1) := Lib.hid hn0
        have HZ := Lib.hid hz
        rw [hn0] at LE RT G2
        clear hn0 hz C LEN
        have t2 : decide ((0 : Int) < (n : Int) + 1) = true := by simp <;> omega
        have hn' : (n : Int) ≤ 3999999 := by have := LE.out; omega
        by_cases hq : z = oth c
        · have t3 : (((z.toNat : Nat) : Int) == (((oth c).toNat : Nat) : Int)) = true := by rw [hq]; simp
          have RN : Hid (red (l.take (k + 1)) = out.dropLast) := Lib.hid (by rw [RK.out]; exact redS_pop (by rw [HZ.out, hq]))
          clear hq RK
          have hsl := slice_toB g (n + 1) cap n (by omega) (by omega) G2.out
          go_wp2
          go_quiet ((go_at_call 112; exact hoq.out _))
          generalize hW : wr.drewN nq = w1
          have R1 : Hid (RedTo l k (.slice (some ⟨g, 0, none⟩) (n + 1) cap) w w1) := Lib.hid (by rw [← hW]; exact RT.out.drewN nq)
          have OW : Hid (OwnB w.heap.size (.slice (some ⟨g, 0, none⟩) (n + 1) cap) out w1) := Lib.hid (by have := R1.out.own; rw [HO.out] at this; exact this)
          have R2 : Hid (RedTo l (k + 1) (.slice (some ⟨g, 0, none⟩) n cap) w w1) := Lib.hid ⟨by rw [RN.out]; exact OW.out.pop HN.out, by simp, R1.out.bel⟩
          clear hW RT hoq C1 t3
          go_wp2
          go_roundw
          case rel => exact ⟨k + 1, HK.out, by go_num, R2.out⟩
          case measure => have := HK.out; simp [intOf]; omega
        · have t3 : (((z.toNat : Nat) : Int) == (((oth c).toNat : Nat) : Int)) = false := by
            rw [beq_eq_false_iff_ne]
            refine fun h => hq ?_
            exact UInt8.toNat_inj.1 (by omega)
          have RN : Hid (red (l.take (k + 1)) = out ++ [c]) := Lib.hid (by rw [RK.out]; exact redS_push (by rw [HZ.out]; exact fun h => hq (Option.some.inj h)))
          clear hq RK
          go_wp2
          go_quiet ((go_at_call 112; exact hoq.out _))
          generalize hW : wr.drewN nq = w1
          have R1 : Hid (RedTo l k (.slice (some ⟨g, 0, none⟩) (n + 1) cap) w w1) := Lib.hid (by rw [← hW]; exact RT.out.drewN nq)
          have OW : Hid (OwnB w.heap.size (.slice (some ⟨g, 0, none⟩) (n + 1) cap) out w1) := Lib.hid (by have := R1.out.own; rw [HO.out] at this; exact this)
          clear hW RT hoq C1 t3
          have LL : Hid (out.length ≤ 100000000) := Lib.hid (by have := HN.out; omega)
          go_wp2_with (refine wpList_append_b rfl (.tmp 33) (.tmp 37) rfl w.heap.size (.slice (some ⟨g, 0, none⟩) (n + 1) cap) out c rfl (OW.out.alloc _) w1.heap.size rfl (by simp) LL.out (by have := R1.out.bel.size; simp; omega) w (R1.out.bel.alloc R1.out.bel.size _) (by simp) ?_; intro v2 w2 o2 b2 n2)
          have R2 : Hid (RedTo l (k + 1) v2 w w2) := Lib.hid ⟨by rw [RN.out]; exact o2, n2, b2⟩
          clear o2 b2 n2
          go_roundw
          case rel => exact ⟨k + 1, HK.out, by go_num, R2.out⟩
          case measure => have := HK.out; simp [intOf]; omega
    · obtain rfl : k = l.length := by omega
      rw [List.take_length] at RT ⊢
      have O : Hid (OwnB w.heap.size (.slice (some ⟨g, 0, none⟩) (red l).length cap) (red l) wr) := Lib.hid (by have := RT.out.own; rw [List.take_length] at this; exact this)
      have hc := own_string O.out
      have R : Hid (StrPost (red l) w (.returned (.string ⟨(red l).toArray⟩)) wr) := Lib.hid ⟨rfl, RT.out.bel⟩
      clear LE C G2
      go_wp2
      go_ret
      exact R.out
end Go.Proofs.Ytdcphheeapmjcaa
/-
  CONTRACTS: the specification's ValidWord, InverseWord, ReduceWord, l05Told, PowerWord.
-/
namespace Go.Proofs.Ytdcphheeapmjcaa
open Go.ChangeShapes Go.WideShapes Go.ChangeAt Go.RowKit
open Wd
/-- a text and a code -/
def TextPost (r : List UInt8) (c : Int) (w : World) (e : Ending) (w' : World) : Prop := e = .returned (.tuple #[.string (txt r), .int .i64 c]) ∧ Below w.heap.size w w'
theorem told_any (l : List UInt8) (hm : l.length ≤ 4000000) (w : World) :
    Calls Try.prog 68 #[.string (txt l)] w fun e w' => e = .returned (.tuple #[.string (txt (if l.length ≤ 40 then l else [])), .int .i64 (if l.length ≤ 40 then 0 else 3)]) ∧ w = w' := by
  have hs := txt_size l
  by_cases h : l.length ≤ 40
  · rw [if_pos h, if_pos h]
    have t1 : decide ((40 : Int) < (l.length : Int)) = false := by simp; omega
    go_enter Try.func68, Try.ntmps68
    go_wp2
    go_ret2
    exact ⟨rfl, rfl⟩
  · rw [if_neg h, if_neg h]
    have t1 : decide ((40 : Int) < (l.length : Int)) = true := by simp; omega
    go_enter Try.func68, Try.ntmps68
    go_wp2
    go_ret2
    exact ⟨rfl, rfl⟩
end Go.Proofs.Ytdcphheeapmjcaa
/-
  CONTRACT: the specification's range check.
-/
namespace Go.Proofs.Ytdcphheeapmjcaa
open Go.ChangeShapes Go.WideShapes Go.ChangeAt Go.RowKit
theorem l00In_yes (n l r : Int) (h1 : l ≤ n) (h2 : n ≤ r) (w : World) :
    Calls Try.prog 52 #[.int .i64 n, .int .i64 l, .int .i64 r] w fun e w' => e = .returned (.bool true) ∧ w = w' := by
  have g1 : decide (l ≤ n) = true := by simpa using h1
  have g2 : decide (n ≤ r) = true := by simpa using h2
  go_enter Try.func52, Try.ntmps52
  go_wp2
  go_ret
  exact ⟨rfl, rfl⟩
theorem l00In_no (n l r : Int) (h : n < l ∨ r < n) (w : World) :
    Calls Try.prog 52 #[.int .i64 n, .int .i64 l, .int .i64 r] w fun e w' => e = .returned (.bool false) ∧ w = w' := by
  rcases h with h | h
  · have g1 : decide (l ≤ n) = false := by simp; omega
    go_enter Try.func52, Try.ntmps52
    go_wp2
    go_ret
    exact ⟨rfl, rfl⟩
  · by_cases hl : l ≤ n
    · have g1 : decide (l ≤ n) = true := by simpa using hl
      have g2 : decide (n ≤ r) = false := by simp; omega
      go_enter Try.func52, Try.ntmps52
      go_wp2
      go_ret
      exact ⟨rfl, rfl⟩
    · have g1 : decide (l ≤ n) = false := by simp; omega
      go_enter Try.func52, Try.ntmps52
      go_wp2
      go_ret
      exact ⟨rfl, rfl⟩

end Go.Proofs.Ytdcphheeapmjcaa
/-
  CONTRACT: the specification's PowerWord.
-/
namespace Go.Proofs.Ytdcphheeapmjcaa
open Go.ChangeShapes Go.WideShapes Go.ChangeAt Go.RowKit
open Wd
theorem inv_letters {l : List UInt8} (h : ∀ c ∈ l, isL c = true) : ∀ c ∈ inv l, isL c = true := by
  intro c hc
  simp only [inv, List.mem_map, List.mem_reverse] at hc
  obtain ⟨d, hd, rfl⟩ := hc
  exact oth_isL (h d hd)
theorem redS_letters {out : List UInt8} {c : UInt8} (h : ∀ d ∈ out, isL d = true) (hc : isL c = true) : ∀ d ∈ redS out c, isL d = true := by
  intro d hd
  unfold redS at hd
  split at hd
  · exact h d (List.dropLast_subset _ hd)
  · rcases List.mem_append.1 hd with h1 | h1
    · exact h d h1
    · rw [List.mem_singleton.1 h1]; exact hc
theorem red_letters {l : List UInt8} (h : ∀ c ∈ l, isL c = true) : ∀ c ∈ red l, isL c = true := by
  suffices H : ∀ (l out : List UInt8), (∀ c ∈ l, isL c = true) → (∀ c ∈ out, isL c = true) → ∀ c ∈ l.foldl redS out, isL c = true from H l [] h (by simp)
  intro l
  induction l with
  | nil => intro out _ ho; exact ho
  | cons a r ih =>
    intro out hl ho
    exact ih _ (fun c hc => hl c (List.mem_cons_of_mem _ hc)) (redS_letters ho (hl a List.mem_cons_self))
/-- a word, so many times behind itself, reduced after each -/
def powR (l : List UInt8) : Nat → List UInt8
  | 0 => []
  | n + 1 => red (powR l n ++ l)
theorem powR_letters {l : List UInt8} (h : ∀ c ∈ l, isL c = true) (n : Nat) : ∀ c ∈ powR l n, isL c = true := by
  induction n with
  | zero => simp [powR]
  | succ n ih =>
    refine red_letters fun c hc => ?_
    rcases List.mem_append.1 hc with h1 | h1
    · exact ih c h1
    · exact h c h1
theorem powR_length (l : List UInt8) (n : Nat) : (powR l n).length ≤ n * l.length := by
  induction n with
  | zero => simp [powR]
  | succ n ih =>
    have h1 := red_length (powR l n ++ l)
    rw [List.length_append] at h1
    rw [Nat.succ_mul]
    exact Nat.le_trans h1 (Nat.add_le_add_right ih _)
theorem txt_app (a b : List UInt8) : txt a ++ txt b = txt (a ++ b) := by
  simp only [txt]
  apply ByteArray.ext
  simp
theorem reduce_cat (a b : List UInt8) (hl : ∀ c ∈ a ++ b, isL c = true) (hm : (a ++ b).length ≤ 4000000) (w : World) :
    Calls Try.prog 89 #[.string (txt a ++ txt b)] w (StrPost (red (a ++ b)) w) := by
  rw [txt_app]
  exact reduce_any _ hl hm w
theorem powloop_bound {l : List UInt8} (hl : l.length ≤ 40) {j m : Nat} (hj : j ≤ m) (hm : m ≤ 40) : (powR l j ++ l).length ≤ 4000000 := by
  have h1 := powR_length l j
  have h2 : j * l.length ≤ 40 * 40 := Nat.mul_le_mul (by omega) hl
  rw [List.length_append]
  omega
def powPost (l : List UInt8) (n : Int) (w : World) : Ending → World → Prop :=
  TextPost (if wordB l then (if -40 ≤ n ∧ n ≤ 40 then (if (powR (if n < 0 then inv l else l) n.natAbs).length ≤ 40 then powR (if n < 0 then inv l else l) n.natAbs else []) else []) else [])
    (if wordB l then (if -40 ≤ n ∧ n ≤ 40 then (if (powR (if n < 0 then inv l else l) n.natAbs).length ≤ 40 then 0 else 3) else 2) else 1) w
end Go.Proofs.Ytdcphheeapmjcaa
/-
  PLAIN MATHEMATICS OF REDUCED WORDS: reduced once more, joined, repeated; the length tells.
-/
namespace Go.Proofs.Ytdcphheeapmjcaa.Wd
/-- no letter stands beside its inverse -/
def NI (l : List UInt8) : Prop := ∀ (i : Nat) (c d : UInt8), l[i]? = some c → l[i + 1]? = some d → c ≠ oth d
theorem NI_nil : NI [] := by intro i c d h; simp at h
theorem NI_redS {out : List UInt8} {c : UInt8} (h : NI out) : NI (redS out c) := by
  unfold redS
  split
  · intro i a b ha hb
    rw [List.getElem?_dropLast] at ha hb
    split at hb
    · split at ha
      · exact h i a b ha hb
      · cases ha
    · cases hb
  · rename_i hne
    intro i a b ha hb
    by_cases h1 : i + 1 < out.length
    · rw [List.getElem?_append_left (by omega)] at ha
      rw [List.getElem?_append_left h1] at hb
      exact h i a b ha hb
    · rw [List.getElem?_append_right (by omega)] at hb
      have e : i + 1 - out.length = 0 := by
        by_cases h2 : i + 1 - out.length = 0
        · exact h2
        · rw [List.getElem?_eq_none (by simp; omega)] at hb; cases hb
      rw [e] at hb
      obtain rfl : c = b := by simpa using hb
      rw [List.getElem?_append_left (by omega)] at ha
      rintro rfl
      apply hne
      rw [List.getLast?_eq_getElem?, show out.length - 1 = i by omega]
      exact ha
theorem NI_foldl (l out : List UInt8) (h : NI out) : NI (l.foldl redS out) := by
  induction l generalizing out with
  | nil => exact h
  | cons c r ih => exact ih _ (NI_redS h)
theorem NI_red (l : List UInt8) : NI (red l) := NI_foldl l [] NI_nil
theorem red_of_NI {l : List UInt8} (h : NI l) : red l = l := by
  have H : ∀ k, k ≤ l.length → red (l.take k) = l.take k := by
    intro k
    induction k with
    | zero => intro _; simp [red]
    | succ k ih =>
      intro hk
      rw [red_take l k (by omega), ih (by omega), take_snoc l k (by omega)]
      unfold redS
      rw [if_neg]
      intro e
      rw [List.getLast?_eq_getElem?, List.length_take, Nat.min_eq_left (by omega)] at e
      cases k with
      | zero => simp at e
      | succ j =>
        rw [Nat.add_sub_cancel, List.getElem?_take_of_lt (by omega)] at e
        exact h j _ _ e (List.getElem?_eq_getElem (by omega)) rfl
  have := H l.length (Nat.le_refl _)
  rwa [List.take_length] at this
theorem red_red (l : List UInt8) : red (red l) = red l := red_of_NI (NI_red l)
theorem red_cat (a b : List UInt8) : red (a ++ b) = b.foldl redS (red a) := by simp [red, List.foldl_append]
theorem red_app (a b : List UInt8) : red (red a ++ b) = red (a ++ b) := by rw [red_cat, red_red, red_cat]
/-- so many times behind itself -/
def rep (l : List UInt8) : Nat → List UInt8
  | 0 => []
  | n + 1 => rep l n ++ l
theorem rep_length (l : List UInt8) (n : Nat) : (rep l n).length = n * l.length := by
  induction n with
  | zero => simp [rep]
  | succ n ih => simp [rep, ih, Nat.succ_mul]
theorem rep_letters {l : List UInt8} (h : ∀ c ∈ l, isL c = true) (n : Nat) : ∀ c ∈ rep l n, isL c = true := by
  induction n with
  | zero => simp [rep]
  | succ n ih => intro c hc; exact (List.mem_append.1 hc).elim (ih c) (h c)
theorem redS_len_eq {out : List UInt8} {c : UInt8} (h : (redS out c).length = out.length + 1) : redS out c = out ++ [c] := by
  unfold redS at h ⊢
  split
  · rename_i e; rw [if_pos e, List.length_dropLast] at h; omega
  · rfl
theorem foldl_length (l out : List UInt8) : (l.foldl redS out).length ≤ out.length + l.length := by
  induction l generalizing out with
  | nil => simp
  | cons c r ih =>
    have h1 := ih (redS out c)
    have h2 := redS_length out c
    simp only [List.foldl_cons, List.length_cons]
    omega
theorem foldl_full (l out : List UInt8) (h : (l.foldl redS out).length = out.length + l.length) : l.foldl redS out = out ++ l := by
  induction l generalizing out with
  | nil => simp
  | cons c r ih =>
    simp only [List.foldl_cons, List.length_cons] at h ⊢
    have h1 := foldl_length r (redS out c)
    have h2 := redS_length out c
    have e := redS_len_eq (out := out) (c := c) (by omega)
    rw [ih (redS out c) (by omega), e]
    simp
theorem red_full {l : List UInt8} : (red l).length = l.length ↔ red l = l := by
  constructor
  · intro h
    have := foldl_full l [] (by simpa [red] using h)
    simpa [red] using this
  · intro h; rw [h]
end Go.Proofs.Ytdcphheeapmjcaa.Wd
namespace Go.Proofs.Ytdcphheeapmjcaa
open Wd
theorem powR_rep (l : List UInt8) (n : Nat) : powR l n = red (rep l n) := by
  induction n with
  | zero => rfl
  | succ n ih => show red (powR l n ++ l) = red (rep l n ++ l); rw [ih, red_app]
end Go.Proofs.Ytdcphheeapmjcaa
