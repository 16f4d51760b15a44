/-
  PLAIN MATHEMATICS OF FLOATS (no program in sight): how words are read, compared and written; conversions between widths; the NaNs of the tape.
-/
import Derived.Laws.FloatArith
import Derived.WalkKit
import Derived.Deep.Draws
namespace Go.Proofs.YtkijgadkgfapgaaDoor.Fl
open Ieee

theorem read32 (b : Nat) : single.read b = (if b % 2147483648 < 8388608 then .number (b / 2147483648 % 2 == 1) (b % 2147483648) (-149) else if b % 2147483648 < 2139095040 then .number (b / 2147483648 % 2 == 1) (8388608 + b % 2147483648 % 8388608) (-149 + ((b % 2147483648 / 8388608 - 1 : Nat) : Int)) else if b % 2147483648 = 2139095040 then .infinity (b / 2147483648 % 2 == 1) else .nan (b / 2147483648 % 2 == 1) (b % 2147483648 - 2139095040)) := by
  rfl

theorem read64 (b : Nat) : double.read b = (if b % 9223372036854775808 < 4503599627370496 then .number (b / 9223372036854775808 % 2 == 1) (b % 9223372036854775808) (-1074) else if b % 9223372036854775808 < 9218868437227405312 then .number (b / 9223372036854775808 % 2 == 1) (4503599627370496 + b % 9223372036854775808 % 4503599627370496) (-1074 + ((b % 9223372036854775808 / 4503599627370496 - 1 : Nat) : Int)) else if b % 9223372036854775808 = 9218868437227405312 then .infinity (b / 9223372036854775808 % 2 == 1) else .nan (b / 9223372036854775808 % 2 == 1) (b % 9223372036854775808 - 9218868437227405312)) := by
  rfl

def nan32 (b : Nat) : Bool := decide (2139095040 < b % 2147483648)
def nan64 (b : Nat) : Bool := decide (9218868437227405312 < b % 9223372036854775808)
def fin32 (b : Nat) : Bool := decide (b % 2147483648 < 2139095040)

theorem order_self_num (s : Bool) (m : Nat) (i : Int) : Datum.order (.number s m i) (.number s m i) = some .eq := by
  simp [Datum.order]
theorem order_self_inf (s : Bool) : Datum.order (.infinity s) (.infinity s) = some .eq := by
  simp [Datum.order]

theorem order32_self {b : Nat} (h : nan32 b = false) : single.order b b = some .eq := by
  unfold nan32 at h; simp at h
  unfold Format.order; rw [read32]
  split
  · exact order_self_num _ _ _
  · split
    · exact order_self_num _ _ _
    · rw [if_pos (by omega)]; exact order_self_inf _
theorem order64_self {b : Nat} (h : nan64 b = false) : double.order b b = some .eq := by
  unfold nan64 at h; simp at h
  unfold Format.order; rw [read64]
  split
  · exact order_self_num _ _ _
  · split
    · exact order_self_num _ _ _
    · rw [if_pos (by omega)]; exact order_self_inf _
theorem order32_nanL {a : Nat} (b : Nat) (h : nan32 a = true) : single.order a b = none := by
  unfold nan32 at h; simp at h
  unfold Format.order; rw [read32 a, if_neg (by omega), if_neg (by omega), if_neg (by omega)]; rfl
theorem order32_nanR (a : Nat) {b : Nat} (h : nan32 b = true) : single.order a b = none := by
  unfold nan32 at h; simp at h
  unfold Format.order; rw [read32 b, if_neg (by omega), if_neg (by omega), if_neg (by omega)]
  cases single.read a <;> rfl
theorem order64_nanL {a : Nat} (b : Nat) (h : nan64 a = true) : double.order a b = none := by
  unfold nan64 at h; simp at h
  unfold Format.order; rw [read64 a, if_neg (by omega), if_neg (by omega), if_neg (by omega)]; rfl
theorem order64_nanR (a : Nat) {b : Nat} (h : nan64 b = true) : double.order a b = none := by
  unfold nan64 at h; simp at h
  unfold Format.order; rw [read64 b, if_neg (by omega), if_neg (by omega), if_neg (by omega)]
  cases double.read a <;> rfl

/-- the tape's NaN is one -/
theorem nan32_cut (q : Question) (t : Nat) (h : (∃ x y, q = .nanBits .f32 x y) ∨ (∃ x, q = .nanConv .f32 x)) : nan32 (q.cut t) = true := by
  rcases h with ⟨x, y, rfl⟩ | ⟨x, rfl⟩
  · show nan32 ((t % 2) * 2147483648 + 0x7f800000 + 1 + (t / 2) % 8388607) = true
    unfold nan32; rcases Nat.mod_two_eq_zero_or_one t with h | h <;> rw [h] <;> simp <;> omega
  · show nan32 ((t % 2) * 2147483648 + 0x7f800000 + 1 + (t / 2) % 8388607) = true
    unfold nan32; rcases Nat.mod_two_eq_zero_or_one t with h | h <;> rw [h] <;> simp <;> omega
theorem nan64_cut (q : Question) (t : Nat) (h : (∃ x y, q = .nanBits .f64 x y) ∨ (∃ x, q = .nanConv .f64 x)) : nan64 (q.cut t) = true := by
  rcases h with ⟨x, y, rfl⟩ | ⟨x, rfl⟩
  · show nan64 ((t % 2) * 9223372036854775808 + 9218868437227405312 + 1 + (t / 2) % 4503599627370495) = true
    unfold nan64; rcases Nat.mod_two_eq_zero_or_one t with h | h <;> rw [h] <;> simp <;> omega
  · show nan64 ((t % 2) * 9223372036854775808 + 9218868437227405312 + 1 + (t / 2) % 4503599627370495) = true
    unfold nan64; rcases Nat.mod_two_eq_zero_or_one t with h | h <;> rw [h] <;> simp <;> omega

theorem signWeight_pos (f : Format) : 0 < f.signWeight := Nat.two_pow_pos _
theorem binade_pos (f : Format) : 0 < f.binade := Nat.two_pow_pos _

theorem word_mod (f : Format) (s : Bool) {r : Nat} (h : r < f.signWeight) : f.word s r % f.signWeight = r := by
  unfold Format.word
  cases s
  · simp [Nat.mod_eq_of_lt h]
  · simp [Nat.mod_eq_of_lt h]
theorem word_sign (f : Format) (s : Bool) {r : Nat} (h : r < f.signWeight) : (f.word s r / f.signWeight % 2 == 1) = s := by
  unfold Format.word
  have hp := signWeight_pos f
  cases s
  · simp [Nat.div_eq_of_lt h]
  · simp [Nat.add_div_left _ hp, Nat.div_eq_of_lt h]

theorem read_word (f : Format) (s : Bool) {r : Nat} (h : r < f.signWeight) :
    f.read (f.word s r) = (if r < f.binade then .number s r f.leastPlace
      else if r < f.infRung then .number s (f.binade + r % f.binade) (f.leastPlace + (r / f.binade - 1 : Nat))
      else if r = f.infRung then .infinity s else .nan s (r - f.infRung)) := by
  unfold Format.read
  simp only [word_mod f s h, word_sign f s h]

theorem cut_zero (w : Toward) (s : Bool) (n : Nat) : w.cut s n 0 = n := by
  unfold Toward.cut
  have e : (1 <<< min 0 (n.log2 + 2)) = 1 := by simp
  rw [e]
  cases w <;> simp [Nat.mod_one]

/-- A NUMBER THAT THE FORMAT HAS is written as it is, and read again. -/
theorem read_nearest_exact (f : Format) (s : Bool) (m : Nat) (p : Int) (hm : m ≠ 0) (hl : m.log2 ≤ f.fractionBits) (hp : f.leastPlace ≤ p)
    (ht : p + m.log2 < f.leastPlace + (2 ^ f.exponentBits - 2 : Nat) + f.fractionBits) (hE : 2 ≤ f.exponentBits) :
    f.read (f.nearest s m p) = .number s (m <<< (p - max (p + m.log2 - f.fractionBits) f.leastPlace).toNat) (max (p + m.log2 - f.fractionBits) f.leastPlace) := by
  have hB := binade_pos f
  have hlt : m < 2 ^ (m.log2 + 1) := Nat.lt_log2_self
  have hge : 2 ^ m.log2 ≤ m := Nat.log2_self_le hm
  obtain ⟨last, hlast⟩ : ∃ last, last = max (p + m.log2 - f.fractionBits) f.leastPlace := ⟨_, rfl⟩
  have h1 : last ≤ p := by omega
  have hE' : 4 ≤ 2 ^ f.exponentBits := by
    calc 4 = 2 ^ 2 := rfl
      _ ≤ 2 ^ f.exponentBits := Nat.pow_le_pow_right (by omega) hE
  have hdr : (last - p).toNat = 0 := by omega
  obtain ⟨k, hk⟩ : ∃ k : Nat, (p - last).toNat = k := ⟨_, rfl⟩
  have hkept : m <<< k < 2 * f.binade := by
    have h2 : m.log2 + k ≤ f.fractionBits := by omega
    rw [Nat.shiftLeft_eq]
    calc m * 2 ^ k < 2 ^ (m.log2 + 1) * 2 ^ k := (Nat.mul_lt_mul_right (Nat.two_pow_pos k)).2 hlt
      _ = 2 * 2 ^ (m.log2 + k) := by rw [← Nat.pow_add, ← Nat.pow_succ']; congr 1; omega
      _ ≤ 2 * 2 ^ f.fractionBits := Nat.mul_le_mul_left _ (Nat.pow_le_pow_right (by omega) h2)
  have hnear : f.nearest s m p = f.word s (min ((last - f.leastPlace).toNat * f.binade + m <<< k) f.infRung) := by
    unfold Format.nearest
    rw [if_neg hm]
    simp only [← hlast, hdr, hk, cut_zero]
  obtain ⟨q, hq⟩ : ∃ q : Nat, (last - f.leastPlace).toNat = q := ⟨_, rfl⟩
  have hqt : q + 2 ≤ 2 ^ f.exponentBits - 1 := by omega
  have hri : q * f.binade + m <<< k < f.infRung := by
    unfold Format.infRung
    calc q * f.binade + m <<< k < q * f.binade + 2 * f.binade := by omega
      _ = (q + 2) * f.binade := by rw [Nat.add_mul]
      _ ≤ (2 ^ f.exponentBits - 1) * f.binade := Nat.mul_le_mul_right _ hqt
  have hrs := Nat.lt_trans hri f.infRung_lt
  rw [hnear, hq, Nat.min_eq_left (Nat.le_of_lt hri), read_word f s hrs, ← hlast, hk]
  by_cases hsub : q * f.binade + m <<< k < f.binade
  · rw [if_pos hsub]
    have hq0 : q = 0 := by
      rcases Nat.eq_zero_or_pos q with h | h
      · exact h
      · have hle := Nat.le_mul_of_pos_left f.binade h
        exact absurd (Nat.lt_of_le_of_lt (Nat.le_trans hle (Nat.le_add_right _ _)) hsub) (Nat.lt_irrefl _)
    subst hq0
    simp only [Nat.zero_mul, Nat.zero_add]
    congr 1
    omega
  · rw [if_neg hsub, if_pos hri]
    have hfull : f.binade ≤ m <<< k := by
      rcases Nat.eq_zero_or_pos q with h | h
      · subst h; simpa using hsub
      · have : p + m.log2 - f.fractionBits = last := by omega
        have h2 : m.log2 + k = f.fractionBits := by omega
        rw [Nat.shiftLeft_eq]
        calc f.binade = 2 ^ m.log2 * 2 ^ k := by unfold Format.binade; rw [← Nat.pow_add, h2]
          _ ≤ m * 2 ^ k := Nat.mul_le_mul_right _ hge
    have e1 : (q * f.binade + m <<< k) % f.binade = m <<< k - f.binade := by
      rw [Nat.mul_comm, Nat.mul_add_mod, Nat.mod_eq_sub_mod hfull, Nat.mod_eq_of_lt (by omega)]
    have e2 : (q * f.binade + m <<< k) / f.binade = q + 1 := by
      rw [Nat.mul_comm, Nat.mul_add_div hB, Nat.div_eq_sub_div hB hfull, Nat.div_eq_of_lt (by omega)]
    rw [e1, e2]
    congr 1 <;> omega

theorem read_nearest_zero (f : Format) (s : Bool) (p : Int) : f.read (f.nearest s 0 p) = .number s 0 f.leastPlace := by
  unfold Format.nearest
  rw [if_pos rfl, read_word f s (signWeight_pos f), if_pos (binade_pos f)]

/-! ### a number taken from itself; the tape's NaNs -/
theorem sub_self_num (f : Format) {a : Nat} {s : Bool} {m : Nat} {p : Int} (h : f.read a = .number s m p) : f.sub a a = some 0 := by
  unfold Format.sub
  rw [h]
  have : signed s m (p - min p p).toNat + signed (!s) m (p - min p p).toNat = 0 := by
    cases s <;> simp [signed] <;> omega
  simp only [Datum.opposite, Datum.sum, this, ↓reduceIte, Option.map_some]
  cases s <;> rfl
theorem sub_self_fin {a : Nat} (h : fin32 a = true) : single.sub a a = some 0 := by
  have h' : a % 2147483648 < 2139095040 := by simpa [fin32] using h
  by_cases h1 : a % 2147483648 < 8388608
  · exact sub_self_num single (by rw [read32, if_pos h1])
  · exact sub_self_num single (by rw [read32, if_neg h1, if_pos h'])
theorem sub_self_odd {a : Nat} (h : fin32 a = false) : single.sub a a = none := by
  have h' : ¬ a % 2147483648 < 2139095040 := by simpa [fin32] using h
  have h1 : ¬ a % 2147483648 < 8388608 := by omega
  unfold Format.sub
  by_cases h2 : a % 2147483648 = 2139095040
  · rw [read32, if_neg h1, if_neg h', if_pos h2]; simp [Datum.opposite, Datum.sum]
  · rw [read32, if_neg h1, if_neg h', if_neg h2]; rfl
/-- what the tape gives where 'x op y' is no number -/
def nanS (x y : Nat) (w : World) : Nat := (Question.nanBits .f32 x y).cut (w.tape w.drawn (.nanBits .f32 x y))
def nanD (x y : Nat) (w : World) : Nat := (Question.nanBits .f64 x y).cut (w.tape w.drawn (.nanBits .f64 x y))
def nanC32 (x : Nat) (w : World) : Nat := (Question.nanConv .f32 x).cut (w.tape w.drawn (.nanConv .f32 x))
def nanC64 (x : Nat) (w : World) : Nat := (Question.nanConv .f64 x).cut (w.tape w.drawn (.nanConv .f64 x))
theorem nanS_nan (x y : Nat) (w : World) : nan32 (nanS x y w) = true := nan32_cut _ _ (Or.inl ⟨x, y, rfl⟩)
theorem nanD_nan (x y : Nat) (w : World) : nan64 (nanD x y w) = true := nan64_cut _ _ (Or.inl ⟨x, y, rfl⟩)
theorem nanC32_nan (x : Nat) (w : World) : nan32 (nanC32 x w) = true := nan32_cut _ _ (Or.inr ⟨x, rfl⟩)
theorem nanC64_nan (x : Nat) (w : World) : nan64 (nanC64 x w) = true := nan64_cut _ _ (Or.inr ⟨x, rfl⟩)
section
variable {P : Program} (w : World)
theorem run_arith_nan32 (op : BinOp) (t : TypeId) (x y : Nat) (hop : op = .add ∨ op = .sub ∨ op = .mul ∨ op = .quo) (h : floatBits op .f32 x y = none) :
    (binOp op t (.float .f32 x) (.float .f32 y)).run P w = .ok (.float .f32 (nanS x y w)) w.drew := by
  unfold floatBits at h
  rcases hop with rfl | rfl | rfl | rfl <;> simp only at h <;> simp [binOp, Op.floatArith, h, nanS, Question.forced]
theorem run_arith_nan64 (op : BinOp) (t : TypeId) (x y : Nat) (hop : op = .add ∨ op = .sub ∨ op = .mul ∨ op = .quo) (h : floatBits op .f64 x y = none) :
    (binOp op t (.float .f64 x) (.float .f64 y)).run P w = .ok (.float .f64 (nanD x y w)) w.drew := by
  unfold floatBits at h
  rcases hop with rfl | rfl | rfl | rfl <;> simp only at h <;> simp [binOp, Op.floatArith, h, nanD, Question.forced]
/-- a NaN, widened: some NaN -/
theorem run_widen_nan (src dst : TypeId) (b : Nat) (hs : P.underlying src = some (.float .f32)) (hd : P.underlying dst = some (.float .f64)) (h : nan32 b = true) :
    (convert src dst (.float .f32 b)).run P w = .ok (.float .f64 (nanC64 b w)) w.drew := by
  have h' : 2139095040 < b % 2147483648 := by simpa [nan32] using h
  have hr : FloatKind.f32.decode b = .nan (b / 2147483648 % 2 == 1) (b % 2147483648 - 2139095040) := by
    show single.read b = _
    rw [read32, if_neg (by omega), if_neg (by omega), if_neg (by omega)]
  simp [convert, run_underlying hs, run_underlying hd, Conv.floatToFloat, hr, nanC64, Question.forced]
theorem run_narrow_nan (src dst : TypeId) (b : Nat) (hs : P.underlying src = some (.float .f64)) (hd : P.underlying dst = some (.float .f32)) (h : nan64 b = true) :
    (convert src dst (.float .f64 b)).run P w = .ok (.float .f32 (nanC32 b w)) w.drew := by
  have h' : 9218868437227405312 < b % 9223372036854775808 := by simpa [nan64] using h
  have hr : FloatKind.f64.decode b = .nan (b / 9223372036854775808 % 2 == 1) (b % 9223372036854775808 - 9218868437227405312) := by
    show double.read b = _
    rw [read64, if_neg (by omega), if_neg (by omega), if_neg (by omega)]
  simp [convert, run_underlying hs, run_underlying hd, Conv.floatToFloat, hr, nanC32, Question.forced]
end

/-! ### a number widened -/
theorem log2_lt24 {m : Nat} (h : m < 16777216) : m.log2 ≤ 23 := by
  by_cases hm : m = 0
  · subst hm; decide
  · have := (Nat.log2_lt hm (k := 24)).2 h
    omega
/-- The word of a narrow number that is not NaN, as a wide one. -/
def widen (b : Nat) : Nat := double.write (single.read b)
theorem read_widen_num {b : Nat} {s : Bool} {m : Nat} {p : Int} (h : single.read b = .number s m p) (hm : m < 16777216) (h1 : -149 ≤ p) (h2 : p ≤ 104) :
    ∃ k : Nat, ∃ q : Int, double.read (widen b) = .number s (m * 2 ^ k) q ∧ (m ≠ 0 → q = p - k) := by
  unfold widen
  rw [h]
  show ∃ k : Nat, ∃ q : Int, double.read (double.nearest s m p) = _ ∧ _
  by_cases hm0 : m = 0
  · subst hm0
    refine ⟨0, double.leastPlace, ?_, fun hh => absurd rfl hh⟩
    rw [read_nearest_zero]
  · have hl := log2_lt24 hm
    have hlp : double.leastPlace = -1074 := rfl
    have hfb : double.fractionBits = 52 := rfl
    have h := read_nearest_exact double s m p hm0 (by rw [hfb]; omega) (by rw [hlp]; omega) (by rw [hlp, hfb]; have : (2 : Nat) ^ double.exponentBits = 2048 := rfl; rw [this]; omega) (by decide)
    rw [Nat.shiftLeft_eq] at h
    exact ⟨_, _, h, fun _ => by rw [hlp, hfb]; omega⟩
theorem read32_num {b : Nat} (h : fin32 b = true) : ∃ s m p, single.read b = .number s m p ∧ m < 16777216 ∧ -149 ≤ p ∧ p ≤ 104 := by
  have h' : b % 2147483648 < 2139095040 := by simpa [fin32] using h
  by_cases h1 : b % 2147483648 < 8388608
  · exact ⟨_, _, _, by rw [read32, if_pos h1], by omega, by omega, by omega⟩
  · exact ⟨_, _, _, by rw [read32, if_neg h1, if_pos h'], by omega, by omega, by omega⟩
theorem read32_inf {b : Nat} (h : fin32 b = false) (hn : nan32 b = false) : single.read b = .infinity (b / 2147483648 % 2 == 1) := by
  have h' : ¬ b % 2147483648 < 2139095040 := by simpa [fin32] using h
  have h2 : ¬ 2139095040 < b % 2147483648 := by simpa [nan32] using hn
  rw [read32, if_neg (by omega), if_neg h', if_pos (by omega)]
theorem widen_bits {b : Nat} (hn : nan32 b = false) : floatToFloatBits .f32 b .f64 = some (widen b) ∧ nan64 (widen b) = false := by
  cases hf : fin32 b
  · have hr := read32_inf hf hn
    constructor
    · unfold floatToFloatBits
      rw [if_neg (by decide)]
      show (match single.read b with | .nan _ _ => none | .infinity s => some (FloatKind.f64.encode (.infinity s)) | .number s m e => _) = _
      rw [hr]; unfold widen; rw [hr]; rfl
    · unfold widen; rw [hr]; cases (b / 2147483648 % 2 == 1) <;> decide
  · obtain ⟨s, m, p, hr, hm, h1, h2⟩ := read32_num hf
    obtain ⟨k, q, hw, _⟩ := read_widen_num hr hm h1 h2
    have hwr : double.write (.number s m p) = widen b := by unfold widen; rw [hr]
    constructor
    · unfold floatToFloatBits
      rw [if_neg (by decide)]
      show (match single.read b with | .nan _ _ => none | .infinity s => some (FloatKind.f64.encode (.infinity s)) | .number s m e => if (FloatKind.f64.decode (FloatKind.f64.encode (.number s m e))).isInfinity then none else some (FloatKind.f64.encode (.number s m e))) = _
      rw [hr]
      show (if (double.read (double.write (.number s m p))).isInfinity then none else some (double.write (.number s m p))) = _
      rw [hwr, hw]; rfl
    · cases hc : nan64 (widen b)
      · rfl
      · have h' : 9218868437227405312 < widen b % 9223372036854775808 := by simpa [nan64] using hc
        rw [read64, if_neg (by omega), if_neg (by omega), if_neg (by omega)] at hw
        cases hw

/-! ### zeros of wide numbers -/
theorem compare_zero (z : Int) : (compare z 0 == .eq) = decide (z = 0) := by
  rw [Bool.eq_iff_iff]; simp
theorem signed_zero (s : Bool) (m k : Nat) : signed s m k = 0 ↔ m = 0 := by
  have hp : 0 < 2 ^ k := Nat.two_pow_pos k
  have e : m <<< k = 0 ↔ m = 0 := by
    rw [Nat.shiftLeft_eq, Nat.mul_eq_zero]
    constructor
    · rintro (h | h)
      · exact h
      · omega
    · exact fun h => .inl h
  unfold signed
  cases s <;> simp <;> omega
theorem order_num_zero (s : Bool) (m : Nat) (i j : Int) : (Datum.order (.number s m i) (.number false 0 j) == some .eq) = decide (m = 0) := by
  have h0 : signed false 0 (j - min i j).toNat = 0 := (signed_zero _ _ _).2 rfl
  show (some (compare (signed s m (i - min i j).toNat) (signed false 0 (j - min i j).toNat)) == some Ordering.eq) = _
  rw [h0]
  have h1 := compare_zero (signed s m (i - min i j).toNat)
  have h2 := signed_zero s m (i - min i j).toNat
  rw [show (some (compare (signed s m (i - min i j).toNat) 0) == some Ordering.eq) = (compare (signed s m (i - min i j).toNat) 0 == Ordering.eq) from rfl, h1]
  exact decide_eq_decide.2 h2
theorem read64_zero : double.read 0 = .number false 0 (-1074) := by decide
theorem read32_zero : single.read 0 = .number false 0 (-149) := by decide
/-- is a wide word a zero's? -/
def zero64 (r : Nat) : Bool := decide (r % 9223372036854775808 = 0)
def zero32 (r : Nat) : Bool := decide (r % 2147483648 = 0)
theorem order64_zero {r : Nat} (h : nan64 r = false) : (double.order r 0 == some .eq) = zero64 r := by
  have h' : ¬ 9218868437227405312 < r % 9223372036854775808 := by simpa [nan64] using h
  unfold Format.order zero64
  rw [read64_zero, read64]
  by_cases h1 : r % 9223372036854775808 < 4503599627370496
  · rw [if_pos h1, order_num_zero]
  · rw [if_neg h1]
    by_cases h2 : r % 9223372036854775808 < 9218868437227405312
    · rw [if_pos h2, order_num_zero, decide_eq_decide]; omega
    · rw [if_neg h2, if_pos (by omega)]
      have : ¬ r % 9223372036854775808 = 0 := by omega
      cases (r / 9223372036854775808 % 2 == 1) <;> simp [Datum.order, this]
theorem order32_zero_eq {r : Nat} (h : nan32 r = false) : (single.order r 0 == some .eq) = zero32 r := by
  have h' : ¬ 2139095040 < r % 2147483648 := by simpa [nan32] using h
  unfold Format.order zero32
  rw [read32_zero, read32]
  by_cases h1 : r % 2147483648 < 8388608
  · rw [if_pos h1, order_num_zero]
  · rw [if_neg h1]
    by_cases h2 : r % 2147483648 < 2139095040
    · rw [if_pos h2, order_num_zero, decide_eq_decide]; omega
    · rw [if_neg h2, if_pos (by omega)]
      have : ¬ r % 2147483648 = 0 := by omega
      cases (r / 2147483648 % 2 == 1) <;> simp [Datum.order, this]
/-- 1 divided by a zero -/
theorem one_over_zero {r : Nat} (h : zero64 r = true) : ∃ x, floatBits .quo .f64 4607182418800017408 r = some x := by
  have h' : r % 9223372036854775808 = 0 := by simpa [zero64] using h
  refine ⟨double.write (.infinity (false ^^ (r / 9223372036854775808 % 2 == 1))), ?_⟩
  show double.div 4607182418800017408 r = _
  unfold Format.div
  have h1 : double.read 4607182418800017408 = .number false 4503599627370496 (-52) := by decide
  rw [h1, read64, h', if_pos (by omega)]
  rfl

/-! ### signs of widened numbers; zeros narrowed -/
theorem widen_lt (b : Nat) : widen b < 18446744073709551616 := double.write_lt _
theorem widen_sign {b : Nat} (h : fin32 b = true) (hb : b < 4294967296) : (9223372036854775808 ≤ widen b) ↔ 2147483648 ≤ b := by
  obtain ⟨s, m, p, hr, hm, h1, h2⟩ := read32_num h
  obtain ⟨k, q, hw, _⟩ := read_widen_num hr hm h1 h2
  have hl := widen_lt b
  have e1 : (widen b / 9223372036854775808 % 2 == 1) = s := by
    rw [read64] at hw
    split at hw
    · injection hw with e
    · split at hw
      · injection hw with e
      · split at hw <;> cases hw
  have e2 : (b / 2147483648 % 2 == 1) = s := by
    rw [read32] at hr
    split at hr
    · injection hr with e
    · split at hr
      · injection hr with e
      · split at hr <;> cases hr
  rw [← e2] at e1
  have e3 : (widen b / 9223372036854775808 % 2 = 1) ↔ (b / 2147483648 % 2 = 1) := by
    have := congrArg (· = true) e1
    simpa using this
  omega
theorem narrow_zero : floatToFloatBits .f64 0 .f32 = some 0 := by decide
theorem narrow_minus : floatToFloatBits .f64 9223372036854775808 .f32 = some 2147483648 := by decide
end Go.Proofs.YtkijgadkgfapgaaDoor.Fl
