/-
  PLAIN MATHEMATICS OF FLOATS, second part (no program in sight): how far a rounded number can grow; roots; numbers narrowed.
-/
import Derived.Test.YtaihooljphkpeaaDoorFl
namespace Go.Proofs.YtaihooljphkpeaaDoor.Fl
open Ieee

theorem bool_toNat_le (b : Bool) : b.toNat ≤ 1 := by cases b <;> decide
theorem cut_even_le (s : Bool) (n drop : Nat) : Toward.even.cut s n drop ≤ n / 2 ^ min drop (n.log2 + 2) + 1 := by
  unfold Toward.cut
  simp only [Nat.one_shiftLeft]
  exact Nat.add_le_add_left (bool_toNat_le _) _
/-- what is kept of a number has at most one bit more than the format's fraction -/
theorem kept_le (f : Format) (s : Bool) (m : Nat) (p last : Int) (hm : m ≠ 0) (hl : p + m.log2 - f.fractionBits ≤ last) :
    Toward.even.cut s (m <<< (p - last).toNat) (last - p).toNat ≤ 2 * f.binade := by
  have hlt : m < 2 ^ (m.log2 + 1) := Nat.lt_log2_self
  have hB := binade_pos f
  have two : 2 ^ (f.fractionBits + 1) = 2 * f.binade := by unfold Format.binade; rw [Nat.pow_succ']
  by_cases hp : last ≤ p
  · have h0 : (last - p).toNat = 0 := by omega
    rw [h0, cut_zero]
    obtain ⟨k, hk⟩ : ∃ k : Nat, (p - last).toNat = k := ⟨_, rfl⟩
    rw [hk, Nat.shiftLeft_eq]
    have h2 : m.log2 + k ≤ f.fractionBits := by omega
    have : m * 2 ^ k < 2 * f.binade := by
      calc m * 2 ^ k < 2 ^ (m.log2 + 1) * 2 ^ k := (Nat.mul_lt_mul_right (Nat.two_pow_pos k)).2 hlt
        _ = 2 ^ (m.log2 + k + 1) := by rw [← Nat.pow_add]; congr 1; omega
        _ ≤ 2 ^ (f.fractionBits + 1) := Nat.pow_le_pow_right (by omega) (by omega)
        _ = 2 * f.binade := two
    omega
  · have h0 : (p - last).toNat = 0 := by omega
    rw [h0, Nat.shiftLeft_zero]
    obtain ⟨d, hd⟩ : ∃ d : Nat, (last - p).toNat = d := ⟨_, rfl⟩
    rw [hd]
    refine Nat.le_trans (cut_even_le s m d) ?_
    have hdl : m.log2 ≤ d + f.fractionBits := by omega
    by_cases hmin : d ≤ m.log2 + 2
    · rw [Nat.min_eq_left hmin]
      have : m / 2 ^ d < 2 * f.binade := by
        rw [Nat.div_lt_iff_lt_mul (Nat.two_pow_pos d)]
        calc m < 2 ^ (m.log2 + 1) := hlt
          _ ≤ 2 ^ (f.fractionBits + 1 + d) := Nat.pow_le_pow_right (by omega) (by omega)
          _ = 2 * f.binade * 2 ^ d := by rw [Nat.pow_add, two]
      omega
    · rw [Nat.min_eq_right (by omega)]
      have : m / 2 ^ (m.log2 + 2) = 0 := Nat.div_eq_of_lt (Nat.lt_of_lt_of_le hlt (Nat.pow_le_pow_right (by omega) (by omega)))
      omega
/-- The rung of a number that is not too great. -/
theorem nearest_rung (f : Format) (s : Bool) (m : Nat) (p : Int) (top : Nat) (hm : m ≠ 0) (ht : p + m.log2 - f.fractionBits ≤ f.leastPlace + top) (hT : top + 3 ≤ 2 ^ f.exponentBits - 1) :
    ∃ r, f.nearest s m p = f.word s r ∧ r ≤ (top + 2) * f.binade ∧ r < f.infRung := by
  have hB := binade_pos f
  obtain ⟨last, hlast⟩ : ∃ last, last = max (p + m.log2 - f.fractionBits) f.leastPlace := ⟨_, rfl⟩
  have hk := kept_le f s m p last hm (by omega)
  obtain ⟨q, hq⟩ : ∃ q : Nat, (last - f.leastPlace).toNat = q := ⟨_, rfl⟩
  have hqt : q ≤ top := by omega
  have h1 : q * f.binade + Toward.even.cut s (m <<< (p - last).toNat) (last - p).toNat ≤ (top + 2) * f.binade := by
    have := Nat.mul_le_mul_right f.binade hqt
    rw [Nat.add_mul]; omega
  have h2 : (top + 2) * f.binade < f.infRung := by
    unfold Format.infRung
    calc (top + 2) * f.binade < (top + 3) * f.binade := (Nat.mul_lt_mul_right hB).2 (by omega)
      _ ≤ _ := Nat.mul_le_mul_right _ hT
  refine ⟨q * f.binade + Toward.even.cut s (m <<< (p - last).toNat) (last - p).toNat, ?_, h1, by omega⟩
  unfold Format.nearest
  rw [if_neg hm]
  simp only [← hlast, hq]
  rw [Nat.min_eq_left (by omega)]
/-- Read again, it is a number that has not grown much. -/
theorem read_nearest_le (f : Format) (s : Bool) (m : Nat) (p : Int) (top : Nat) (ht : m ≠ 0 → p + m.log2 - f.fractionBits ≤ f.leastPlace + top) (hT : top + 3 ≤ 2 ^ f.exponentBits - 1) :
    ∃ n q, f.read (f.nearest s m p) = .number s n q ∧ n < 2 * f.binade ∧ q ≤ f.leastPlace + top + 1 := by
  have hB := binade_pos f
  by_cases hm : m = 0
  · subst hm
    exact ⟨0, f.leastPlace, read_nearest_zero f s p, by omega, by omega⟩
  · obtain ⟨r, h1, h2, h3⟩ := nearest_rung f s m p top hm (ht hm) hT
    rw [h1, read_word f s (Nat.lt_trans h3 f.infRung_lt)]
    by_cases hs : r < f.binade
    · rw [if_pos hs]; exact ⟨_, _, rfl, by omega, by omega⟩
    · rw [if_neg hs, if_pos h3]
      refine ⟨_, _, rfl, ?_, ?_⟩
      · have := Nat.mod_lt r hB; omega
      · have : r / f.binade ≤ top + 2 := by
          rw [Nat.div_le_iff_le_mul hB]; omega
        omega
/-- A wide number that is not too great, narrowed. -/
theorem narrow_num {x : Nat} {s : Bool} {m : Nat} {p : Int} (h : double.read x = .number s m p) (hb : m ≠ 0 → p + m.log2 ≤ 120) :
    ∃ r, floatToFloatBits .f64 x .f32 = some r ∧ nan32 r = false := by
  obtain ⟨n, q, hr, _, _⟩ := read_nearest_le single s m p 250 (fun hm => by
    have := hb hm
    have e1 : single.leastPlace = -149 := rfl
    have e2 : single.fractionBits = 23 := rfl
    rw [e1, e2]; omega) (by decide)
  refine ⟨single.write (.number s m p), ?_, ?_⟩
  · unfold floatToFloatBits
    rw [if_neg (by decide)]
    show (match double.read x with | .nan _ _ => none | .infinity s => some (FloatKind.f32.encode (.infinity s)) | .number s m e => if (FloatKind.f32.decode (FloatKind.f32.encode (.number s m e))).isInfinity then none else some (FloatKind.f32.encode (.number s m e))) = _
    rw [h]
    show (if (single.read (single.nearest s m p)).isInfinity then none else some (single.write (.number s m p))) = _
    rw [hr]; rfl
  · cases hc : nan32 (single.write (.number s m p))
    · rfl
    · have h' : 2139095040 < single.write (.number s m p) % 2147483648 := by simpa [nan32] using hc
      have hr' : single.read (single.write (.number s m p)) = .number s n q := hr
      rw [read32, if_neg (by omega), if_neg (by omega), if_neg (by omega)] at hr'
      cases hr'
theorem narrow_inf {x : Nat} {s : Bool} (h : double.read x = .infinity s) : ∃ r, floatToFloatBits .f64 x .f32 = some r ∧ nan32 r = false := by
  refine ⟨single.write (.infinity s), ?_, ?_⟩
  · unfold floatToFloatBits
    rw [if_neg (by decide)]
    show (match double.read x with | .nan _ _ => none | .infinity s => some (FloatKind.f32.encode (.infinity s)) | .number s m e => if (FloatKind.f32.decode (FloatKind.f32.encode (.number s m e))).isInfinity then none else some (FloatKind.f32.encode (.number s m e))) = _
    rw [h]; rfl
  · cases s <;> decide
/-! ### roots -/
theorem rootFrom_lt (n : Nat) : ∀ todo root, Datum.rootFrom n todo root < root + 2 ^ todo
  | 0, root => by simp [Datum.rootFrom]
  | todo + 1, root => by
    have h1 := rootFrom_lt n todo (root + 1 <<< todo)
    have h2 := rootFrom_lt n todo root
    have e : 1 <<< todo = 2 ^ todo := by rw [Nat.one_shiftLeft]
    have e2 : 2 ^ (todo + 1) = 2 ^ todo + 2 ^ todo := by rw [Nat.pow_succ]; omega
    have hp := Nat.two_pow_pos todo
    rw [e] at h1
    simp only [Datum.rootFrom, Nat.one_shiftLeft]
    split
    · omega
    · omega
theorem log2_le {m k : Nat} (hm : m ≠ 0) (h : m < 2 ^ (k + 1)) : m.log2 ≤ k := by
  have := (Nat.log2_lt hm).2 h
  omega
/-- The root of a wide number that is not too great: a number that is not too great. -/
theorem sqrt_num {x : Nat} {m : Nat} {p : Int} (h : double.read x = .number false m p) (hb : m ≠ 0 → p + m.log2 ≤ 128) :
    ∃ y n q, double.sqrt x = some y ∧ double.read y = .number false n q ∧ (n ≠ 0 → q + n.log2 ≤ 120) := by
  have e1 : double.leastPlace = -1074 := rfl
  have e2 : double.fractionBits = 52 := rfl
  have e3 : double.binade = 4503599627370496 := rfl
  have fin : ∀ (M : Nat) (P : Int), (M ≠ 0 → P + Nat.log2 M ≤ 66) → ∃ n q, double.read (double.write (.number false M P)) = .number false n q ∧ (n ≠ 0 → q + n.log2 ≤ 120) := by
    intro M P hMP
    obtain ⟨n, q, hr, h1, h2⟩ := read_nearest_le double false M P 1100 (fun hm => by have := hMP hm; rw [e1, e2]; omega) (by decide)
    refine ⟨n, q, hr, fun hn => ?_⟩
    have := log2_le (k := 52) hn (by rw [e3] at h1; omega)
    rw [e1] at h2
    omega
  unfold Format.sqrt
  rw [h]
  by_cases hm : m = 0
  · subst hm
    obtain ⟨n, q, h1, h2⟩ := fin 0 p (fun hc => absurd rfl hc)
    exact ⟨_, n, q, rfl, h1, h2⟩
  · have hroot : ∃ (M : Nat) (P : Int), Datum.root (double.fractionBits + 2) (.number false m p) = some (.number false M P) ∧ (M ≠ 0 → P + Nat.log2 M ≤ 66) := by
      obtain ⟨more, hmore⟩ : ∃ more, more = (2 * (double.fractionBits + 2) - m.log2) + ((p - (2 * (double.fractionBits + 2) - m.log2 : Nat)) % 2).toNat := ⟨_, rfl⟩
      obtain ⟨whole, hwhole⟩ : ∃ whole, whole = Datum.rootFrom (m <<< more) ((m <<< more).log2 / 2 + 1) 0 := ⟨_, rfl⟩
      have hr : Datum.root (double.fractionBits + 2) (.number false m p) = some (.number false (2 * whole + (whole * whole != m <<< more).toNat) ((p - more) / 2 - 1)) := by
        unfold Datum.root
        simp only [hm, ↓reduceIte, Bool.false_eq_true, ← hmore, ← hwhole]
      refine ⟨_, _, hr, fun hM => ?_⟩
      have hL : (m <<< more).log2 ≤ m.log2 + more := by
        have hp := Nat.two_pow_pos more
        rw [Nat.shiftLeft_eq]
        refine log2_le (Nat.mul_ne_zero hm (by omega)) ?_
        calc m * 2 ^ more < 2 ^ (m.log2 + 1) * 2 ^ more := (Nat.mul_lt_mul_right hp).2 Nat.lt_log2_self
          _ = 2 ^ (m.log2 + more + 1) := by rw [← Nat.pow_add]; congr 1; omega
      have hw := rootFrom_lt (m <<< more) ((m <<< more).log2 / 2 + 1) 0
      rw [← hwhole] at hw
      have hlt : 2 * whole + (whole * whole != m <<< more).toNat < 2 ^ ((m <<< more).log2 / 2 + 1 + 1) := by
        have := bool_toNat_le (whole * whole != m <<< more)
        have e : 2 ^ ((m <<< more).log2 / 2 + 1 + 1) = 2 ^ ((m <<< more).log2 / 2 + 1) * 2 := Nat.pow_succ ..
        omega
      have hlog := log2_le hM hlt
      have := hb hm
      omega
    obtain ⟨M, P, hr, hMP⟩ := hroot
    obtain ⟨n, q, h1, h2⟩ := fin M P hMP
    exact ⟨_, n, q, by rw [hr]; rfl, h1, h2⟩
end Go.Proofs.YtaihooljphkpeaaDoor.Fl
