/-
  MASKS: 16 rows of 16 bits (no program in sight): which cells are set; one cell set, or taken away.
-/
import Derived.Test.YthfmkejdpflpcaaArr
import Derived.Laws.BitsAllLaws
import Derived.Laws.Closers25b
namespace Go.Proofs.Ythfmkejdpflpcaa
/-- rows of 16 bits -/
def MB (f : Nat → Int) : Prop := ∀ y, y < 16 → 0 ≤ f y ∧ f y ≤ 65535
/-- is the cell (x, y) set? -/
def hasF (f : Nat → Int) (x y : Nat) : Bool := (f y).toNat.testBit x
theorem row_ext {a b : Int} (ha : 0 ≤ a ∧ a ≤ 65535) (hb : 0 ≤ b ∧ b ≤ 65535) (h : ∀ x, x < 16 → a.toNat.testBit x = b.toNat.testBit x) : a = b := by
  have e : a.toNat = b.toNat := by
    refine Nat.eq_of_testBit_eq fun i => ?_
    by_cases hi : i < 16
    · exact h i hi
    · rw [Nat.testBit_lt_two_pow (x := a.toNat), Nat.testBit_lt_two_pow (x := b.toNat)]
      · have : 2 ^ 16 ≤ 2 ^ i := Nat.pow_le_pow_right (by omega) (by omega)
        omega
      · have : 2 ^ 16 ≤ 2 ^ i := Nat.pow_le_pow_right (by omega) (by omega)
        omega
  omega
/-- masks with the same cells are one -/
theorem mask_ext {f g : Nat → Int} (hf : MB f) (hg : MB g) (h : ∀ x y, x < 16 → y < 16 → hasF f x y = hasF g x y) : arr .u16 16 f = arr .u16 16 g :=
  arr_congr fun y hy => row_ext (hf y hy) (hg y hy) fun x hx => h x y hx hy
theorem pow16 {x : Nat} (h : x < 16) : (2 : Int) ^ x % 65536 = 2 ^ x := by
  have h2 : (2 : Nat) ^ x ≤ 2 ^ 15 := Nat.pow_le_pow_right (by omega) (by omega)
  have e : (2 : Int) ^ x = ((2 ^ x : Nat) : Int) := by push_cast; rfl
  rw [e]
  generalize 2 ^ x = q at h2 ⊢
  omega
theorem pow16_nat {x : Nat} (h : x < 16) : (2 : Nat) ^ x < 65536 := by
  have h2 : (2 : Nat) ^ x ≤ 2 ^ 15 := Nat.pow_le_pow_right (by omega) (by omega)
  omega
theorem pow16_int (x : Nat) : (2 : Int) ^ x = ((2 ^ x : Nat) : Int) := by push_cast; rfl
theorem shr_bit {v : Int} (hv : 0 ≤ v ∧ v ≤ 65535) (x : Nat) : bits .and .u16 (v / 2 ^ x) 1 = if v.toNat.testBit x then 1 else 0 := by
  obtain ⟨n, rfl⟩ : ∃ n : Nat, v = n := ⟨v.toNat, by omega⟩
  have hd := Nat.div_le_self n (2 ^ x)
  have e : (n : Int) / 2 ^ x = ((n / 2 ^ x : Nat) : Int) := by push_cast; rfl
  rw [e, show (1 : Int) = ((1 : Nat) : Int) from rfl, u16_and_nat _ _ (by omega) (by omega), Int.toNat_natCast, Nat.testBit_eq_decide_div_mod_eq, Nat.and_one_is_mod]
  have h2 := Nat.mod_two_eq_zero_or_one (n / 2 ^ x)
  rcases h2 with h | h <;> simp [h]
theorem shr_lo {v : Int} (hv : 0 ≤ v ∧ v ≤ 65535) (x : Nat) : 0 ≤ v / 2 ^ x ∧ v / 2 ^ x ≤ 65535 := by
  obtain ⟨n, rfl⟩ : ∃ n : Nat, v = n := ⟨v.toNat, by omega⟩
  have hd := Nat.div_le_self n (2 ^ x)
  have e : (n : Int) / 2 ^ x = ((n / 2 ^ x : Nat) : Int) := by push_cast; rfl
  rw [e]
  generalize n / 2 ^ x = q at hd ⊢
  omega
/-- a bit laid, and one taken away -/
def orB (v : Int) (x : Nat) : Int := bits .or .u16 v (2 ^ x)
def offB (v : Int) (x : Nat) : Int := bits .andNot .u16 v (2 ^ x)
theorem u16_hi (op : BinOp) (a b : Int) : 0 ≤ bits op .u16 a b ∧ bits op .u16 a b ≤ 65535 := by
  have := bits_within op .u16 a b
  exact this
theorem orB_bit {v : Int} (hv : 0 ≤ v ∧ v ≤ 65535) {x : Nat} (hx : x < 16) (u : Nat) : (orB v x).toNat.testBit u = (v.toNat.testBit u || decide (u = x)) := by
  obtain ⟨n, rfl⟩ : ∃ n : Nat, v = n := ⟨v.toNat, by omega⟩
  unfold orB
  rw [pow16_int, u16_or_nat _ _ (by omega) (pow16_nat hx), Int.toNat_natCast, Int.toNat_natCast, Nat.testBit_or, Nat.testBit_two_pow]
  congr 1
  rw [Bool.eq_iff_iff]; simp [eq_comm]
theorem offB_bit {v : Int} (hv : 0 ≤ v ∧ v ≤ 65535) {x : Nat} (hx : x < 16) (u : Nat) (hu : u < 16) : (offB v x).toNat.testBit u = (v.toNat.testBit u && !decide (u = x)) := by
  obtain ⟨n, rfl⟩ : ∃ n : Nat, v = n := ⟨v.toNat, by omega⟩
  unfold offB
  rw [pow16_int, u16_andNot_nat _ _ (by omega) (pow16_nat hx), Int.toNat_natCast, Int.toNat_natCast, Nat.testBit_and]
  congr 1
  have e : 65535 - 2 ^ x = 2 ^ 16 - (2 ^ x + 1) := by omega
  rw [e, Nat.testBit_two_pow_sub_succ (pow16_nat hx), Nat.testBit_two_pow]
  simp only [hu, decide_true, Bool.true_and]
  congr 1
  rw [Bool.eq_iff_iff]; simp [eq_comm]
def setF (f : Nat → Int) (x y : Nat) : Nat → Int := updI f y (orB (f y) x)
def offF (f : Nat → Int) (x y : Nat) : Nat → Int := updI f y (offB (f y) x)
theorem setF_MB {f : Nat → Int} (hf : MB f) (x y : Nat) : MB (setF f x y) := fun i hi => by
  unfold setF updI
  split
  · exact u16_hi _ _ _
  · exact hf i hi
theorem offF_MB {f : Nat → Int} (hf : MB f) (x y : Nat) : MB (offF f x y) := fun i hi => by
  unfold offF updI
  split
  · exact u16_hi _ _ _
  · exact hf i hi
theorem hasF_set {f : Nat → Int} (hf : MB f) {x y : Nat} (hx : x < 16) (hy : y < 16) (u v : Nat) : hasF (setF f x y) u v = (hasF f u v || (decide (u = x) && decide (v = y))) := by
  unfold hasF setF updI
  by_cases h : v = y
  · subst h; rw [if_pos rfl, orB_bit (hf v hy) hx]; simp
  · rw [if_neg h]; simp [h]
theorem hasF_off {f : Nat → Int} (hf : MB f) {x y : Nat} (hx : x < 16) (hy : y < 16) (u v : Nat) (hu : u < 16) : hasF (offF f x y) u v = (hasF f u v && !(decide (u = x) && decide (v = y))) := by
  unfold hasF offF updI
  by_cases h : v = y
  · subst h; rw [if_pos rfl, offB_bit (hf v hy) hx u hu]; simp
  · rw [if_neg h]; simp [h]
/-- a cell set, or not -/
def withF (f : Nat → Int) (x y : Nat) (on : Bool) : Nat → Int := if on then setF (offF f x y) x y else offF f x y
theorem withF_MB {f : Nat → Int} (hf : MB f) (x y : Nat) (on : Bool) : MB (withF f x y on) := by
  unfold withF
  split
  · exact setF_MB (offF_MB hf _ _) _ _
  · exact offF_MB hf _ _
theorem hasF_with {f : Nat → Int} (hf : MB f) {x y : Nat} (hx : x < 16) (hy : y < 16) (on : Bool) (u v : Nat) (hu : u < 16) : hasF (withF f x y on) u v = if u = x ∧ v = y then on else hasF f u v := by
  unfold withF
  cases on
  · rw [if_neg (by simp), hasF_off hf hx hy _ _ hu]
    by_cases h1 : u = x <;> by_cases h2 : v = y <;> simp [h1, h2]
  · rw [if_pos rfl, hasF_set (offF_MB hf _ _) hx hy, hasF_off hf hx hy _ _ hu]
    by_cases h1 : u = x <;> by_cases h2 : v = y <;> simp [h1, h2]
theorem zero_MB : MB zI := fun _ _ => by simp [zI]
theorem hasF_zero (x y : Nat) : hasF zI x y = false := by simp [hasF, zI]
theorem MB.of_wf {f : Nat → Int} (h : ∀ i, i < 16 → (Lit.int .u16 (f i)).wf = true) : MB f := fun i hi => by
  have := h i hi
  have h2 : IntKind.u16.min ≤ f i ∧ f i ≤ IntKind.u16.max := by simpa [Lit.wf] using this
  exact h2
end Go.Proofs.Ythfmkejdpflpcaa
