/-
  PLAIN MATHEMATICS: the sign of an exact sum: limbs of 32 bits, carried and compared; the same sum in two's complement.
-/
import Derived.Test.YtgjejolfkfpobaaAdd
namespace Go.Proofs.Ytgjejolfkfpobaa.Fl
def B32 : Nat := 4294967296
theorem B32_pos : 0 < B32 := by unfold B32; omega
theorem B32_pow (i : Nat) : B32 ^ i = 2 ^ (32 * i) := by rw [Nat.pow_mul]; rfl
/-- the number whose limbs of 32 bits are g 0, .., g (n - 1) -/
def pw (g : Nat → Nat) : Nat → Nat
  | 0 => 0
  | n + 1 => pw g n + g n * B32 ^ n
theorem pw_congr {f g : Nat → Nat} : ∀ n, (∀ i, i < n → f i = g i) → pw f n = pw g n
  | 0, _ => rfl
  | n + 1, h => by
    show pw f n + f n * B32 ^ n = pw g n + g n * B32 ^ n
    rw [pw_congr n (fun i hi => h i (by omega)), h n (by omega)]
theorem pw_zero : ∀ n, pw zf n = 0
  | 0 => rfl
  | n + 1 => by
    show pw zf n + 0 * B32 ^ n = 0
    rw [pw_zero n]; omega
theorem pw_lt {g : Nat → Nat} : ∀ n, (∀ i, i < n → g i < B32) → pw g n < B32 ^ n
  | 0, _ => by show 0 < 1; omega
  | n + 1, h => by
    have h1 := pw_lt n (fun i hi => h i (by omega))
    have h2 : (g n + 1) * B32 ^ n ≤ B32 * B32 ^ n := Nat.mul_le_mul_right _ (h n (by omega))
    rw [Nat.add_mul, Nat.one_mul] at h2
    rw [Nat.pow_succ, Nat.mul_comm (B32 ^ n)]
    show pw g n + g n * B32 ^ n < _
    omega
theorem pw_upd (f : Nat → Nat) (i v : Nat) : ∀ n, i < n → pw (upd f i v) n + f i * B32 ^ i = pw f n + v * B32 ^ i
  | 0, h => absurd h (by omega)
  | n + 1, h => by
    show pw (upd f i v) n + upd f i v n * B32 ^ n + f i * B32 ^ i = pw f n + f n * B32 ^ n + v * B32 ^ i
    by_cases hn : n = i
    · subst hn
      have e : pw (upd f n v) n = pw f n := pw_congr n (fun j hj => by unfold upd; rw [if_neg (by omega)])
      have e2 : upd f n v n = v := by unfold upd; rw [if_pos rfl]
      rw [e, e2]; omega
    · have ih := pw_upd f i v n (by omega)
      have e2 : upd f i v n = f n := by unfold upd; rw [if_neg hn]
      rw [e2]; omega
theorem pw_gt {g h : Nat → Nat} (hh : ∀ i, h i < B32) (k : Nat) (hk : h k < g k) : ∀ m, (∀ j, k < j → j < k + 1 + m → g j = h j) → pw h (k + 1 + m) < pw g (k + 1 + m)
  | 0, _ => by
    show pw h k + h k * B32 ^ k < pw g k + g k * B32 ^ k
    have h1 := pw_lt k (fun i _ => hh i)
    have h2 : (h k + 1) * B32 ^ k ≤ g k * B32 ^ k := Nat.mul_le_mul_right _ hk
    rw [Nat.add_mul, Nat.one_mul] at h2
    omega
  | m + 1, he => by
    have ih := pw_gt hh k hk m (fun j h1 h2 => he j h1 (by omega))
    show pw h (k + 1 + m) + h (k + 1 + m) * B32 ^ (k + 1 + m) < pw g (k + 1 + m) + g (k + 1 + m) * B32 ^ (k + 1 + m)
    rw [he (k + 1 + m) (by omega) (by omega)]
    omega
/-- a step of the carry keeps the value -/
theorem carry_step (g : Nat → Nat) (at' n : Nat) (ha : at' < 24) :
    pw (upd g at' ((n + g at') % B32)) 24 + (n + g at') / B32 * B32 ^ (at' + 1) = pw g 24 + n * B32 ^ at' := by
  have h1 := pw_upd g at' ((n + g at') % B32) 24 ha
  have h2 : (n + g at') % B32 + B32 * ((n + g at') / B32) = n + g at' := Nat.mod_add_div _ _
  have h3 : (n + g at') / B32 * B32 ^ (at' + 1) = B32 * ((n + g at') / B32) * B32 ^ at' := by
    rw [Nat.pow_succ, Nat.mul_comm (B32 ^ at') B32, ← Nat.mul_assoc, Nat.mul_comm _ B32]
  have h4 : ((n + g at') % B32 + B32 * ((n + g at') / B32)) * B32 ^ at' = (n + g at') * B32 ^ at' := by rw [h2]
  rw [Nat.add_mul, Nat.add_mul] at h4
  rw [h3]; omega
theorem carry_in {g : Nat → Nat} {at' n : Nat} (hn : 0 < n) (h : pw g 24 + n * B32 ^ at' < B32 ^ 24) : at' < 24 := by
  rcases Nat.lt_or_ge at' 24 with h1 | h1
  · exact h1
  · exfalso
    have h2 : B32 ^ 24 ≤ B32 ^ at' := Nat.pow_le_pow_right B32_pos h1
    have h3 : 1 * B32 ^ at' ≤ n * B32 ^ at' := Nat.mul_le_mul_right _ hn
    omega
/-- the four pieces of a term -/
theorem put_pieces (n sh : Nat) (hn : n < 281474976710656) :
    (n % 16777216 * 2 ^ (sh % 32)) % B32 * B32 ^ (sh / 32) + (n % 16777216 * 2 ^ (sh % 32)) / B32 * B32 ^ (sh / 32 + 1) + (n / 16777216 * 2 ^ ((sh + 24) % 32)) % B32 * B32 ^ ((sh + 24) / 32) + (n / 16777216 * 2 ^ ((sh + 24) % 32)) / B32 * B32 ^ ((sh + 24) / 32 + 1) = n * 2 ^ sh := by
  have key : ∀ x s : Nat, (x * 2 ^ (s % 32)) % B32 * B32 ^ (s / 32) + (x * 2 ^ (s % 32)) / B32 * B32 ^ (s / 32 + 1) = x * 2 ^ s := fun x s => by
    have h2 : (x * 2 ^ (s % 32)) % B32 + B32 * ((x * 2 ^ (s % 32)) / B32) = x * 2 ^ (s % 32) := Nat.mod_add_div _ _
    rw [Nat.pow_succ, Nat.mul_comm (B32 ^ (s / 32)) B32, ← Nat.mul_assoc, ← Nat.add_mul, Nat.mul_comm _ B32, h2, B32_pow, Nat.mul_assoc, ← Nat.pow_add]
    congr 2; omega
  have k1 := key (n % 16777216) sh
  have k2 := key (n / 16777216) (sh + 24)
  have e : n / 16777216 * 2 ^ (sh + 24) = n / 16777216 * 16777216 * 2 ^ sh := by
    rw [Nat.pow_add, Nat.mul_comm (2 ^ sh), ← Nat.mul_assoc]
  have e2 : n % 16777216 + n / 16777216 * 16777216 = n := by omega
  have e3 : (n % 16777216 + n / 16777216 * 16777216) * 2 ^ sh = n * 2 ^ sh := by rw [e2]
  rw [Nat.add_mul] at e3
  omega
/-! ### the terms of a sum of products -/
def tfr (bs cs : List Nat) (i : Nat) : Nat := frac (bs[i]?.getD 0) * frac (cs[i]?.getD 0)
def tsh (bs cs : List Nat) (i : Nat) : Nat := (expo (bs[i]?.getD 0) + expo (cs[i]?.getD 0) + 298).toNat
def tsm (bs cs : List Nat) (i : Nat) : Bool := neg (bs[i]?.getD 0) == neg (cs[i]?.getD 0)
/-- the terms of one sign -/
def PS (s : Bool) (bs cs : List Nat) : Nat → Nat
  | 0 => 0
  | k + 1 => PS s bs cs k + (if tsm bs cs k = s then tfr bs cs k * 2 ^ tsh bs cs k else 0)
theorem frac_lt (a : Nat) : frac a < 16777216 := by unfold frac; split <;> omega
theorem expo_ge (a : Nat) : -149 ≤ expo a := by unfold expo; split <;> omega
theorem expo_le {a : Nat} (h : kd a < 3) : expo a ≤ 104 := by
  have h2 : sz a < 2139095040 := by
    unfold kd at h
    split at h
    · omega
    · split at h
      · omega
      · split at h
        · omega
        · split at h <;> omega
  unfold expo; split <;> omega
theorem tfr_lt (bs cs : List Nat) (i : Nat) : tfr bs cs i < 281474976710656 := by
  have h1 := frac_lt (bs[i]?.getD 0)
  have h2 := frac_lt (cs[i]?.getD 0)
  unfold tfr
  have h3 : frac (bs[i]?.getD 0) * frac (cs[i]?.getD 0) ≤ 16777215 * 16777215 := Nat.mul_le_mul (by omega) (by omega)
  omega
def AllFin (bs : List Nat) (len : Nat) : Prop := ∀ i, i < len → kd (bs[i]?.getD 0) < 3
theorem tsh_le {bs cs : List Nat} {len i : Nat} (hb : AllFin bs len) (hc : AllFin cs len) (hi : i < len) : tsh bs cs i ≤ 506 := by
  have h1 := expo_le (hb i hi)
  have h2 := expo_le (hc i hi)
  unfold tsh; omega
theorem tsh_eq (bs cs : List Nat) (i : Nat) : ((tsh bs cs i : Nat) : Int) = expo (bs[i]?.getD 0) + expo (cs[i]?.getD 0) + 298 := by
  have h1 := expo_ge (bs[i]?.getD 0)
  have h2 := expo_ge (cs[i]?.getD 0)
  unfold tsh; omega
def x48 : Nat := 48
def x506 : Nat := 506
def x342 : Nat := 342
def x554 : Nat := 554
def x562 : Nat := 562
def x904 : Nat := 904
def x1535 : Nat := 1535
def x1536 : Nat := 1536
def T554 : Nat := 2 ^ x554
theorem pow_x {a b c : Nat} (h : a + b = c) : 2 ^ a * 2 ^ b = 2 ^ c := by rw [← Nat.pow_add, h]
theorem term_le {bs cs : List Nat} {len i : Nat} (hb : AllFin bs len) (hc : AllFin cs len) (hi : i < len) : tfr bs cs i * 2 ^ tsh bs cs i ≤ T554 := by
  have h1 := tfr_lt bs cs i
  have h2 := tsh_le hb hc hi
  have h3 : 2 ^ tsh bs cs i ≤ 2 ^ x506 := Nat.pow_le_pow_right (by omega) h2
  have h5 : tfr bs cs i ≤ 2 ^ x48 := by show _ ≤ 2 ^ 48; omega
  have h4 := Nat.mul_le_mul h5 h3
  rw [pow_x (show x48 + x506 = x554 from rfl)] at h4
  exact h4
theorem PS_le {bs cs : List Nat} {len : Nat} (s : Bool) (hb : AllFin bs len) (hc : AllFin cs len) : ∀ k, k ≤ len → PS s bs cs k ≤ k * T554
  | 0, _ => by show 0 ≤ _; omega
  | k + 1, h => by
    have ih := PS_le s hb hc k (by omega)
    have ht := term_le hb hc (show k < len by omega)
    show PS s bs cs k + (if tsm bs cs k = s then tfr bs cs k * 2 ^ tsh bs cs k else 0) ≤ (k + 1) * T554
    rw [Nat.add_mul, Nat.one_mul]
    split <;> omega
theorem PS_lt {bs cs : List Nat} {len k : Nat} (s : Bool) (hb : AllFin bs len) (hc : AllFin cs len) (hl : len ≤ 256) (h : k ≤ len) : PS s bs cs k ≤ 2 ^ x562 := by
  have h1 := PS_le s hb hc k h
  have h2 : k * T554 ≤ 2 ^ 8 * T554 := Nat.mul_le_mul_right _ (by omega)
  have h3 : 2 ^ 8 * T554 = 2 ^ x562 := by unfold T554; exact pow_x (show 8 + x554 = x562 by decide)
  rw [h3] at h2
  exact Nat.le_trans h1 h2
/-! ### two's complement -/
theorem sum_plus {N V M P t : Nat} (h : (V + M) % N = P % N) : ((V + t) % N + M) % N = (P + t) % N := by
  rw [Nat.mod_add_mod, show V + t + M = (V + M) + t from by omega, ← Nat.mod_add_mod, h, Nat.mod_add_mod]
theorem sum_minus {N V M P t : Nat} (ht : t ≤ N) (h : (V + M) % N = P % N) : ((V + (N - t)) % N + (M + t)) % N = P % N := by
  rw [Nat.mod_add_mod, show V + (N - t) + (M + t) = (V + M) + N from by omega, Nat.add_mod_right, h]
theorem sign_of {N H V M P : Nat} (hN : N = 2 * H) (hV : V < N) (hM : M < H) (hP : P < H) (h : (V + M) % N = P % N) : (V = 0 ↔ P = M) ∧ (H ≤ V ↔ P < M) := by
  rw [Nat.mod_eq_of_lt (show P < N by omega)] at h
  rcases Nat.lt_or_ge (V + M) N with h1 | h1
  · rw [Nat.mod_eq_of_lt h1] at h
    omega
  · rw [Nat.mod_eq_sub_mod h1, Nat.mod_eq_of_lt (by omega)] at h
    omega
def H1535 : Nat := 9223372036854775808 * B64 ^ 23
theorem N_eq : B64 ^ 24 = 2 * H1535 := by unfold H1535; rw [Nat.pow_succ, Nat.mul_comm, ← Nat.mul_assoc]; rfl
theorem top_limb {f : Nat → Nat} (hf : ∀ i, f i < B64) : 9223372036854775808 ≤ f 23 ↔ H1535 ≤ pv f 24 := by
  have h1 := pv_lt 23 (fun i _ => hf i)
  have e : pv f 24 = pv f 23 + f 23 * B64 ^ 23 := rfl
  constructor
  · intro h
    have h2 : 9223372036854775808 * B64 ^ 23 ≤ f 23 * B64 ^ 23 := Nat.mul_le_mul_right _ h
    unfold H1535; omega
  · intro h
    rcases Nat.lt_or_ge (f 23) 9223372036854775808 with h3 | h3
    · exfalso
      have h2 : (f 23 + 1) * B64 ^ 23 ≤ 9223372036854775808 * B64 ^ 23 := Nat.mul_le_mul_right _ h3
      rw [Nat.add_mul, Nat.one_mul] at h2
      unfold H1535 at h; omega
    · exact h3
def S342 : Nat := 2 ^ x342
/-- the program's limbs stand for the sum so far -/
def Sum2 (bs cs : List Nat) (k : Nat) (f : Nat → Nat) : Prop := (∀ i, f i < B64) ∧ (pv f 24 + PS false bs cs k * S342) % B64 ^ 24 = (PS true bs cs k * S342) % B64 ^ 24
theorem Sum2.zero (bs cs : List Nat) : Sum2 bs cs 0 zf := ⟨fun _ => B64_pos, by
  rw [show pv zf 24 = 0 from pv_zero 24, show PS false bs cs 0 = 0 from rfl, show PS true bs cs 0 = 0 from rfl, Nat.zero_mul]⟩
theorem term_342 (bs cs : List Nat) (k : Nat) : tfr bs cs k * 2 ^ (tsh bs cs k + 342) = tfr bs cs k * 2 ^ tsh bs cs k * S342 := by
  rw [show tsh bs cs k + 342 = tsh bs cs k + x342 from rfl, Nat.pow_add, ← Nat.mul_assoc, S342]
theorem Sum2.plus {bs cs : List Nat} {k : Nat} {f : Nat → Nat} (h : Sum2 bs cs k f) (hs : tsm bs cs k = true) (hp : tsh bs cs k ≤ 506) : Sum2 bs cs (k + 1) (mix f (termF (tfr bs cs k) (tsh bs cs k + 342)) 24) := by
  have hfr := tfr_lt bs cs k
  have hT : ∀ i, termF (tfr bs cs k) (tsh bs cs k + 342) i < B64 := fun i => termF_lt (by omega) i
  refine ⟨fun i => ?_, ?_⟩
  · unfold mix
    split
    · exact sm_lt _ _ _
    · exact h.1 i
  · have e1 : pv (mix f (termF (tfr bs cs k) (tsh bs cs k + 342)) 24) 24 = pv (sm f (termF (tfr bs cs k) (tsh bs cs k + 342))) 24 := pv_congr 24 fun i hi => by unfold mix; rw [if_pos hi]
    have e2 : PS false bs cs (k + 1) = PS false bs cs k := by show PS false bs cs k + _ = _; rw [hs]; rfl
    have e3 : PS true bs cs (k + 1) = PS true bs cs k + tfr bs cs k * 2 ^ tsh bs cs k := by show PS true bs cs k + _ = _; rw [hs]; rfl
    rw [e1, pv_sum, pv_term (by omega), e2, e3, Nat.add_mul, term_342]
    exact sum_plus h.2
theorem B64_24 : B64 ^ 24 = 2 ^ x1536 := by rw [B64_pow, show 64 * 24 = x1536 from by decide]
theorem Sum2.minus {bs cs : List Nat} {k : Nat} {f : Nat → Nat} (h : Sum2 bs cs k f) (hs : tsm bs cs k = false) (hp : tsh bs cs k ≤ 506) : Sum2 bs cs (k + 1) (mixd f (termF (tfr bs cs k) (tsh bs cs k + 342)) 24) := by
  have hfr := tfr_lt bs cs k
  have hT : ∀ i, termF (tfr bs cs k) (tsh bs cs k + 342) i < B64 := fun i => termF_lt (by omega) i
  refine ⟨fun i => ?_, ?_⟩
  · unfold mixd
    split
    · exact df_lt h.1 _
    · exact h.1 i
  · have e1 : pv (mixd f (termF (tfr bs cs k) (tsh bs cs k + 342)) 24) 24 = pv (df f (termF (tfr bs cs k) (tsh bs cs k + 342))) 24 := pv_congr 24 fun i hi => by unfold mixd; rw [if_pos hi]
    have e2 : PS true bs cs (k + 1) = PS true bs cs k := by show PS true bs cs k + _ = _; rw [hs]; rfl
    have e3 : PS false bs cs (k + 1) = PS false bs cs k + tfr bs cs k * 2 ^ tsh bs cs k := by show PS false bs cs k + _ = _; rw [hs]; rfl
    have ht : tfr bs cs k * 2 ^ (tsh bs cs k + 342) ≤ B64 ^ 24 := by
      have h1 := pv_lt 24 (fun i _ => hT i)
      rw [pv_term (by omega)] at h1
      omega
    rw [e1, pv_diff h.1 hT, pv_term (by omega), e2, e3, Nat.add_mul, ← term_342]
    exact sum_minus ht h.2
theorem Sum2.sign {bs cs : List Nat} {len : Nat} {f : Nat → Nat} (h : Sum2 bs cs len f) (hb : AllFin bs len) (hc : AllFin cs len) (hl : len ≤ 256) :
    (pv f 24 = 0 ↔ PS true bs cs len = PS false bs cs len) ∧ (9223372036854775808 ≤ f 23 ↔ PS true bs cs len < PS false bs cs len) := by
  have hp := PS_lt true hb hc hl (Nat.le_refl _)
  have hm := PS_lt false hb hc hl (Nat.le_refl _)
  have hS : 0 < S342 := Nat.two_pow_pos _
  have bound : ∀ x, x ≤ 2 ^ x562 → x * S342 < H1535 := fun x hx => by
    have h1 : x * S342 ≤ 2 ^ x562 * 2 ^ x342 := Nat.mul_le_mul hx (Nat.le_refl _)
    rw [pow_x (show x562 + x342 = x904 from rfl)] at h1
    have h2 : H1535 = 2 ^ x1535 := by
      have e := N_eq
      rw [B64_24, ← pow_x (show x1535 + 1 = x1536 from rfl)] at e
      generalize 2 ^ x1535 = q at e ⊢
      omega
    have h3 : 2 ^ x904 < 2 ^ x1535 := Nat.pow_lt_pow_right (by omega) (by unfold x904 x1535; omega)
    rw [h2]
    exact Nat.lt_of_le_of_lt h1 h3
  have key := sign_of N_eq (pv_lt 24 (fun i _ => h.1 i)) (bound _ hm) (bound _ hp) h.2
  refine ⟨⟨fun hz => ?_, fun he => ?_⟩, ?_⟩
  · exact Nat.eq_of_mul_eq_mul_right hS (key.1.1 hz)
  · exact key.1.2 (by rw [he])
  · rw [top_limb h.1]
    constructor
    · intro hz; exact Nat.lt_of_mul_lt_mul_right (key.2.1 hz)
    · intro hz; exact key.2.2 (Nat.mul_lt_mul_of_pos_right hz hS)
/-- the sign of two sums held against each other -/
def sg (x y : Nat) : Int := if x = y then 0 else if x < y then -1 else 1
end Go.Proofs.Ytgjejolfkfpobaa.Fl
