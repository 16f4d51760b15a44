/-
  PLAIN MATHEMATICS OF COUNTED WORDS: the choices of a number and its word; the next word has the next number.
-/
import Derived.Test.YtdcphheeapmjcaaSra
import Derived.Test.YtdcphheeapmjcaaInw
import Derived.Test.YtdcphheeapmjcaaIcw
import Derived.Test.YtdcphheeapmjcaaIrk
namespace Go.Proofs.Ytdcphheeapmjcaa
open Go.ChangeShapes Go.WideShapes Go.ChangeAt Go.RowKit
open Wd
/-- choices in their range -/
def InR (g : Int) (f : Nat → Int) (n : Nat) : Prop := ∀ i, i < n → 0 ≤ f i ∧ f i < chN g i
/-- the number that choices tell -/
def hF (g : Int) (f : Nat → Int) : Nat → Int
  | 0 => 0
  | i + 1 => hF g f i * chN g i + f i
theorem ways_chN (g : Int) (k : Nat) : ways g false (k + 1) = ways g false k * chN g k := ways_step g k
theorem hF_bound {g : Int} (h1 : 1 ≤ g) (h2 : g ≤ 4) {f : Nat → Int} {n : Nat} (h : InR g f n) : 0 ≤ hF g f n ∧ hF g f n < ways g false n := by
  induction n with
  | zero => simp [hF, ways]
  | succ n ih =>
    obtain ⟨a, b⟩ := ih (fun i hi => h i (by omega))
    obtain ⟨c, d⟩ := h n (by omega)
    have hc := (chN_pos h1 h2 n).1
    rw [ways_chN]
    show 0 ≤ hF g f n * chN g n + f n ∧ hF g f n * chN g n + f n < _
    have e1 := Int.mul_nonneg a (show 0 ≤ chN g n by omega)
    have e2 : (hF g f n + 1) * chN g n ≤ ways g false n * chN g n := Int.mul_le_mul_of_nonneg_right (by omega) (by omega)
    rw [Int.add_mul, Int.one_mul] at e2
    omega
theorem hF_unique {g : Int} (h1 : 1 ≤ g) (h2 : g ≤ 4) {f f' : Nat → Int} {n : Nat} (h : InR g f n) (h' : InR g f' n) (e : hF g f n = hF g f' n) : ∀ i, i < n → f i = f' i := by
  induction n with
  | zero => intro i hi; omega
  | succ n ih =>
    obtain ⟨a, b⟩ := h n (by omega)
    obtain ⟨a', b'⟩ := h' n (by omega)
    have hc := (chN_pos h1 h2 n).1
    have e0 : hF g f n * chN g n + f n = hF g f' n * chN g n + f' n := e
    have m1 : (hF g f n * chN g n + f n) % chN g n = f n := by rw [Int.add_comm, Int.add_mul_emod_self_right, Int.emod_eq_of_lt a b]
    have m2 : (hF g f' n * chN g n + f' n) % chN g n = f' n := by rw [Int.add_comm, Int.add_mul_emod_self_right, Int.emod_eq_of_lt a' b']
    have ef : f n = f' n := by rw [← m1, ← m2, e0]
    have eh : hF g f n = hF g f' n := by
      rw [ef] at e0
      have := (Int.add_left_inj _).1 e0
      exact Int.eq_of_mul_eq_mul_right (by omega) this
    intro i hi
    by_cases hin : i < n
    · exact ih (fun i hi => h i (by omega)) (fun i hi => h' i (by omega)) eh i hin
    · rw [show i = n by omega]; exact ef
theorem atF_inR {g k : Int} (h1 : 1 ≤ g) (h2 : g ≤ 4) (n : Nat) : InR g (atF g n k) n := by
  intro i hi
  have hc := (chN_pos h1 h2 i).1
  exact ⟨Int.emod_nonneg _ (by omega), Int.emod_lt_of_pos _ (by omega)⟩
theorem hF_atF {g k : Int} (h1 : 1 ≤ g) (h2 : g ≤ 4) {n : Nat} (hk0 : 0 ≤ k) (hk : k < ways g false n) : hF g (atF g n k) n = k := by
  have H : ∀ i, i < n → hF g (atF g n k) (i + 1) = k / ways g true (n - 1 - i) := by
    intro i
    induction i with
    | zero =>
      intro hi
      obtain ⟨m, rfl⟩ : ∃ m, n = m + 1 := ⟨n - 1, by omega⟩
      show 0 * chN g 0 + k / ways g true (m + 1 - 1 - 0) % chN g 0 = _
      rw [Int.zero_mul, Int.zero_add]
      rw [ways_false] at hk
      have hw := (ways_pos h1 h2 true m).1
      rw [show m + 1 - 1 - 0 = m by omega, show chN g 0 = 2 * g by simp [chN]]
      exact Int.emod_eq_of_lt (Int.ediv_nonneg hk0 (by omega)) (Int.ediv_lt_of_lt_mul (by omega) (by rw [Int.mul_comm]; exact hk))
    | succ i ih =>
      intro hi
      show hF g (atF g n k) (i + 1) * chN g (i + 1) + k / ways g true (n - 1 - (i + 1)) % chN g (i + 1) = _
      rw [ih (by omega), show n - 1 - i = (n - 1 - (i + 1)) + 1 by omega, ways_true', show chN g (i + 1) = 2 * g - 1 by simp [chN], ← Int.ediv_ediv_of_nonneg (by have := (ways_pos h1 h2 true (n - 1 - (i + 1))).1; omega)]
      exact Int.ediv_mul_add_emod _ _
  cases n with
  | zero => simp [hF, ways] at *; omega
  | succ m =>
    rw [H m (by omega), show m + 1 - 1 - m = 0 by omega]
    simp [ways]
/-- the choices behind those of a number are those of the next one -/
theorem next_atF {g k : Int} (h1 : 1 ≤ g) (h2 : g ≤ 4) {n n' : Nat} {f₀ f' : Nat → Int} (hr : InR g f₀ n) (hv : hF g f₀ n = k) (h : NextCh g n f₀ n' f') :
    (k + 1 < ways g false n ∧ n' = n ∧ ∀ i, i < n → f' i = atF g n (k + 1) i) ∨ (k + 1 = ways g false n ∧ n' = n + 1 ∧ ∀ i, i < n + 1 → f' i = atF g (n + 1) 0 i) := by
  rcases h with ⟨j, hj, hlt, ha, rfl, rfl⟩ | ⟨ha, rfl, rfl⟩
  · left
    have hr' : InR g (fun i => if i < j then f₀ i else if i = j then f₀ j + 1 else 0) n' := by
      intro i hi
      have := hr i hi
      have hc := (chN_pos h1 h2 i).1
      show 0 ≤ (if i < j then f₀ i else if i = j then f₀ j + 1 else 0) ∧ (if i < j then f₀ i else if i = j then f₀ j + 1 else 0) < chN g i
      by_cases a : i < j
      · rw [if_pos a]; exact this
      · by_cases b : i = j
        · subst b; rw [if_neg a, if_pos rfl]; omega
        · rw [if_neg a, if_neg b]; omega
    have lo : ∀ i, i ≤ j → hF g (fun i => if i < j then f₀ i else if i = j then f₀ j + 1 else 0) i = hF g f₀ i := by
      intro i
      induction i with
      | zero => intro _; rfl
      | succ i ih =>
        intro hi
        show hF g _ i * chN g i + (if i < j then f₀ i else if i = j then f₀ j + 1 else 0) = hF g f₀ i * chN g i + f₀ i
        rw [ih (by omega), if_pos (by omega)]
    have hi : ∀ i, j < i → i ≤ n' → hF g (fun i => if i < j then f₀ i else if i = j then f₀ j + 1 else 0) i = hF g f₀ i + 1 := by
      intro i
      induction i with
      | zero => intro h _; omega
      | succ i ih =>
        intro h1' h2'
        show hF g _ i * chN g i + (if i < j then f₀ i else if i = j then f₀ j + 1 else 0) = hF g f₀ i * chN g i + f₀ i + 1
        by_cases e : i = j
        · subst e
          rw [lo i (Nat.le_refl _), if_neg (by omega), if_pos rfl]; omega
        · rw [ih (by omega) (by omega), if_neg (by omega), if_neg e, Int.add_mul, Int.one_mul]
          have := ha i (by omega) (by omega)
          have := (hr i (by omega)).2
          omega
    have e := hi n' hj (Nat.le_refl _)
    rw [hv] at e
    have hb := hF_bound h1 h2 hr'
    rw [e] at hb
    refine ⟨hb.2, rfl, ?_⟩
    exact hF_unique h1 h2 hr' (atF_inR h1 h2 n') (by rw [e, hF_atF h1 h2 hb.1 hb.2])
  · right
    have H : ∀ i, i ≤ n → hF g f₀ i + 1 = ways g false i := by
      intro i
      induction i with
      | zero => intro _; simp [hF, ways]
      | succ i ih =>
        intro hi
        rw [ways_chN, ← ih (by omega), Int.add_mul, Int.one_mul]
        show hF g f₀ i * chN g i + f₀ i + 1 = _
        have := ha i (by omega)
        have := (hr i (by omega)).2
        omega
    refine ⟨by rw [← hv]; exact H n (Nat.le_refl _), rfl, fun i hi => ?_⟩
    show (0 : Int) = 0 / _ % _
    simp
theorem ofNum_ne {f : Nat → Int} {n k : Nat} (h : OkCh f n) (hk : k + 1 < n) (p : UInt8) (hp : (ofL f (k + 1)).getLast? = some p) : lnum (oth p) ≠ ofNum (ofL f (k + 1)) (f (k + 1)) := by
  unfold ofNum
  rw [hp]
  simp only
  split <;> omega
theorem ofL_last {f : Nat → Int} {k : Nat} : (ofL f (k + 1)).getLast? = some (chr (ofNum (ofL f k) (f k)).toNat) := by
  show (ofL f k ++ [_]).getLast? = _
  simp
theorem ofL_take (f : Nat → Int) (n i : Nat) (h : i ≤ n) : (ofL f n).take i = ofL f i := by
  induction n with
  | zero => rw [show i = 0 by omega]; simp [ofL]
  | succ n ih =>
    by_cases e : i = n + 1
    · subst e; rw [List.take_of_length_le (by rw [ofL_length]; exact Nat.le_refl _)]
    · show (ofL f n ++ [_]).take i = _
      rw [List.take_append_of_le_length (by rw [ofL_length]; omega)]
      exact ih (by omega)
theorem ofL_get (f : Nat → Int) (n i : Nat) (h : i < n) : (ofL f n)[i]? = some (chr (ofNum (ofL f i) (f i)).toNat) := by
  have e := ofL_take f n (i + 1) h
  have : ((ofL f n).take (i + 1))[i]? = (ofL f n)[i]? := List.getElem?_take_of_lt (by omega)
  rw [← this, e]
  show (ofL f i ++ [_])[i]? = _
  rw [List.getElem?_append_right (by rw [ofL_length]; omega), ofL_length, Nat.sub_self]
  rfl
/-- the word of choices is reduced -/
theorem ofL_red {f : Nat → Int} {n : Nat} (h : OkCh f n) : red (ofL f n) = ofL f n := by
  refine red_of_NI fun i c d hc hd e => ?_
  have hi : i + 1 < n := by
    rcases Nat.lt_or_ge (i + 1) n with h | h
    · exact h
    · rw [List.getElem?_eq_none (by rw [ofL_length]; omega)] at hd; cases hd
  rw [ofL_get f n i (by omega)] at hc
  rw [ofL_get f n (i + 1) hi] at hd
  have hc' := Option.some.inj hc
  have hd' := Option.some.inj hd
  have h1 := ofNum_ok h hi
  have hne := ofNum_ne h hi c (by rw [ofL_last, hc'])
  have hl : lnum d = ofNum (ofL f (i + 1)) (f (i + 1)) := by rw [← hd', lnum_chr (by omega)]; omega
  have hcl : isL c = true := by rw [← hc']; exact isL_chr _
  have hdl : isL d = true := by rw [← hd']; exact isL_chr _
  apply hne
  rw [← hl, e, oth_oth hdl]
/-- its choices are these -/
theorem chAt_ofL {f : Nat → Int} {n : Nat} (h : OkCh f n) (i : Nat) (hi : i < n) : chAt (ofL f n) i = f i := by
  unfold chAt
  rw [ofL_get f n i hi]
  simp only [Option.getD_some]
  have hln := lnum_new h hi
  simp only [hln]
  cases i with
  | zero => simp [ofNum, ofL]
  | succ j =>
    rw [Nat.add_sub_cancel, ofL_get f n j (by omega)]
    simp only [Option.getD_some]
    obtain ⟨p, hp⟩ : ∃ p, chr (ofNum (ofL f j) (f j)).toNat = p := ⟨_, rfl⟩
    have e : ofNum (ofL f (j + 1)) (f (j + 1)) = if lnum (oth p) ≤ f (j + 1) then f (j + 1) + 1 else f (j + 1) := by
      unfold ofNum; rw [ofL_last]; simp only [hp]
    rw [hp, e]
    simp only [show 0 < j + 1 by omega, true_and]
    by_cases h1 : lnum (oth p) ≤ f (j + 1)
    · rw [if_pos h1, if_pos (by omega)]; omega
    · rw [if_neg h1, if_neg (by omega)]; omega
theorem hor_hF (g : Int) {f : Nat → Int} {n : Nat} (h : OkCh f n) (i : Nat) (hi : i ≤ n) : hor g (ofL f n) i = hF g f i := by
  induction i with
  | zero => rfl
  | succ i ih =>
    unfold hor hF
    rw [ih (by omega), chAt_ofL h i (by omega)]
    rfl
theorem ofL_gens {g : Int} (h1 : 1 ≤ g) (h2 : g ≤ 4) {f : Nat → Int} {n : Nat} (h : OkCh f n) (hr : InR g f n) : gensB g (ofL f n) = true := by
  unfold gensB
  rw [List.all_eq_true]
  intro c hc
  obtain ⟨i, hi, rfl⟩ := List.getElem_of_mem hc
  rw [ofL_length] at hi
  have e := ofL_get f n i hi
  rw [List.getElem?_eq_getElem (by rw [ofL_length]; exact hi)] at e
  rw [Option.some.inj e, lnum_new h hi]
  refine decide_eq_true ?_
  have hf := (hr i hi).2
  unfold ofNum
  cases hl : (ofL f i).getLast? with
  | none => unfold chN at hf; simp only; split at hf <;> omega
  | some p =>
    have hi0 : i ≠ 0 := by rintro rfl; simp [ofL] at hl
    unfold chN at hf
    rw [if_neg hi0] at hf
    simp only
    split <;> omega
/-- the word of a number: it is a word of these letters, reduced, and has this number -/
theorem word_at {g k : Int} (h1 : 1 ≤ g) (h2 : g ≤ 4) {n : Nat} (hn : n ≤ 12) (hk0 : 0 ≤ k) (hk : k < ways g false n) :
    givenC g (ofL (atF g n k) n) = 0 ∧ rankR g (ofL (atF g n k) n) = k ∧ rankC g (ofL (atF g n k) n) = 0 := by
  have ok := atF_ok (k := k) h1 h2 n
  have hL := ofL_letters (atF g n k) n
  have hw : wordB (ofL (atF g n k) n) = true := by
    unfold wordB lets
    rw [Bool.and_eq_true, List.all_eq_true]
    exact ⟨hL, by rw [ofL_length]; simp; omega⟩
  have hg : givenC g (ofL (atF g n k) n) = 0 := by
    unfold givenC
    rw [if_pos hw, if_pos ⟨h1, h2⟩, if_pos (ofL_gens h1 h2 ok (atF_inR h1 h2 n)), if_pos (ofL_red ok)]
  refine ⟨hg, ?_, ?_⟩
  · unfold rankR
    rw [if_pos hg, if_pos (by rw [ofL_length]; exact hn), ← hor_all g _ hL, hor_hF g ok _ (by rw [ofL_length]; exact Nat.le_refl _), ofL_length, hF_atF h1 h2 hk0 hk]
  · unfold rankC
    rw [if_pos hg, if_pos (by rw [ofL_length]; exact hn)]
/-- of two words that part at a place, the one with the smaller choice comes first -/
theorem cmpL_append {T a b : List UInt8} : cmpL (T ++ a) (T ++ b) = cmpL a b := by
  induction T with
  | nil => rfl
  | cons c r ih => simp [cmpL, ih]
theorem cmpL_lt {T a b : List UInt8} {c d : UInt8} (h : lnum c < lnum d) : cmpL (T ++ c :: a) (T ++ d :: b) = -1 := by
  rw [cmpL_append]
  unfold cmpL
  rw [if_neg (by rintro rfl; omega), if_pos h]
theorem next_cmp {g : Int} (h2 : g ≤ 4) {n n' : Nat} {f₀ f' : Nat → Int} (ho : OkCh f₀ n) (h : NextCh g n f₀ n' f') : cmpW (ofL f₀ n) (ofL f' n') = -1 := by
  have hok := (h.ok h2 ho).1
  rcases h with ⟨j, hj, hlt, ha, rfl, rfl⟩ | ⟨ha, rfl, rfl⟩
  · unfold cmpW
    rw [if_pos (by rw [ofL_length, ofL_length])]
    have hsplit : ∀ f : Nat → Int, ofL f n' = ofL f j ++ chr (ofNum (ofL f j) (f j)).toNat :: (ofL f n').drop (j + 1) := fun f => by
      have e1 := List.take_append_drop (j + 1) (ofL f n')
      rw [ofL_take f n' (j + 1) (by omega)] at e1
      conv => lhs; rw [← e1]
      show (ofL f j ++ [_]) ++ _ = _
      simp
    have e0 : ofL (fun i => if i < j then f₀ i else if i = j then f₀ j + 1 else 0) j = ofL f₀ j := ofL_congr' fun i hi => if_pos hi
    rw [hsplit f₀, hsplit (fun i => if i < j then f₀ i else if i = j then f₀ j + 1 else 0), e0]
    refine cmpL_lt ?_
    have a1 := ofNum_ok ho hj
    have a2 := ofNum_ok hok hj
    rw [e0] at a2
    simp only [Nat.lt_irrefl, if_false, if_true] at a2 ⊢
    rw [lnum_chr (by omega), lnum_chr (by omega)]
    have : ofNum (ofL f₀ j) (f₀ j) < ofNum (ofL f₀ j) (f₀ j + 1) := by
      unfold ofNum
      cases (ofL f₀ j).getLast? with
      | none => simp only; omega
      | some p => simp only; split <;> split <;> omega
    omega
  · unfold cmpW
    rw [if_neg (by rw [ofL_length, ofL_length]; omega), if_pos (by rw [ofL_length, ofL_length]; omega)]
theorem NextCh.congr {g : Int} {m n : Nat} {f₀ f₁ f : Nat → Int} (he : ∀ i, i < m → f₀ i = f₁ i) (h : NextCh g m f₀ n f) : ∃ f2, NextCh g m f₁ n f2 ∧ ∀ i, i < n → f i = f2 i := by
  rcases h with ⟨j, hj, hlt, ha, rfl, rfl⟩ | ⟨ha, rfl, rfl⟩
  · refine ⟨_, .inl ⟨j, hj, by rw [← he j hj]; exact hlt, fun i a b => by rw [← he i b]; exact ha i a b, rfl, rfl⟩, fun i hi => ?_⟩
    show (if i < j then f₀ i else if i = j then f₀ j + 1 else 0) = (if i < j then f₁ i else if i = j then f₁ j + 1 else 0)
    rw [he i hi, he j hj]
  · exact ⟨_, .inr ⟨fun i hi => by rw [← he i hi]; exact ha i hi, rfl, rfl⟩, fun _ _ => rfl⟩
theorem okch_red2 {l : List UInt8} (hl : ∀ c ∈ l, isL c = true) (hr : red l = l) : OkCh (chAt l) l.length := by
  intro k hk
  obtain ⟨a, b⟩ := chAt_nonneg l hl k
  refine ⟨a, b, fun h0 => ?_⟩
  have hn : NI l := by have := NI_red l; rwa [hr] at this
  obtain ⟨j, rfl⟩ : ∃ j, k = j + 1 := ⟨k - 1, by omega⟩
  have e1 : l[j]? = some l[j] := List.getElem?_eq_getElem (by omega)
  have e2 : l[j + 1]? = some l[j + 1] := List.getElem?_eq_getElem hk
  have hne := hn j _ _ e1 e2
  have i1 := hl _ (List.getElem_mem (show j < l.length by omega))
  have i2 := hl _ (List.getElem_mem hk)
  unfold chAt
  rw [Nat.add_sub_cancel, e1, e2]
  simp only [Option.getD_some]
  obtain ⟨c1, c2⟩ := lnum_yes i2
  obtain ⟨d1, d2⟩ := lnum_yes (oth_isL i1)
  have h7 : lnum (oth l[j]) ≠ lnum l[j + 1] := fun e => hne (by rw [← lnum_inj (oth_isL i1) i2 e, oth_oth i1])
  split
  · omega
  · rename_i hx
    have : ¬ lnum (oth l[j]) < lnum l[j + 1] := fun h => hx ⟨by omega, h⟩
    omega
end Go.Proofs.Ytdcphheeapmjcaa
