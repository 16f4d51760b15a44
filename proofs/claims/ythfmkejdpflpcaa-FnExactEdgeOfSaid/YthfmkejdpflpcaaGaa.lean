/-
  SEVERAL TEXTS IN ONE: XArr,XMb,XMh,XMl,XPar,XDb,XKm,XMa
-/
import Derived.WalkKit
import Derived.ProofKit
import Derived.OpenShut
import Derived.WalkLawsBesides
import Derived.ChangeShapes
import Derived.Below
import Derived.Lib.Hide
import Derived.Laws.BitsAllLaws
import Derived.Laws.Closers25b
import Derived.Test.YthfmkejdpflpcaaChecked
import Derived.Outline
import Derived.LoopTactic
import Derived.Deep.QuietTactic
import Derived.BigQuiet
import Derived.Laws.Rows
import Derived.Laws.ResultCell
import Derived.RegionTactic
import Derived.Lib.Builder
import Derived.Deep.OwnRows
import Derived.RangeFuncRecord
import Derived.BigRegion
import Derived.Shelf.Abstract
import Derived.TacticsInMore
import Derived.LoopIn
import Derived.StillTailTactics
import Derived.Laws.CopyOwn
import Derived.Laws.Tables
import Derived.WideShapes
import Derived.Deep.Slices
import Derived.ChangeOld
import Derived.Carry
import Derived.Maps.Own
import Derived.Maps.OwnSet
import Derived.DeepKeys4
import Derived.Maps.Views
/-
  ARRAYS OF INTEGERS (no program in sight): n cells of one kind, as a function of the index; one that came in, opened and shut.
-/
namespace Go.Proofs.Ythfmkejdpflpcaa
open Go.ChangeShapes Go.WideShapes Go.ChangeAt Go.RowKit
/-- n integers in a block -/
def arr (k : IntKind) (n : Nat) (f : Nat → Int) : Array Value := ((List.range n).map fun i => Value.int k (f i)).toArray
theorem arr_size (k : IntKind) (n : Nat) (f : Nat → Int) : (arr k n f).size = n := by simp [arr]
theorem arr_get (k : IntKind) (n : Nat) (f : Nat → Int) (i : Nat) (h : i < n) : (arr k n f)[i]? = some (.int k (f i)) := by simp [arr, h]
theorem arr_none (k : IntKind) (n : Nat) (f : Nat → Int) (i : Nat) (h : n ≤ i) : (arr k n f)[i]? = none := Array.getElem?_eq_none (by rw [arr_size]; exact h)
theorem arr_congr {k : IntKind} {n : Nat} {f g : Nat → Int} (h : ∀ i, i < n → f i = g i) : arr k n f = arr k n g := by
  unfold arr
  congr 1
  refine List.map_congr_left fun i hi => ?_
  rw [h i (by simpa using hi)]
/-- one of them turned -/
def updI (f : Nat → Int) (i : Nat) (v : Int) : Nat → Int := fun j => if j = i then v else f j
theorem arr_set (k : IntKind) (n : Nat) (f : Nat → Int) (i : Nat) (v : Int) (h : i < n) : (arr k n f).setIfInBounds i (.int k v) = arr k n (updI f i v) := by
  apply Array.ext_getElem?
  intro j
  rw [Array.getElem?_setIfInBounds]
  by_cases hj : j < n
  · rw [arr_get k n (updI f i v) j hj]
    by_cases hk : i = j
    · subst hk
      rw [if_pos rfl, if_pos (by rw [arr_size]; exact h)]
      simp [updI]
    · rw [if_neg hk, arr_get k n f j hj]
      have hne : j ≠ i := fun h => hk h.symm
      simp [updI, hne]
  · rw [arr_none k n (updI f i v) j (by omega)]
    by_cases hk : i = j
    · omega
    · rw [if_neg hk, arr_none k n f j (by omega)]
theorem arr_cells (k : IntKind) (n : Nat) (f : Nat → Int) : (arr k n f).all (·.oneCell') = true := by
  rw [Array.all_eq_true]
  intro i hi
  have hn : i < n := by rw [arr_size] at hi; exact hi
  have h := arr_get k n f i hn
  rw [Array.getElem?_eq_getElem hi] at h
  rw [Option.some.inj h]; rfl
/-- the first m are those of another array -/
def mixI (f g : Nat → Int) (m : Nat) : Nat → Int := fun j => if j < m then g j else f j
theorem mixI_zero (f g : Nat → Int) : mixI f g 0 = f := by funext j; simp [mixI]
theorem mixI_step (f g : Nat → Int) (m : Nat) : updI (mixI f g m) m (g m) = mixI f g (m + 1) := by
  funext j
  unfold updI mixI
  by_cases h : j = m
  · subst h; rw [if_pos rfl, if_pos (by omega)]
  · by_cases h2 : j < m
    · rw [if_neg h, if_pos h2, if_pos (by omega)]
    · rw [if_neg h, if_neg h2, if_neg (by omega)]
theorem mixI_at (f g : Nat → Int) (m : Nat) : mixI f g m m = f m := by unfold mixI; rw [if_neg (by omega)]
theorem arr_mix (k : IntKind) (n : Nat) (f g : Nat → Int) : arr k n (mixI f g n) = arr k n g := arr_congr fun i hi => by unfold mixI; rw [if_pos hi]
def zI : Nat → Int := fun _ => 0

/-- THE DATUM of an array of integers -/
def arrD {H : Type} (k : IntKind) (n : Nat) (f : Nat → Int) : DataW H := .agg ((List.range n).map fun i => .lit (.int k (f i)))
section
variable {H : Type} {enc : TypeId × Value → H} {P : Program} {w : World} {base : Nat} {spare : Nat → Bool} {held : Bool}
theorem mapM_of_get {α β : Type} (F : α → Option β) (L : List α) (ys : List β) (h : ∀ i (hi : i < L.length), F L[i] = ys[i]?) (hl : ys.length = L.length) : L.mapM F = some ys := by
  induction L generalizing ys with
  | nil => cases ys with
    | nil => rfl
    | cons y r => simp at hl
  | cons a r ih =>
    cases ys with
    | nil => simp at hl
    | cons y q =>
      rw [List.mapM_cons]
      have h0 := h 0 (by simp)
      simp at h0
      rw [h0]
      have := ih q (fun i hi => by have := h (i + 1) (by simp; omega); simpa using this) (by simpa using hl)
      simp [this]
/-- AN ARRAY OF INTEGERS THAT CAME IN, OPENED. -/
theorem open_arrI {r : Reach} {b0 n : Nat} {t e : TypeId} {k : IntKind} {v : Value} {d : DataW H} {ps : List MemPlace} (ht : P.underlying t = some (.array n e)) (he : P.underlying e = some (.int k)) (hc : P.cellsOf e = 1) (hn : P.cellsOf t = n)
    (hval : Value.okWide P w r b0 t v) (hd : DataW.Trod enc P w base spare held t v d ps) :
    ∃ f : Nat → Int, v = .agg (arr k n f) ∧ d = arrD k n f ∧ ps = [] ∧ ∀ i, i < n → (Lit.int k (f i)).wf = true := by
  obtain ⟨cs, rfl, hsz⟩ : ∃ cs : Array Value, v = .agg cs ∧ cs.size = n := by
    simp only [Value.okWide, ht] at hval
    obtain ⟨cs, h1, h2, _⟩ := hval
    exact ⟨cs, h1, by rw [h2, hn]⟩
  obtain ⟨fuel, hf⟩ := hd
  obtain ⟨xs, m, rfl, hx, hlen, hl, hel⟩ := DataW.trod_array ht hf
  rw [hc] at hel
  simp only [Value.cells] at hel hlen
  have each : ∀ i, i < n → ∃ a : Int, cs[i]? = some (.int k a) ∧ xs[i]? = some (.lit (.int k a), []) ∧ (Lit.int k a).wf = true := by
    intro i hi
    have h := hel i hi
    obtain ⟨y, hy⟩ : ∃ y, xs[i]? = some y := ⟨xs[i]'(by omega), by rw [List.getElem?_eq_getElem (by omega)]⟩
    rw [hy] at h
    obtain ⟨a, ea, rfl, wa⟩ := DataW.trod_int he h
    refine ⟨a, ?_, hy, wa⟩
    have h0 : (List.take 1 (List.drop (i * 1) cs.toList))[0]? = some (.int k a) := by rw [ea]; rfl
    rw [Nat.mul_one, List.getElem?_take, if_pos (by omega), List.getElem?_drop] at h0
    simpa using h0
  let f : Nat → Int := fun i => match cs[i]? with | some (.int _ a) => a | _ => 0
  have hfi : ∀ i, i < n → cs[i]? = some (.int k (f i)) ∧ xs[i]? = some (.lit (.int k (f i)), []) ∧ (Lit.int k (f i)).wf = true := by
    intro i hi
    obtain ⟨a, h1, h2, h3⟩ := each i hi
    have : f i = a := by show (match cs[i]? with | some (.int _ a) => a | _ => 0) = a; rw [h1]
    rw [this]; exact ⟨h1, h2, h3⟩
  refine ⟨f, ?_, ?_, ?_, fun i hi => (hfi i hi).2.2⟩
  · congr 1
    apply Array.ext_getElem?
    intro i
    by_cases hi : i < n
    · rw [(hfi i hi).1, arr_get k n f i hi]
    · rw [arr_none k n f i (by omega), Array.getElem?_eq_none (by omega)]
  · simp only [Prod.mk.injEq] at hx
    rw [hx.1]
    unfold arrD
    congr 1
    apply List.ext_getElem?
    intro i
    by_cases hi : i < n
    · simp [(hfi i hi).2.1, hi]
    · simp [hi, hl]
  · simp only [Prod.mk.injEq] at hx
    rw [hx.2, List.flatMap_eq_nil_iff]
    intro y hy
    obtain ⟨i, hi, rfl⟩ := List.getElem_of_mem hy
    have := (hfi i (by omega)).2.1
    rw [List.getElem?_eq_getElem hi] at this
    rw [Option.some.inj this]
/-- SHUT AGAIN. -/
theorem shut_arrI {n : Nat} {t e : TypeId} {k : IntKind} {f : Nat → Int} (ht : P.underlying t = some (.array n e)) (he : P.underlying e = some (.int k)) (hc : P.cellsOf e = 1) (hn : P.cellsOf t = n)
    (hw : ∀ i, i < n → (Lit.int k (f i)).wf = true) : DataW.Trod enc P w base spare held t (.agg (arr k n f)) (arrD k n f) [] := by
  refine ⟨2, ?_⟩
  unfold DataW.trod
  simp only [ht, Value.cells]
  rw [if_pos (by rw [hn]; simpa using arr_size k n f)]
  rw [mapM_of_get _ _ ((List.range n).map fun i => ((.lit (.int k (f i)) : DataW H), ([] : List MemPlace)))]
  · simp [arrD, Function.comp_def]
  · intro i hi
    have hi' : i < n := by simpa using hi
    simp only [List.getElem_range, hc, Nat.mul_one]
    have h1 : List.take 1 (List.drop i (arr k n f).toList) = [.int k (f i)] := by
      have hg := arr_get k n f i hi'
      have hs : i < (arr k n f).toList.length := by simpa [arr_size] using hi'
      rw [List.drop_eq_getElem_cons hs]
      simp at hg ⊢
      have := Array.getElem?_eq_some_iff.1 hg
      obtain ⟨_, h⟩ := this
      rw [h]
    rw [h1]
    simp [DataW.trod, he, hw i hi', hi']
  · simp
end
/-- 'a[i]' of an array by value -/
theorem run_index_arr {P : Program} {t e : TypeId} {n : Nat} {q : IntKind} (k : IntKind) (f : Nat → Int) (i : Nat) (ht : P.underlying t = some (.array n e)) (he : P.underlying e = some (.int q)) (hs : (P.info? e).map (·.size) = some 1) (hi : i < n) (w : World) :
    (Instr.index t (.agg (arr q n f)) (.int k (i : Int))).run P w = .ok (.int q (f i)) w := by
  have hc := arr_get q n f i hi
  have hz : (sizeOf e).run P w = .ok 1 w := by
    unfold sizeOf typeInfo
    cases hq : P.info? e with
    | none => simp [hq] at hs
    | some x => simp [hq] at hs ⊢; exact hs
  have hag : (isAgg e).run P w = .ok false w := by
    unfold isAgg
    rw [Sem.run_bind, run_underlying he w]; rfl
  have h1 : (0 : Int) ≤ i ∧ (i : Int) < n := by omega
  have h2 : ¬ n ≤ i := by omega
  simp [Instr.index, run_underlying ht, asIntOf, h1, h2, hi, hz, part, hag, hc, go_sem]
/-! ### arrays held equal -/
theorem forIn_allI {P : Program} {w : World} {σ : Type} (b : Nat → σ → Sem (ForInStep σ)) (s0 sF : σ) (c : Nat → Bool) :
    ∀ l : List Nat, (∀ i, i ∈ l → (b i s0).run P w = .ok (if c i then .yield s0 else .done sF) w) → (forIn l s0 b).run P w = .ok (if l.all c then s0 else sF) w
  | [], _ => rfl
  | i :: r, h => by
    rw [List.forIn_cons, Sem.run_bind, h i (by simp), Result.andThen_ok]
    cases hc : c i
    · simp [hc]
    · have ih := forIn_allI b s0 sF c r (fun j hj => h j (by simp [hj]))
      simp only [List.all_cons, hc, Bool.true_and, if_true]
      exact ih
theorem eqArrI {P : Program} {t e : TypeId} {n : Nat} {q : IntKind} (f g : Nat → Int) (ht : P.underlying t = some (.array n e)) (he : P.underlying e = some (.int q)) (hs : (P.info? e).map (·.size) = some 1) (w : World) :
    (Op.equalIn 10000 t (.agg (arr q n f)) (.agg (arr q n g))).run P w = .ok ((List.range n).all fun i => f i == g i) w := by
  have hz : ∀ w, (sizeOf e).run P w = .ok 1 w := fun w => by
    unfold sizeOf typeInfo
    cases hq : P.info? e with
    | none => simp [hq] at hs
    | some x => simp [hq] at hs ⊢; exact hs
  have hag : ∀ w, (isAgg e).run P w = .ok false w := fun w => by
    unfold isAgg
    rw [Sem.run_bind, run_underlying he w]; rfl
  rw [show (10000 : Nat) = 9999 + 1 from rfl, Op.equalIn]
  simp only [Sem.run_bind, run_underlying ht, Result.andThen_ok]
  simp only [Std.Legacy.Range.forIn_eq_forIn_range', Std.Legacy.Range.size, Nat.sub_zero, Nat.add_sub_cancel, Nat.div_one]
  rw [hz, Result.andThen_ok]
  rw [forIn_allI _ (none, ()) (some false, ()) (fun i => f i == g i)]
  · rw [← List.range_eq_range']
    cases (List.range n).all fun i => f i == g i <;> rfl
  · intro i hi
    have hn : i < n := by
      have := List.mem_range'.1 hi
      omega
    have c1 := arr_get q n f i hn
    have c2 := arr_get q n g i hn
    clear hi
    go_simp
    by_cases h : f i = g i
    · simp [h]
    · rw [if_neg h]; simp [h]
end Go.Proofs.Ythfmkejdpflpcaa
/-
  MASKS: 16 rows of 16 bits (no program in sight): which cells are set; one cell set, or taken away.
-/
namespace Go.Proofs.Ythfmkejdpflpcaa
/-- rows of 16 bits -/
def MB (f : Nat → Int) : Prop := ∀ y, y < 16 → 0 ≤ f y ∧ f y ≤ 65535
/-- is the cell (x, y) set? -/
def hasF (f : Nat → Int) (x y : Nat) : Bool := (f y).toNat.testBit x
theorem row_ext {a b : Int} (ha : 0 ≤ a ∧ a ≤ 65535) (hb : 0 ≤ b ∧ b ≤ 65535) (h : ∀ x, x < 16 → a.toNat.testBit x = b.toNat.testBit x) : a = b := by
  have e : a.toNat = b.toNat := by
    refine Nat.eq_of_testBit_eq fun i => ?_
    by_cases hi : i < 16
    · exact h i hi
    · rw [Nat.testBit_lt_two_pow (x := a.toNat), Nat.testBit_lt_two_pow (x := b.toNat)]
      · have : 2 ^ 16 ≤ 2 ^ i := Nat.pow_le_pow_right (by omega) (by omega)
        omega
      · have : 2 ^ 16 ≤ 2 ^ i := Nat.pow_le_pow_right (by omega) (by omega)
        omega
  omega
/-- masks with the same cells are one -/
theorem mask_ext {f g : Nat → Int} (hf : MB f) (hg : MB g) (h : ∀ x y, x < 16 → y < 16 → hasF f x y = hasF g x y) : arr .u16 16 f = arr .u16 16 g :=
  arr_congr fun y hy => row_ext (hf y hy) (hg y hy) fun x hx => h x y hx hy
theorem pow16 {x : Nat} (h : x < 16) : (2 : Int) ^ x % 65536 = 2 ^ x := by
  have h2 : (2 : Nat) ^ x ≤ 2 ^ 15 := Nat.pow_le_pow_right (by omega) (by omega)
  have e : (2 : Int) ^ x = ((2 ^ x : Nat) : Int) := by push_cast; rfl
  rw [e]
  generalize 2 ^ x = q at h2 ⊢
  omega
theorem pow16_nat {x : Nat} (h : x < 16) : (2 : Nat) ^ x < 65536 := by
  have h2 : (2 : Nat) ^ x ≤ 2 ^ 15 := Nat.pow_le_pow_right (by omega) (by omega)
  omega
theorem pow16_int (x : Nat) : (2 : Int) ^ x = ((2 ^ x : Nat) : Int) := by push_cast; rfl
theorem shr_bit {v : Int} (hv : 0 ≤ v ∧ v ≤ 65535) (x : Nat) : bits .and .u16 (v / 2 ^ x) 1 = if v.toNat.testBit x then 1 else 0 := by
  obtain ⟨n, rfl⟩ : ∃ n : Nat, v = n := ⟨v.toNat, by omega⟩
  have hd := Nat.div_le_self n (2 ^ x)
  have e : (n : Int) / 2 ^ x = ((n / 2 ^ x : Nat) : Int) := by push_cast; rfl
  rw [e, show (1 : Int) = ((1 : Nat) : Int) from rfl, u16_and_nat _ _ (by omega) (by omega), Int.toNat_natCast, Nat.testBit_eq_decide_div_mod_eq, Nat.and_one_is_mod]
  have h2 := Nat.mod_two_eq_zero_or_one (n / 2 ^ x)
  rcases h2 with h | h <;> simp [h]
theorem shr_lo {v : Int} (hv : 0 ≤ v ∧ v ≤ 65535) (x : Nat) : 0 ≤ v / 2 ^ x ∧ v / 2 ^ x ≤ 65535 := by
  obtain ⟨n, rfl⟩ : ∃ n : Nat, v = n := ⟨v.toNat, by omega⟩
  have hd := Nat.div_le_self n (2 ^ x)
  have e : (n : Int) / 2 ^ x = ((n / 2 ^ x : Nat) : Int) := by push_cast; rfl
  rw [e]
  generalize n / 2 ^ x = q at hd ⊢
  omega
/-- a bit laid, and one taken away -/
def orB (v : Int) (x : Nat) : Int := bits .or .u16 v (2 ^ x)
def offB (v : Int) (x : Nat) : Int := bits .andNot .u16 v (2 ^ x)
theorem u16_hi (op : BinOp) (a b : Int) : 0 ≤ bits op .u16 a b ∧ bits op .u16 a b ≤ 65535 := by
  have := bits_within op .u16 a b
  exact this
theorem orB_bit {v : Int} (hv : 0 ≤ v ∧ v ≤ 65535) {x : Nat} (hx : x < 16) (u : Nat) : (orB v x).toNat.testBit u = (v.toNat.testBit u || decide (u = x)) := by
  obtain ⟨n, rfl⟩ : ∃ n : Nat, v = n := ⟨v.toNat, by omega⟩
  unfold orB
  rw [pow16_int, u16_or_nat _ _ (by omega) (pow16_nat hx), Int.toNat_natCast, Int.toNat_natCast, Nat.testBit_or, Nat.testBit_two_pow]
  congr 1
  rw [Bool.eq_iff_iff]; simp [eq_comm]
theorem offB_bit {v : Int} (hv : 0 ≤ v ∧ v ≤ 65535) {x : Nat} (hx : x < 16) (u : Nat) (hu : u < 16) : (offB v x).toNat.testBit u = (v.toNat.testBit u && !decide (u = x)) := by
  obtain ⟨n, rfl⟩ : ∃ n : Nat, v = n := ⟨v.toNat, by omega⟩
  unfold offB
  rw [pow16_int, u16_andNot_nat _ _ (by omega) (pow16_nat hx), Int.toNat_natCast, Int.toNat_natCast, Nat.testBit_and]
  congr 1
  have e : 65535 - 2 ^ x = 2 ^ 16 - (2 ^ x + 1) := by omega
  rw [e, Nat.testBit_two_pow_sub_succ (pow16_nat hx), Nat.testBit_two_pow]
  simp only [hu, decide_true, Bool.true_and]
  congr 1
  rw [Bool.eq_iff_iff]; simp [eq_comm]
def setF (f : Nat → Int) (x y : Nat) : Nat → Int := updI f y (orB (f y) x)
def offF (f : Nat → Int) (x y : Nat) : Nat → Int := updI f y (offB (f y) x)
theorem setF_MB {f : Nat → Int} (hf : MB f) (x y : Nat) : MB (setF f x y) := fun i hi => by
  unfold setF updI
  split
  · exact u16_hi _ _ _
  · exact hf i hi
theorem offF_MB {f : Nat → Int} (hf : MB f) (x y : Nat) : MB (offF f x y) := fun i hi => by
  unfold offF updI
  split
  · exact u16_hi _ _ _
  · exact hf i hi
theorem hasF_set {f : Nat → Int} (hf : MB f) {x y : Nat} (hx : x < 16) (hy : y < 16) (u v : Nat) : hasF (setF f x y) u v = (hasF f u v || (decide (u = x) && decide (v = y))) := by
  unfold hasF setF updI
  by_cases h : v = y
  · subst h; rw [if_pos rfl, orB_bit (hf v hy) hx]; simp
  · rw [if_neg h]; simp [h]
theorem hasF_off {f : Nat → Int} (hf : MB f) {x y : Nat} (hx : x < 16) (hy : y < 16) (u v : Nat) (hu : u < 16) : hasF (offF f x y) u v = (hasF f u v && !(decide (u = x) && decide (v = y))) := by
  unfold hasF offF updI
  by_cases h : v = y
  · subst h; rw [if_pos rfl, offB_bit (hf v hy) hx u hu]; simp
  · rw [if_neg h]; simp [h]
/-- a cell set, or not -/
def withF (f : Nat → Int) (x y : Nat) (on : Bool) : Nat → Int := if on then setF (offF f x y) x y else offF f x y
theorem withF_MB {f : Nat → Int} (hf : MB f) (x y : Nat) (on : Bool) : MB (withF f x y on) := by
  unfold withF
  split
  · exact setF_MB (offF_MB hf _ _) _ _
  · exact offF_MB hf _ _
theorem hasF_with {f : Nat → Int} (hf : MB f) {x y : Nat} (hx : x < 16) (hy : y < 16) (on : Bool) (u v : Nat) (hu : u < 16) : hasF (withF f x y on) u v = if u = x ∧ v = y then on else hasF f u v := by
  unfold withF
  cases on
  · rw [if_neg (by simp), hasF_off hf hx hy _ _ hu]
    by_cases h1 : u = x <;> by_cases h2 : v = y <;> simp [h1, h2]
  · rw [if_pos rfl, hasF_set (offF_MB hf _ _) hx hy, hasF_off hf hx hy _ _ hu]
    by_cases h1 : u = x <;> by_cases h2 : v = y <;> simp [h1, h2]
theorem zero_MB : MB zI := fun _ _ => by simp [zI]
theorem hasF_zero (x y : Nat) : hasF zI x y = false := by simp [hasF, zI]
theorem MB.of_wf {f : Nat → Int} (h : ∀ i, i < 16 → (Lit.int .u16 (f i)).wf = true) : MB f := fun i hi => by
  have := h i hi
  have h2 : IntKind.u16.min ≤ f i ∧ f i ≤ IntKind.u16.max := by simpa [Lit.wf] using this
  exact h2
end Go.Proofs.Ythfmkejdpflpcaa
/-
  CONTRACTS: masks by value: is a cell set, a cell set or not.
-/
namespace Go.Proofs.Ythfmkejdpflpcaa
open Go.ChangeShapes Go.WideShapes Go.ChangeAt Go.RowKit
theorem mret_bool {a b : Bool} (h : a = b) : Ending.returned (.bool a) = .returned (.bool b) := by rw [h]
theorem mret_int {k : IntKind} {a b : Int} (h : a = b) : Ending.returned (.int k a) = .returned (.int k b) := by rw [h]
abbrev M16 (f : Nat → Int) : Array Value := arr .u16 16 f
theorem mask_info (A : Array Value) (h : A.size = 16) : (Try.prog.info? 71).map (·.size) = some A.size := by rw [h]; kernel_rfl
theorem a16_info (A : Array Value) (h : A.size = 16) : (Try.prog.info? 70).map (·.size) = some A.size := by rw [h]; kernel_rfl
theorem mset_at {w : World} {g : Nat} {A : Array Value} {t : TypeId} (h : w.heap[g]? = some (.cells A t (0, 0))) (x : Nat) (v : Value) : (w.setCell ⟨g, x, none⟩ v).heap[g]? = some (.cells (A.setIfInBounds x v) t (0, 0)) := by
  simp [World.setCell, Array.getElem?_modify, h]
theorem mset_far {w : World} {g k x : Nat} (h : k ≠ g) (v : Value) : (w.setCell ⟨g, x, none⟩ v).heap[k]? = w.heap[k]? := Below.heap_setCell _ _ _ _ h
theorem mbelow_setRow {w W : World} {B g : Nat} {A : Array Value} (h : Below B w W) (hg : B ≤ g) : Below B w (W.setRow g A) := below_setRow h hg _
theorem shl1 {x : Nat} (h : x < 16) : IntKind.u16.wrap (2 ^ x) = 2 ^ x := by rw [IntKind.wrap_u16, pow16 h]
/-- are a column and a row those of a cell of a mask? -/
def inB (x y : Int) : Bool := decide (0 ≤ x) && decide (x < 16) && decide (0 ≤ y) && decide (y < 16)
theorem inB_nat {x y : Int} (h : inB x y = true) : ∃ a b : Nat, x = a ∧ y = b ∧ a < 16 ∧ b < 16 := by
  simp [inB] at h
  exact ⟨x.toNat, y.toNat, by omega, by omega, by omega, by omega⟩
set_option maxRecDepth 20000 in
theorem mhas_any (f : Nat → Int) (hf : MB f) (x y : Nat) (hx : x < 16) (hy : y < 16) (w : World) :
    Calls Try.prog 114 #[.agg (M16 f), .int .i64 (x : Int), .int .i64 (y : Int)] w fun e w' => e = .returned (.bool (hasF f x y)) ∧ w' = w.alloc (.cells (M16 f) 71) := by
  have hv := hf y hy
  have HS : Hid (bits .and .u16 (f y / 2 ^ x) 1 = if (f y).toNat.testBit x then 1 else 0) := Lib.hid (shr_bit hv x)
  obtain ⟨v0, v1⟩ := hv
  have hc : (w.alloc (.cells (M16 f) 71)).cell? ⟨w.heap.size, y, none⟩ = some (.int .u16 (f y)) := (Lib.cell_of_heap (World.alloc_heap_new w _) y).trans (arr_get _ _ _ _ hy)
  have hx' : (x : Int) ≤ 16 := by omega
  have hy' : (y : Int) < 16 := by omega
  clear hf
  unfold hasF
  generalize f y = v at hc v0 v1 HS ⊢
  go_enter Try.func114, Try.ntmps114
  go_wp2
  go_ret
  exact ⟨mret_bool (by rw [HS.out]; cases v.toNat.testBit x <;> rfl), rfl⟩
set_option maxRecDepth 100000 in
set_option maxHeartbeats 4000000 in
theorem mwith_any (f : Nat → Int) (hf : MB f) (x y : Nat) (hx : x < 16) (hy : y < 16) (on : Bool) (w : World) :
    Calls Try.prog 132 #[.agg (M16 f), .int .i64 (x : Int), .int .i64 (y : Int), .bool on] w fun e w' => e = .returned (.agg (M16 (withF f x y on))) ∧ Below w.heap.size w w' := by
  have Z : M16 zI = #[Value.int .u16 0, Value.int .u16 0, Value.int .u16 0, Value.int .u16 0, Value.int .u16 0, Value.int .u16 0, Value.int .u16 0, Value.int .u16 0, Value.int .u16 0, Value.int .u16 0, Value.int .u16 0, Value.int .u16 0, Value.int .u16 0, Value.int .u16 0, Value.int .u16 0, Value.int .u16 0] := rfl
  have S1 : ((w.alloc (.cells (M16 f) 71)).alloc (.cells (M16 zI) 71)).heap[w.heap.size + 1]? = some (.cells (M16 zI) 71 (0, 0)) := by
    have := World.alloc_heap_new (w.alloc (.cells (M16 f) 71)) (.cells (M16 zI) 71)
    rw [World.size_alloc] at this
    exact this
  have S0 : ((w.alloc (.cells (M16 f) 71)).alloc (.cells (M16 zI) 71)).heap[w.heap.size]? = some (.cells (M16 f) 71 (0, 0)) := (Below.heap_alloc _ _ _ (by simp)).trans (World.alloc_heap_new w _)
  have SB : Below w.heap.size w ((w.alloc (.cells (M16 f) 71)).alloc (.cells (M16 zI) 71)) := ((Below.refl _ w).alloc (Nat.le_refl _) _).alloc (by simp) _
  have H1 := Lib.hid S1
  have H0 := Lib.hid S0
  have HB := Lib.hid SB
  clear S1 S0 SB
  rw [Z] at H1 H0 HB
  clear Z
  have hx' : (x : Int) ≤ 16 := by omega
  have hy' : (y : Int) < 16 := by omega
  have W1 := shl1 hx
  have F1 : Hid (offB (f y) x = offF f x y y) := Lib.hid (by unfold offF updI; rw [if_pos rfl])
  have hcy : ((w.alloc (.cells (M16 f) 71)).alloc (.cells #[Value.int .u16 0, Value.int .u16 0, Value.int .u16 0, Value.int .u16 0, Value.int .u16 0, Value.int .u16 0, Value.int .u16 0, Value.int .u16 0, Value.int .u16 0, Value.int .u16 0, Value.int .u16 0, Value.int .u16 0, Value.int .u16 0, Value.int .u16 0, Value.int .u16 0, Value.int .u16 0] 71)).cell? ⟨w.heap.size, y, none⟩ = some (.int .u16 (f y)) := (Lib.cell_of_heap H0.out y).trans (arr_get _ _ _ _ hy)
  have hfy : ((w.alloc (.cells (M16 f) 71)).alloc (.cells #[Value.int .u16 0, Value.int .u16 0, Value.int .u16 0, Value.int .u16 0, Value.int .u16 0, Value.int .u16 0, Value.int .u16 0, Value.int .u16 0, Value.int .u16 0, Value.int .u16 0, Value.int .u16 0, Value.int .u16 0, Value.int .u16 0, Value.int .u16 0, Value.int .u16 0, Value.int .u16 0] 71)).frozen? ⟨w.heap.size, y, none⟩ = false := Lib.frozen_of_heap H0.out y
  clear hf
  have HY := Lib.hid hy
  cases on
  all_goals
    go_enter Try.func132, Try.ntmps132
    go_wp2
    generalize (w.alloc (.cells (M16 f) 71)).alloc (.cells #[Value.int .u16 0, Value.int .u16 0, Value.int .u16 0, Value.int .u16 0, Value.int .u16 0, Value.int .u16 0, Value.int .u16 0, Value.int .u16 0, Value.int .u16 0, Value.int .u16 0, Value.int .u16 0, Value.int .u16 0, Value.int .u16 0, Value.int .u16 0, Value.int .u16 0, Value.int .u16 0] 71) = w1 at H1 H0 HB hcy hfy ⊢
    go_still_tail 7, (by kernel_rfl)
    change wpList _ _ _ _ _ w1.drew
    obtain ⟨W2, hW2⟩ : ∃ W2, w1.drew.setCell ⟨w.heap.size, y, none⟩ (.int .u16 (offB (f y) x)) = W2 := ⟨_, rfl⟩
    have hW2' : w1.drew.setCell ⟨w.heap.size, y, none⟩ (.int .u16 (bits .andNot .u16 (f y) (2 ^ x))) = W2 := hW2
    have K1 : Hid (W2.heap[w.heap.size + 1]? = some (.cells #[Value.int .u16 0, Value.int .u16 0, Value.int .u16 0, Value.int .u16 0, Value.int .u16 0, Value.int .u16 0, Value.int .u16 0, Value.int .u16 0, Value.int .u16 0, Value.int .u16 0, Value.int .u16 0, Value.int .u16 0, Value.int .u16 0, Value.int .u16 0, Value.int .u16 0, Value.int .u16 0] 71 (0, 0))) := Lib.hid (by rw [← hW2, mset_far (by omega)]; exact H1.out)
    have K0 : Hid (W2.heap[w.heap.size]? = some (.cells (M16 (offF f x y)) 71 (0, 0))) := Lib.hid (by rw [← hW2, mset_at (w := w1.drew) H0.out, arr_set _ _ _ _ _ HY.out]; rfl)
    have KB : Hid (Below w.heap.size w W2) := Lib.hid (by rw [← hW2]; exact HB.out.drew.setCell (p := ⟨w.heap.size, y, none⟩) (by simp) _)
    have hc2 : W2.cell? ⟨w.heap.size, y, none⟩ = some (.int .u16 (offF f x y y)) := (Lib.cell_of_heap K0.out y).trans (arr_get _ _ _ _ HY.out)
    have hf2 : W2.frozen? ⟨w.heap.size, y, none⟩ = false := Lib.frozen_of_heap K0.out y
    clear hW2
  · go_wp2_with (first | (refine wpList_load_row rfl 71 _ rfl w.heap.size rfl 71 _ _ _ K0.out Try.underlying71 rfl (mask_info _ (arr_size _ _ _)) ?_) | (refine wpList_store_row rfl 71 _ _ rfl (w.heap.size + 1) (M16 (offF f x y)) rfl rfl 71 _ K1.out (mask_info _ rfl) rfl (arr_cells _ _ _) ?_))
    refine bodyPost_ret (v := .agg (M16 (offF f x y))) ?_ rfl ⟨rfl, ?_⟩
    · exact results_cell_row Try.results132 _ _ (w.heap.size + 1) _ _ _ _ rfl (setRow_heap _ _ _ _ _ _ K1.out) Try.underlying71 rfl (mask_info _ (arr_size _ _ _))
    · exact below_setRow KB.out (by omega) _
  · go_wp2_with fail
    go_still_tail 7, (by kernel_rfl)
    change wpList _ _ _ _ _ W2.drew
    obtain ⟨W3, hW3⟩ : ∃ W3, W2.drew.setCell ⟨w.heap.size, y, none⟩ (.int .u16 (orB (offF f x y y) x)) = W3 := ⟨_, rfl⟩
    have hW3' : W2.drew.setCell ⟨w.heap.size, y, none⟩ (.int .u16 (bits .or .u16 (offF f x y y) (2 ^ x))) = W3 := hW3
    have L1 : Hid (W3.heap[w.heap.size + 1]? = some (.cells #[Value.int .u16 0, Value.int .u16 0, Value.int .u16 0, Value.int .u16 0, Value.int .u16 0, Value.int .u16 0, Value.int .u16 0, Value.int .u16 0, Value.int .u16 0, Value.int .u16 0, Value.int .u16 0, Value.int .u16 0, Value.int .u16 0, Value.int .u16 0, Value.int .u16 0, Value.int .u16 0] 71 (0, 0))) := Lib.hid (by rw [← hW3, mset_far (by omega)]; exact K1.out)
    have L0 : Hid (W3.heap[w.heap.size]? = some (.cells (M16 (withF f x y true)) 71 (0, 0))) := Lib.hid (by rw [← hW3, mset_at (w := W2.drew) K0.out, arr_set _ _ _ _ _ HY.out]; rfl)
    have LB : Hid (Below w.heap.size w W3) := Lib.hid (by rw [← hW3]; exact KB.out.drew.setCell (p := ⟨w.heap.size, y, none⟩) (by simp) _)
    clear hW3
    go_wp2_with (first | (refine wpList_load_row rfl 71 _ rfl w.heap.size rfl 71 _ _ _ L0.out Try.underlying71 rfl (mask_info _ (arr_size _ _ _)) ?_) | (refine wpList_store_row rfl 71 _ _ rfl (w.heap.size + 1) (M16 (withF f x y true)) rfl rfl 71 _ L1.out (mask_info _ rfl) rfl (arr_cells _ _ _) ?_))
    refine bodyPost_ret (v := .agg (M16 (withF f x y true))) ?_ rfl ⟨rfl, ?_⟩
    · exact results_cell_row Try.results132 _ _ (w.heap.size + 1) _ _ _ _ rfl (setRow_heap _ _ _ _ _ _ L1.out) Try.underlying71 rfl (mask_info _ (arr_size _ _ _))
    · exact below_setRow LB.out (by omega) _
end Go.Proofs.Ythfmkejdpflpcaa
/-
  HOW THE LAWS TAKE MASKS and hold them against each other.
-/
namespace Go.Proofs.Ythfmkejdpflpcaa
open Go.ChangeShapes Go.WideShapes Go.ChangeAt Go.RowKit
theorem mdrewN {B : Nat} {w w' : World} (h : Below B w w') (n : Nat) : Below B w (w'.drewN n) := h.trans ⟨rfl, rfl, rfl, Nat.le_refl _, fun _ _ => rfl⟩
set_option maxRecDepth 20000 in
set_option maxHeartbeats 2000000 in
theorem toMask_any (f : Nat → Int) (w : World) :
    Calls Try.prog 107 #[.agg (M16 f)] w fun e w' => e = .returned (.agg (M16 f)) ∧ Below w.heap.size w w' := by
  have S0 : (((w.alloc (.cells (M16 f) 70)).alloc (.cells (M16 zI) 71)).alloc (.cells (M16 zI) 71)).heap[w.heap.size]? = some (.cells (M16 f) 70 (0, 0)) := ((Below.heap_alloc _ _ _ (by simp; omega)).trans (Below.heap_alloc _ _ _ (by simp))).trans (World.alloc_heap_new w _)
  have S1 : (((w.alloc (.cells (M16 f) 70)).alloc (.cells (M16 zI) 71)).alloc (.cells (M16 zI) 71)).heap[w.heap.size + 1]? = some (.cells (M16 zI) 71 (0, 0)) := by
    refine (Below.heap_alloc _ _ _ (by simp)).trans ?_
    have := World.alloc_heap_new (w.alloc (.cells (M16 f) 70)) (.cells (M16 zI) 71)
    rw [World.size_alloc] at this
    exact this
  have S2 : (((w.alloc (.cells (M16 f) 70)).alloc (.cells (M16 zI) 71)).alloc (.cells (M16 zI) 71)).heap[w.heap.size + 1 + 1]? = some (.cells (M16 zI) 71 (0, 0)) := by
    have := World.alloc_heap_new ((w.alloc (.cells (M16 f) 70)).alloc (.cells (M16 zI) 71)) (.cells (M16 zI) 71)
    rw [World.size_alloc, World.size_alloc] at this
    exact this
  have SB : Below w.heap.size w (((w.alloc (.cells (M16 f) 70)).alloc (.cells (M16 zI) 71)).alloc (.cells (M16 zI) 71)) := (((Below.refl _ w).alloc (Nat.le_refl _) _).alloc (by simp) _).alloc (by simp; omega) _
  have H0 := Lib.hid S0
  have H1 := Lib.hid S1
  have H2 := Lib.hid S2
  have HB := Lib.hid SB
  clear S0 S1 S2 SB
  have Z : M16 zI = #[Value.int .u16 0, Value.int .u16 0, Value.int .u16 0, Value.int .u16 0, Value.int .u16 0, Value.int .u16 0, Value.int .u16 0, Value.int .u16 0, Value.int .u16 0, Value.int .u16 0, Value.int .u16 0, Value.int .u16 0, Value.int .u16 0, Value.int .u16 0, Value.int .u16 0, Value.int .u16 0] := rfl
  rw [Z] at H0 H1 H2 HB
  go_enter Try.func107, Try.ntmps107
  clear Z
  go_wp2
  generalize ((w.alloc (.cells (M16 f) 70)).alloc (.cells #[Value.int .u16 0, Value.int .u16 0, Value.int .u16 0, Value.int .u16 0, Value.int .u16 0, Value.int .u16 0, Value.int .u16 0, Value.int .u16 0, Value.int .u16 0, Value.int .u16 0, Value.int .u16 0, Value.int .u16 0, Value.int .u16 0, Value.int .u16 0, Value.int .u16 0, Value.int .u16 0] 71)).alloc (.cells #[Value.int .u16 0, Value.int .u16 0, Value.int .u16 0, Value.int .u16 0, Value.int .u16 0, Value.int .u16 0, Value.int .u16 0, Value.int .u16 0, Value.int .u16 0, Value.int .u16 0, Value.int .u16 0, Value.int .u16 0, Value.int .u16 0, Value.int .u16 0, Value.int .u16 0, Value.int .u16 0] 71) = w1 at H0 H1 H2 HB ⊢
  have H2' : Hid (w1.heap[w.heap.size + 1 + 1]? = some (.cells (M16 (mixI zI f 0)) 71 (0, 0))) := Lib.hid (by rw [mixI_zero]; exact H2.out)
  clear H2
  go_loopw [4] (fun i wr => ∃ k : Nat, k ≤ 16 ∧ i = .int .i64 k ∧ wr.heap[w.heap.size + 1 + 1]? = some (.cells (M16 (mixI zI f k)) 71 (0, 0)) ∧ wr.heap[w.heap.size]? = some (.cells (M16 f) 70 (0, 0)) ∧ wr.heap[w.heap.size + 1]? = some (.cells #[Value.int .u16 0, Value.int .u16 0, Value.int .u16 0, Value.int .u16 0, Value.int .u16 0, Value.int .u16 0, Value.int .u16 0, Value.int .u16 0, Value.int .u16 0, Value.int .u16 0, Value.int .u16 0, Value.int .u16 0, Value.int .u16 0, Value.int .u16 0, Value.int .u16 0, Value.int .u16 0] 71 (0, 0)) ∧ Below w.heap.size w wr) (fun i _ => 16 - (intOf i).toNat)
  case atStart => exact ⟨0, Nat.zero_le _, rfl, H2'.out, H0.out, H1.out, HB.out⟩
  case round =>
    obtain ⟨k, hk, rfl, h2, h0, h1, hB⟩ := hrel
    have K2 := Lib.hid h2
    have K0 := Lib.hid h0
    have K1 := Lib.hid h1
    have KB := Lib.hid hB
    clear h2 h0 h1 hB H0 H1 H2' HB
    by_cases hlt : k < 16
    · have t1 : (k : Int) < 16 := by omega
      have HK := Lib.hid hlt
      have c0 : wr.cell? ⟨w.heap.size, k, none⟩ = some (.int .u16 (f k)) := (Lib.cell_of_heap K0.out k).trans (arr_get _ _ _ _ hlt)
      have c2 : wr.cell? ⟨w.heap.size + 1 + 1, k, none⟩ = some (.int .u16 (mixI zI f k k)) := (Lib.cell_of_heap K2.out k).trans (arr_get _ _ _ _ hlt)
      have f2 : wr.frozen? ⟨w.heap.size + 1 + 1, k, none⟩ = false := Lib.frozen_of_heap K2.out k
      generalize mixI zI f k k = v at c2
      clear hlt hk
      go_wp2
      go_roundw
      case rel => exact ⟨k + 1, by have := HK.out; omega, by go_num, by rw [mset_at K2.out, arr_set _ _ _ _ _ HK.out, mixI_step], by rw [mset_far (by omega)]; exact K0.out, by rw [mset_far (by omega)]; exact K1.out, KB.out.setCell (p := ⟨w.heap.size + 1 + 1, _, none⟩) (by simp; omega) _⟩
      case measure => have := HK.out; simp [intOf]; omega
    · obtain rfl : k = 16 := by omega
      have G2 : Hid (wr.heap[w.heap.size + 1 + 1]? = some (.cells (M16 f) 71 (0, 0))) := Lib.hid (by have := K2.out; rwa [show M16 (mixI zI f 16) = M16 f from arr_mix .u16 16 zI f] at this)
      clear K2 hk hlt
      go_wp2_with (first | (refine wpList_load_row rfl 71 _ rfl (w.heap.size + 1 + 1) rfl 71 _ _ _ G2.out Try.underlying71 rfl (mask_info _ (arr_size _ _ _)) ?_) | (refine wpList_store_row rfl 71 _ _ rfl (w.heap.size + 1) (M16 f) rfl rfl 71 _ K1.out (mask_info _ rfl) rfl (arr_cells _ _ _) ?_))
      refine bodyPost_ret (v := .agg (M16 f)) ?_ rfl ⟨rfl, ?_⟩
      · exact results_cell_row Try.results107 _ _ (w.heap.size + 1) _ _ _ _ rfl (setRow_heap _ _ _ _ _ _ K1.out) Try.underlying71 rfl (mask_info _ (arr_size _ _ _))
      · exact below_setRow KB.out (by omega) _
set_option maxRecDepth 20000 in
set_option maxHeartbeats 2000000 in
theorem eqMask_any (f g : Nat → Int) (h : M16 g = M16 f) (w : World) :
    Calls Try.prog 101 #[.agg (M16 f), .agg (M16 g)] w fun e w' => e = .returned (.bool true) ∧ Below w.heap.size w w' := by
  rw [h]
  clear h
  have R0 : Hid (((w.alloc (.cells (M16 f) 71)).alloc (.cells (M16 f) 71)).heap[w.heap.size]? = some (.cells (M16 f) 71 (0, 0))) := Lib.hid ((Below.heap_alloc _ _ _ (by simp)).trans (World.alloc_heap_new w _))
  have R1 : Hid (((w.alloc (.cells (M16 f) 71)).alloc (.cells (M16 f) 71)).heap[w.heap.size + 1]? = some (.cells (M16 f) 71 (0, 0))) := Lib.hid (by
    have := World.alloc_heap_new (w.alloc (.cells (M16 f) 71)) (.cells (M16 f) 71)
    rw [World.size_alloc] at this
    exact this)
  have BB : Hid (Below w.heap.size w ((w.alloc (.cells (M16 f) 71)).alloc (.cells (M16 f) 71))) := Lib.hid (((Below.refl _ w).alloc (Nat.le_refl _) _).alloc (by simp) _)
  go_enter Try.func101, Try.ntmps101
  go_wp2
  generalize (w.alloc (.cells (M16 f) 71)).alloc (.cells (M16 f) 71) = w1 at R0 R1 BB ⊢
  go_loopw [5] (fun i wr => ∃ k n : Nat, k ≤ 16 ∧ i = .int .i64 k ∧ wr = w1.drewN n) (fun i _ => 16 - (intOf i).toNat)
  case atStart => exact ⟨0, 0, by omega, rfl, rfl⟩
  case round =>
    obtain ⟨k, n, hk, rfl, hw⟩ := hrel
    have W := Lib.hid hw
    by_cases hlt : k < 16
    · have hlt' : (k : Int) < 16 := by omega
      have c1 : wr.cell? ⟨w.heap.size, k, none⟩ = some (.int .u16 (f k)) := by rw [hw]; exact (Lib.cell_of_heap R0.out k).trans (arr_get _ _ _ _ hlt)
      have c2 : wr.cell? ⟨w.heap.size + 1, k, none⟩ = some (.int .u16 (f k)) := by rw [hw]; exact (Lib.cell_of_heap R1.out k).trans (arr_get _ _ _ _ hlt)
      clear hw
      generalize f k = v at c1 c2
      go_wp2
      go_quiet (fail)
      go_wp2
      go_roundw
      case rel => exact ⟨k + 1, _, by omega, by go_num, by rw [W.out, World.drewN_drewN]⟩
      case measure => simp [intOf]; omega
    · obtain rfl : k = 16 := by omega
      have B : Hid (Below w.heap.size w wr) := Lib.hid (by rw [hw]; exact BB.out.trans ⟨rfl, rfl, rfl, Nat.le_refl _, fun _ _ => rfl⟩)
      clear hw W
      go_wp2
      go_ret
      exact ⟨rfl, B.out⟩
end Go.Proofs.Ythfmkejdpflpcaa
/-
  LOADS AND STORES OF A PART OF A ROW: an array or a struct that lies within a block (an element of a slice of them).
-/
namespace Go.Proofs.Ythfmkejdpflpcaa
open Go.ChangeShapes Go.WideShapes Go.ChangeAt Go.RowKit
section
variable {P : Program}
theorem run_loadVar_part (w : World) (g o : Nat) (ty : TypeId) (cs : Array Value) (d : TypeDesc) (hc : ∀ j v, cs[j]? = some v → w.cell? ⟨g, o + j, none⟩ = some v)
    (hu : P.underlying ty = some d) (hd : (match d with | .struct _ | .array _ _ => true | _ => false) = true) (hi : (P.info? ty).map (·.size) = some cs.size) :
    (loadVar ty ⟨g, o, none⟩).run P w = .ok (.agg cs) w := by
  have hl : (loadCells ⟨g, o, none⟩ cs.toList.length).run P w = .ok cs.toList.toArray w :=
    run_loadCells_list (P := P) w ⟨g, o, none⟩ cs.toList (fun j v hv => by
      rw [add_plain]
      exact hc j v (by simpa using hv))
  cases hq : P.info? ty with
  | none => simp [hq] at hi
  | some i =>
    have hs : i.size = cs.size := by simpa [hq] using hi
    have hagg : (isAgg ty).run P w = .ok true w := by
      unfold isAgg
      rw [Sem.run_bind, run_underlying hu w]
      cases d <;> simp_all
    simp only [Array.length_toList, Array.toArray_toList] at hl
    simp [loadVar, Sem.run_bind, hagg, sizeOf, typeInfo, hq, hs, hl]
theorem wpList_load_part {ops : Array Oper} {rest : List Oper} {o : Oper} {a : Act} {w : World} {Q : Exit → Act → World → Prop} (hgd : o.guard = none) (ty : TypeId) (x : Operand) (ho : o.op = .load ty x)
    (g off : Nat) (hx : a.eval x = .pointer (some ⟨g, off, none⟩)) (cs : Array Value) (d : TypeDesc) (hc : ∀ j v, cs[j]? = some v → w.cell? ⟨g, off + j, none⟩ = some v)
    (hu : P.underlying ty = some d) (hd : (match d with | .struct _ | .array _ _ => true | _ => false) = true) (hi : (P.info? ty).map (·.size) = some cs.size)
    (h : wpList P ops Q rest (a.put o.dst (.agg cs)) w) : wpList P ops Q (o :: rest) a w := by
  refine wpList_plain hgd fun K hK => ?_
  unfold Oper.wp execOp
  simp only [ho, hx, Instr.loadAt, Instr.sureAddr, Sem.run_bind, Sem.run_pure, Result.andThen_ok, run_loadVar_part w g off ty cs d hc hu hd hi]
  exact hK _ _ h
theorem setRow_self (w : World) (g : Nat) (cur : Array Value) (t : TypeId) (fr : Nat × Nat) (hg : w.heap[g]? = some (.cells cur t fr)) : w.setRow g cur = w := by
  have hlt : g < w.heap.size := (Array.getElem?_eq_some_iff.1 hg).1
  have hv : w.heap[g] = .cells cur t fr := (Array.getElem?_eq_some_iff.1 hg).2
  unfold World.setRow
  cases w with
  | mk heap tape drawn os output =>
    congr 1
    apply Array.ext
    · simp
    · intro k h1 h2
      simp only [Array.getElem_modify]
      split
      · rename_i hk; subst hk; simp at hv; simp [hv]
      · rfl
theorem run_storeCells_part (g o : Nat) (t : TypeId) : ∀ (vs : List Value) (i : Nat) (cur : Array Value) (w : World), w.heap[g]? = some (.cells cur t (0, 0)) → o + i + vs.length ≤ cur.size → (∀ v ∈ vs, v.oneCell' = true) →
    (storeCells ⟨g, o, none⟩ vs i).run P w = .ok () (w.setRow g (splice cur.toList (o + i) vs).toArray)
  | [], i, cur, w, hg, hl, _ => by
    have e : splice cur.toList (o + i) [] = cur.toList := by simp [splice]
    rw [e, Array.toArray_toList, setRow_self w g cur t _ hg]
    simp only [storeCells]
    rfl
  | v :: rest, i, cur, w, hg, hl, h1 => by
    have hi : o + i < cur.size := by simp at hl; omega
    have hcell : w.cell? ⟨g, o + i, none⟩ = some cur[o + i] := by simp [World.cell?, hg, hi]
    have hfro : w.frozen? ⟨g, o + i, none⟩ = false := by simp [World.frozen?, hg]
    have hst : (store ((⟨g, o, none⟩ : Addr).add i) v).run P w = .ok () (w.setRow g (cur.setIfInBounds (o + i) v)) := by
      rw [add_plain, run_store P w _ v _ (h1 v (by simp)), hcell]
      simp [hfro, setCell_eq_setRow w g (o + i) cur t (0, 0) v hg]
    have ih := run_storeCells_part g o t rest (i + 1) (cur.setIfInBounds (o + i) v) (w.setRow g (cur.setIfInBounds (o + i) v)) (setRow_heap w g cur _ t _ hg) (by simp at hl ⊢; omega) (fun x hx => h1 x (by simp [hx]))
    simp only [storeCells, Sem.run_bind, hst, Result.andThen_ok, ih, setRow_setRow]
    congr 3
    unfold splice
    rw [Array.toList_setIfInBounds, ← Nat.add_assoc, List.drop_set_of_lt (by omega), List.take_set, List.take_succ_eq_append_getElem (by simpa using hi), List.set_append_right _ _ (by simp; omega)]
    simp [show min (o + i) cur.size = o + i by omega, Nat.add_assoc, Nat.add_comm]
    omega
theorem run_storeVar_part (w : World) (g o : Nat) (t ty : TypeId) (old cells : Array Value) (hg : w.heap[g]? = some (.cells old t (0, 0))) (hi : (P.info? ty).map (·.size) = some cells.size)
    (ho : o + cells.size ≤ old.size) (h1 : cells.all (·.oneCell') = true) :
    (storeVar ty ⟨g, o, none⟩ (.agg cells)).run P w = .ok () (w.setRow g (splice old.toList o cells.toList).toArray) := by
  have := run_storeCells_part (P := P) g o t cells.toList 0 old w hg (by simp; omega) (fun v hv => (Array.all_eq_true_iff_forall_mem.1 h1) v (by simpa using hv))
  rw [Nat.add_zero] at this
  cases hq : P.info? ty with
  | none => simp [hq] at hi
  | some i =>
    have hs : cells.size = i.size := by simp [hq] at hi; omega
    simp [storeVar, sizeOf, typeInfo, hq, Value.cells, hs, this]
theorem wpList_store_part {ops : Array Oper} {rest : List Oper} {o : Oper} {a : Act} {w : World} {Q : Exit → Act → World → Prop} (hgd : o.guard = none) (ty : TypeId) (x y : Operand) (ho : o.op = .store ty x y)
    (g off : Nat) (cells : Array Value) (hx : a.eval x = .pointer (some ⟨g, off, none⟩)) (hy : a.eval y = .agg cells)
    (t : TypeId) (old : Array Value) (hg : w.heap[g]? = some (.cells old t (0, 0))) (hi : (P.info? ty).map (·.size) = some cells.size)
    (hold : off + cells.size ≤ old.size) (h1 : cells.all (·.oneCell') = true)
    (h : wpList P ops Q rest (a.put o.dst undef) (w.setRow g (splice old.toList off cells.toList).toArray)) : wpList P ops Q (o :: rest) a w := by
  refine wpList_plain hgd fun K hK => ?_
  unfold Oper.wp execOp
  simp only [ho, hx, hy, Instr.storeAt, Instr.sureAddr, Sem.run_bind, Sem.run_pure, Result.andThen_ok, run_storeVar_part w g off t ty old cells hg hi hold h1]
  exact hK _ _ h
end
end Go.Proofs.Ythfmkejdpflpcaa
/-
  A SLICE OF BLOCKS THAT CAME IN, OPENED.
-/
namespace Go.Proofs.Ythfmkejdpflpcaa
open Go.ChangeShapes Go.WideShapes Go.ChangeAt Go.RowKit Go.Deep
/-- a cell of a block, or of blocks in a row -/
def bcell (f : Nat → Int) (j : Nat) : Value := if j % 18 < 2 then .int .i32 (f j) else .int .u16 (f j)
/-- a slice of blocks below B -/
def BlR (B : Nat) (w : World) (a : Option Addr) (n : Nat) (f : Nat → Int) : Prop := n = 0 ∨ ∃ g off, a = some ⟨g, off, none⟩ ∧ g < B ∧ ∀ j, j < 18 * n → w.cell? ⟨g, off + j, none⟩ = some (bcell f j)
def BlF (n : Nat) (f : Nat → Int) : Prop := ∀ j, j < 18 * n → if j % 18 < 2 then -2147483648 ≤ f j ∧ f j ≤ 2147483647 else 0 ≤ f j ∧ f j ≤ 65535
theorem BlR.below {B B' : Nat} {w w' : World} {a : Option Addr} {n : Nat} {f : Nat → Int} (h : BlR B w a n f) (hb : Below B w w') (hB : B ≤ B') : BlR B' w' a n f := by
  rcases h with h | ⟨g, off, ha, hg, hc⟩
  · exact .inl h
  · exact .inr ⟨g, off, ha, by omega, fun j hj => (hb.cell (p := ⟨g, off + j, none⟩) hg).trans (hc j hj)⟩
section
variable {H : Type} {enc : TypeId × Value → H} {W : World} {base : Nat} {spare : Nat → Bool} {held : Bool}
theorem trodb_i32 {n : Nat} {v : Value} {y : DataW H × List MemPlace}
    (ht : DataW.trod enc Try.prog W base spare held n 21 [v] = some y) : ∃ c : Int, (-2147483648 ≤ c ∧ c ≤ 2147483647) ∧ v = .int .i32 c := by
  cases n with
  | zero => simp [DataW.trod] at ht
  | succ n =>
    obtain ⟨c, e1, _, hw⟩ := DataW.trod_int Try.underlying21 ht
    obtain rfl := (List.cons.inj e1).1
    refine ⟨c, ?_, rfl⟩
    simp [Lit.wf, IntKind.min, IntKind.max, IntKind.bits, IntKind.signed] at hw
    omega
theorem trodb_u16 {n : Nat} {v : Value} {y : DataW H × List MemPlace}
    (ht : DataW.trod enc Try.prog W base spare held n 69 [v] = some y) : ∃ c : Int, (0 ≤ c ∧ c ≤ 65535) ∧ v = .int .u16 c := by
  cases n with
  | zero => simp [DataW.trod] at ht
  | succ n =>
    obtain ⟨c, e1, _, hw⟩ := DataW.trod_int Try.underlying69 ht
    obtain rfl := (List.cons.inj e1).1
    refine ⟨c, ?_, rfl⟩
    simp [Lit.wf, IntKind.min, IntKind.max, IntKind.bits, IntKind.signed] at hw
    omega
theorem arr_elem {P : Program} {t e : TypeId} {n fuel : Nat} {cs : List Value} {x : DataW H × List MemPlace} (ht : P.underlying t = some (.array n e)) (hc : P.cellsOf e = 1) (hn : P.cellsOf t = n)
    (h : DataW.trod enc P W base spare held fuel t cs = some x) (r : Nat) (hr : r < n) : ∃ v y m, cs[r]? = some v ∧ DataW.trod enc P W base spare held m e [v] = some y := by
  obtain ⟨xs, m, rfl, -, hlen, hxl, hel⟩ := DataW.trod_array ht h
  have e1 := hel r hr
  rw [hc, Nat.mul_one, List.getElem?_eq_getElem (by omega), List.drop_eq_getElem_cons (by omega), List.take_succ_cons, List.take_zero] at e1
  exact ⟨_, _, m, List.getElem?_eq_getElem (by omega), e1⟩
theorem blrow_of {a : Option Addr} {len cap : Nat} {d : DataW H} {ps : List MemPlace}
    (h : DataW.Trod enc Try.prog W base spare held 32 (.slice a len cap) d ps) : ∃ f, BlF len f ∧ BlR W.heap.size W a len f ∧ len ≤ maxLen := by
  obtain ⟨fuel, hf⟩ := h
  have c18 : Try.prog.cellsOf 79 = 18 := by kernel_rfl
  have c2 : Try.prog.cellsOf 45 = 2 := by kernel_rfl
  have c16 : Try.prog.cellsOf 70 = 16 := by kernel_rfl
  have c1 : Try.prog.cellsOf 21 = 1 := by kernel_rfl
  have c1' : Try.prog.cellsOf 69 = 1 := by kernel_rfl
  rcases open_slice Try.underlying32 hf with ⟨hcs, _⟩ | ⟨x, l, c, m, n, D, Pl, hcs, _, hl, hcm, hm, _, hcell⟩
  · simp [Value.cells] at hcs
    obtain ⟨rfl, rfl, rfl⟩ := hcs
    exact ⟨fun _ => 0, fun j hj => by omega, .inl rfl, Nat.zero_le _⟩
  · simp [Value.cells] at hcs
    obtain ⟨rfl, rfl, rfl⟩ := hcs
    rw [c18] at hcell
    have hlm : len ≤ m := by rw [hm]; split <;> omega
    by_cases h0 : len = 0
    · exact ⟨fun _ => 0, fun j hj => by omega, .inl h0, by omega⟩
    · obtain ⟨b, off, spot⟩ := x
      have hspot : spot = none := by
        obtain ⟨cs', h1, _⟩ := hcell 0 (by omega)
        obtain ⟨_, hlen, hcc⟩ := World.cells?_some h1
        have hc0 := hcc 0 (by omega)
        rw [List.getElem?_eq_getElem (by omega)] at hc0
        have hc1 : W.cell? ((⟨b, off, spot⟩ : Addr).add 0) = some (cs'[0]'(by omega)) := by simpa [Addr.add] using hc0
        simpa [Addr.add] using World.cell?_spot hc1
      subst hspot
      have key : ∀ j, j < 18 * len → ∃ z : Int, (if j % 18 < 2 then -2147483648 ≤ z ∧ z ≤ 2147483647 else 0 ≤ z ∧ z ≤ 65535) ∧ W.cell? ⟨b, off + j, none⟩ = some (if j % 18 < 2 then .int .i32 z else .int .u16 z) := by
        intro j hj
        obtain ⟨cs', h1, h2⟩ := hcell (j / 18) (by omega)
        obtain ⟨_, hlen, hcc⟩ := World.cells?_some h1
        have hcj := hcc (j % 18) (by omega)
        rw [Go.WideShapes.add_plain, Go.WideShapes.add_plain, show off + j / 18 * 18 + j % 18 = off + j by omega] at hcj
        obtain ⟨xs, mm, rfl, -, _, hxl, hel⟩ := DataW.trod_struct Try.underlying79 h2
        have e0 := hel 0 _ rfl
        have e1 := hel 1 _ rfl
        have hx2 : xs.length = 2 := hxl
        rw [List.getElem?_eq_getElem (by omega)] at e0 e1
        have e0' : DataW.trod enc Try.prog W base spare held mm 45 ((cs'.drop 0).take (Try.prog.cellsOf 45)) = some (xs[0]'(by omega)) := e0
        have e1' : DataW.trod enc Try.prog W base spare held mm 70 ((cs'.drop 2).take (Try.prog.cellsOf 70)) = some (xs[1]'(by omega)) := e1
        rw [c2] at e0'
        rw [c16] at e1'
        by_cases hr : j % 18 < 2
        · obtain ⟨v, y, _, hv, hty⟩ := arr_elem Try.underlying45 c1 c2 e0' (j % 18) hr
          obtain ⟨z, hz, rfl⟩ := trodb_i32 hty
          rw [List.drop_zero, List.getElem?_take_of_lt hr] at hv
          exact ⟨z, by rw [if_pos hr]; exact hz, by rw [if_pos hr, hcj, hv]⟩
        · obtain ⟨v, y, _, hv, hty⟩ := arr_elem Try.underlying70 c1' c16 e1' (j % 18 - 2) (by omega)
          obtain ⟨z, hz, rfl⟩ := trodb_u16 hty
          rw [List.getElem?_take_of_lt (by omega), List.getElem?_drop, show 2 + (j % 18 - 2) = j % 18 by omega] at hv
          exact ⟨z, by rw [if_neg hr]; exact hz, by rw [if_neg hr, hcj, hv]⟩
      have hb : b < W.heap.size := by
        obtain ⟨z, _, hc0⟩ := key 0 (by omega)
        unfold World.cell? at hc0
        split at hc0
        · rename_i hb; exact (Array.getElem?_eq_some_iff.1 hb).1
        · cases hc0
      refine ⟨fun j => if hj : j < 18 * len then Classical.choose (key j hj) else 0, fun j hj => ?_, .inr ⟨b, off, rfl, hb, fun j hj => ?_⟩, by omega⟩
      · simp only [dif_pos hj]
        exact (Classical.choose_spec (key j hj)).1
      · unfold bcell
        simp only [dif_pos hj]
        exact (Classical.choose_spec (key j hj)).2
end
end Go.Proofs.Ythfmkejdpflpcaa
/-
  MAPS KEYED BY CORNERS: the key's law, and what a corner reads as.
-/
namespace Go.Proofs.Ythfmkejdpflpcaa
open Go.ChangeShapes Go.WideShapes Go.ChangeAt Go.RowKit Go.Maps Go.WideMaps
theorem laidK : laidOutB Try.prog = true := by kernel_rfl
theorem rowCo : 46 < Try.prog.types.size := of_decide_eq_true (by kernel_rfl)
theorem lawCo : KeyLaw Try.prog 46 := deep_law_laid laidK (m := 2) (by omega) rowCo (by kernel_rfl) (by kernel_rfl)
theorem keyedCo : Keyed Try.prog 46 := Keyed.of_law lawCo
/-- what a corner reads as, as a key -/
def coKey (p q : Int) : Lit := .string (keyBytes [.int .i32 p, .int .i32 q])
theorem litsInt (d : Nat) (p : Int) (hp : -2147483648 ≤ p ∧ p ≤ 2147483647) : Try.prog.keyLits (d + 1) 21 [.int .i32 p] = some [.int .i32 p] := by
  have w1 : (Lit.int .i32 p).wf = true := by simp [Lit.wf, IntKind.min, IntKind.max, IntKind.bits, IntKind.signed]; omega
  rw [Program.keyLits.eq_def]
  simp [Try.underlying21, w1]
theorem litsCo (d : Nat) (p q : Int) (hp : -2147483648 ≤ p ∧ p ≤ 2147483647) (hq : -2147483648 ≤ q ∧ q ≤ 2147483647) : Try.prog.keyLits (d + 2) 46 [.int .i32 p, .int .i32 q] = some [.int .i32 p, .int .i32 q] := by
  have c2 : Try.prog.cellsOf 46 = 2 := by kernel_rfl
  have c1 : Try.prog.cellsOf 21 = 1 := by kernel_rfl
  have e : List.range 2 = [0, 1] := rfl
  rw [Program.keyLits.eq_def]
  simp [Try.underlying46, c2, c1, e, litsInt d p hp, litsInt d q hq]
theorem keyCo (p q : Int) (hp : -2147483648 ≤ p ∧ p ≤ 2147483647) (hq : -2147483648 ≤ q ∧ q ≤ 2147483647) : keyOf Try.prog 46 (.agg #[.int .i32 p, .int .i32 q]) = some (coKey p q) := by
  have c2 : Try.prog.cellsOf 46 = 2 := by kernel_rfl
  have kt : Try.prog.keyType 46 = true := by kernel_rfl
  have hsz : ∃ d, Try.prog.types.size + 1 = d + 2 := ⟨Try.prog.types.size - 1, by have := rowCo; omega⟩
  obtain ⟨d, hd⟩ := hsz
  have hf : (Value.agg #[.int .i32 p, .int .i32 q]).formed Try.prog 46 = true := by
    simp [Value.formed, Try.underlying46, c2]
  unfold keyOf
  simp only [Try.underlying46, kt, hf, Bool.and_self, if_true, hd]
  rw [show (Value.agg #[.int .i32 p, .int .i32 q]).cells.toList = [.int .i32 p, .int .i32 q] from rfl, litsCo d p q hp hq]
  rfl
end Go.Proofs.Ythfmkejdpflpcaa
/-
  MAPS OF MASKS BY CORNERS, made by the call: what stands where; stored into, looked up.
-/
namespace Go.Proofs.Ythfmkejdpflpcaa
open Go.ChangeShapes Go.WideShapes Go.ChangeAt Go.RowKit Go.Maps Go.WideMaps
def RM : Value → Option (DataW Value × List MemPlace) := fun v => some (.held v, [])
def C32 (p : Int) : Prop := -2147483648 ≤ p ∧ p ≤ 2147483647
/-- the map in block b has the mask F p q at the corner p, q: no cell, if there is none; it was written n times at most -/
def MapM (b n : Nat) (F : Int → Int → Nat → Int) (w : World) : Prop := ∃ D : DataW Value, w.ownsMap Try.prog 46 RM b n D ∧ ∀ p q, C32 p → C32 q → D.atKey (coKey p q) (.held (.agg (M16 zI))) = .held (.agg (M16 (F p q)))
def putM (F : Int → Int → Nat → Int) (p q : Int) (m : Nat → Int) : Int → Int → Nat → Int := fun p' q' => if p' = p ∧ q' = q then m else F p' q'
theorem coKey_inj {p q p' q' : Int} (h1 : C32 p) (h2 : C32 q) (h3 : C32 p') (h4 : C32 q') (h : coKey p q = coKey p' q') : p = p' ∧ q = q' := by
  have e := keyedCo.inj (keyCo p q h1 h2) (by rw [h]; exact keyCo p' q' h3 h4)
  simpa using e
theorem MapM.made (w : World) : MapM w.heap.size 0 (fun _ _ => zI) (w.alloc (.map #[] 0)) :=
  ⟨.map [], World.ownsMap_made w _ _ _, fun p q _ _ => rfl⟩
theorem MapM.kept {b n : Nat} {F : Int → Int → Nat → Int} {w w' : World} {row : Option Nat} (h : MapM b n F w) (hg : w.grownBy w' row) (hne : some b ≠ row) : MapM b n F w' := by
  obtain ⟨D, h1, h2⟩ := h
  exact ⟨D, h1.kept hg hne, h2⟩
theorem MapM.alloc {b n : Nat} {F : Int → Int → Nat → Int} {w : World} (h : MapM b n F w) (o : Obj) : MapM b n F (w.alloc o) := by
  obtain ⟨D, h1, h2⟩ := h
  exact ⟨D, h1.alloc o, h2⟩
theorem MapM.lt {b n : Nat} {F : Int → Int → Nat → Int} {w : World} (h : MapM b n F w) : b < w.heap.size := by
  obtain ⟨D, h1, -⟩ := h
  exact h1.lt
theorem MapM.below {b n B : Nat} {F : Int → Int → Nat → Int} {w w' : World} (h : MapM b n F w) (hb : Below B w w') (hB : b < B) (hs : ∀ k, k < w.heap.size → k < B) : MapM b n F w' :=
  h.kept (row := none) ⟨hb.os, hb.tape, hb.output, hb.size, fun k hk _ => hb.block k (hs k hk)⟩ (by simp)
theorem MapM.later {b n : Nat} {F : Int → Int → Nat → Int} {w w' : World} (h : MapM b n F w) (hb : Below w.heap.size w w') : MapM b n F w' := h.below hb h.lt fun _ hk => hk
theorem MapM.put {b n : Nat} {F : Int → Int → Nat → Int} {w : World} (h : MapM b n F w) (hn : n < maxLen) (p q : Int) (hp : C32 p) (hq : C32 q) (m : Nat → Int) (t : TypeId) (ht : Try.prog.underlying t = some (.map 46 71)) :
    ∃ w', (Instr.mapUpdate t (.map (some b)) (.agg #[.int .i32 p, .int .i32 q]) (.agg (M16 m))).run Try.prog w = .ok () w' ∧ MapM b (n + 1) (putM F p q m) w' ∧ w.grownBy w' (some b) := by
  obtain ⟨D, h1, h2⟩ := h
  obtain ⟨w', hr, ho, hg⟩ := h1.update (t := t) (d := .held (.agg (M16 m))) (ps := []) keyedCo ht hn (keyCo p q hp hq) rfl
  refine ⟨w', hr, ⟨_, ho, fun p' q' hp' hq' => ?_⟩, hg⟩
  unfold putM
  by_cases e : p' = p ∧ q' = q
  · obtain ⟨rfl, rfl⟩ := e
    rw [if_pos ⟨rfl, rfl⟩, atKey_put_same h1.isMap (keyedCo.key (keyCo p' q' hp' hq'))]
  · rw [if_neg e, atKey_put_other (fun hk => e (coKey_inj hp' hq' hp hq hk))]
    exact h2 p' q' hp' hq'
theorem zeroMask_run (w : World) : (zeroValue 71).run Try.prog w = .ok (.agg (M16 zI)) w := by rw [Try.zeroValue71]; rfl
theorem MapM.look {b n : Nat} {F : Int → Int → Nat → Int} {w : World} (h : MapM b n F w) (p q : Int) (hp : C32 p) (hq : C32 q) (t : TypeId) (ht : Try.prog.underlying t = some (.map 46 71)) :
    (Instr.lookup t (.map (some b)) (.agg #[.int .i32 p, .int .i32 q]) false).run Try.prog w = .ok (.agg (M16 (F p q))) w := by
  obtain ⟨D, h1, h2⟩ := h
  obtain ⟨v, ps, hr, hv⟩ := h1.lookup (t := t) (zd := .held (.agg (M16 zI))) (zp := []) keyedCo ht (zeroMask_run w) rfl (keyCo p q hp hq)
  rw [hr]
  rw [h2 p q hp hq] at hv
  simp only [RM, Option.some.injEq, Prod.mk.injEq, DataW.held.injEq] at hv
  rw [hv.1]
/-- 'm[at] = mask' at the operation -/
theorem wpList_mapUpdate_m {ops : Array Oper} {rest : List Oper} {o : Oper} {a : Act} {w : World} {Q : Exit → Act → World → Prop} (hgd : o.guard = none) (m x v : Operand) (t : TypeId) (hop : o.op = Op.mapUpdate t m x v)
    (ht : Try.prog.underlying t = some (.map 46 71)) (b n : Nat) (F : Int → Int → Nat → Int) (hm : a.eval m = .map (some b)) (hown : MapM b n F w) (hn : n < maxLen)
    (p q : Int) (hp : C32 p) (hq : C32 q) (f : Nat → Int) (hx : a.eval x = .agg #[.int .i32 p, .int .i32 q]) (hv : a.eval v = .agg (M16 f))
    (h : ∀ w', MapM b (n + 1) (putM F p q f) w' → w.grownBy w' (some b) → wpList Try.prog ops Q rest (a.put o.dst undef) w') : wpList Try.prog ops Q (o :: rest) a w := by
  refine wpList_plain hgd fun K' hK' => ?_
  obtain ⟨w', hrun, r1, r2⟩ := hown.put hn p q hp hq f t ht
  unfold Oper.wp
  simp [execOp, hop, hm, hx, hv, hrun, Result.andThen]
  exact hK' _ _ (h w' r1 r2)
end Go.Proofs.Ythfmkejdpflpcaa
