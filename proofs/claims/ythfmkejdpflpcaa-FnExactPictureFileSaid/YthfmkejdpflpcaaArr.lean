/-
  ARRAYS OF INTEGERS (no program in sight): n cells of one kind, as a function of the index; one that came in, opened and shut.
-/
import Derived.WalkKit
import Derived.ProofKit
import Derived.OpenShut
import Derived.WalkLawsBesides
import Derived.ChangeShapes
import Derived.Below
import Derived.Lib.Hide
namespace Go.Proofs.Ythfmkejdpflpcaa
open Go.ChangeShapes Go.WideShapes Go.ChangeAt Go.RowKit
/-- n integers in a block -/
def arr (k : IntKind) (n : Nat) (f : Nat → Int) : Array Value := ((List.range n).map fun i => Value.int k (f i)).toArray
theorem arr_size (k : IntKind) (n : Nat) (f : Nat → Int) : (arr k n f).size = n := by simp [arr]
theorem arr_get (k : IntKind) (n : Nat) (f : Nat → Int) (i : Nat) (h : i < n) : (arr k n f)[i]? = some (.int k (f i)) := by simp [arr, h]
theorem arr_none (k : IntKind) (n : Nat) (f : Nat → Int) (i : Nat) (h : n ≤ i) : (arr k n f)[i]? = none := Array.getElem?_eq_none (by rw [arr_size]; exact h)
theorem arr_congr {k : IntKind} {n : Nat} {f g : Nat → Int} (h : ∀ i, i < n → f i = g i) : arr k n f = arr k n g := by
  unfold arr
  congr 1
  refine List.map_congr_left fun i hi => ?_
  rw [h i (by simpa using hi)]
/-- one of them turned -/
def updI (f : Nat → Int) (i : Nat) (v : Int) : Nat → Int := fun j => if j = i then v else f j
theorem arr_set (k : IntKind) (n : Nat) (f : Nat → Int) (i : Nat) (v : Int) (h : i < n) : (arr k n f).setIfInBounds i (.int k v) = arr k n (updI f i v) := by
  apply Array.ext_getElem?
  intro j
  rw [Array.getElem?_setIfInBounds]
  by_cases hj : j < n
  · rw [arr_get k n (updI f i v) j hj]
    by_cases hk : i = j
    · subst hk
      rw [if_pos rfl, if_pos (by rw [arr_size]; exact h)]
      simp [updI]
    · rw [if_neg hk, arr_get k n f j hj]
      have hne : j ≠ i := fun h => hk h.symm
      simp [updI, hne]
  · rw [arr_none k n (updI f i v) j (by omega)]
    by_cases hk : i = j
    · omega
    · rw [if_neg hk, arr_none k n f j (by omega)]
theorem arr_cells (k : IntKind) (n : Nat) (f : Nat → Int) : (arr k n f).all (·.oneCell') = true := by
  rw [Array.all_eq_true]
  intro i hi
  have hn : i < n := by rw [arr_size] at hi; exact hi
  have h := arr_get k n f i hn
  rw [Array.getElem?_eq_getElem hi] at h
  rw [Option.some.inj h]; rfl
/-- the first m are those of another array -/
def mixI (f g : Nat → Int) (m : Nat) : Nat → Int := fun j => if j < m then g j else f j
theorem mixI_zero (f g : Nat → Int) : mixI f g 0 = f := by funext j; simp [mixI]
theorem mixI_step (f g : Nat → Int) (m : Nat) : updI (mixI f g m) m (g m) = mixI f g (m + 1) := by
  funext j
  unfold updI mixI
  by_cases h : j = m
  · subst h; rw [if_pos rfl, if_pos (by omega)]
  · by_cases h2 : j < m
    · rw [if_neg h, if_pos h2, if_pos (by omega)]
    · rw [if_neg h, if_neg h2, if_neg (by omega)]
theorem mixI_at (f g : Nat → Int) (m : Nat) : mixI f g m m = f m := by unfold mixI; rw [if_neg (by omega)]
theorem arr_mix (k : IntKind) (n : Nat) (f g : Nat → Int) : arr k n (mixI f g n) = arr k n g := arr_congr fun i hi => by unfold mixI; rw [if_pos hi]
def zI : Nat → Int := fun _ => 0

/-- THE DATUM of an array of integers -/
def arrD {H : Type} (k : IntKind) (n : Nat) (f : Nat → Int) : DataW H := .agg ((List.range n).map fun i => .lit (.int k (f i)))
section
variable {H : Type} {enc : TypeId × Value → H} {P : Program} {w : World} {base : Nat} {spare : Nat → Bool} {held : Bool}
theorem mapM_of_get {α β : Type} (F : α → Option β) (L : List α) (ys : List β) (h : ∀ i (hi : i < L.length), F L[i] = ys[i]?) (hl : ys.length = L.length) : L.mapM F = some ys := by
  induction L generalizing ys with
  | nil => cases ys with
    | nil => rfl
    | cons y r => simp at hl
  | cons a r ih =>
    cases ys with
    | nil => simp at hl
    | cons y q =>
      rw [List.mapM_cons]
      have h0 := h 0 (by simp)
      simp at h0
      rw [h0]
      have := ih q (fun i hi => by have := h (i + 1) (by simp; omega); simpa using this) (by simpa using hl)
      simp [this]
/-- AN ARRAY OF INTEGERS THAT CAME IN, OPENED. -/
theorem open_arrI {r : Reach} {b0 n : Nat} {t e : TypeId} {k : IntKind} {v : Value} {d : DataW H} {ps : List MemPlace} (ht : P.underlying t = some (.array n e)) (he : P.underlying e = some (.int k)) (hc : P.cellsOf e = 1) (hn : P.cellsOf t = n)
    (hval : Value.okWide P w r b0 t v) (hd : DataW.Trod enc P w base spare held t v d ps) :
    ∃ f : Nat → Int, v = .agg (arr k n f) ∧ d = arrD k n f ∧ ps = [] ∧ ∀ i, i < n → (Lit.int k (f i)).wf = true := by
  obtain ⟨cs, rfl, hsz⟩ : ∃ cs : Array Value, v = .agg cs ∧ cs.size = n := by
    simp only [Value.okWide, ht] at hval
    obtain ⟨cs, h1, h2, _⟩ := hval
    exact ⟨cs, h1, by rw [h2, hn]⟩
  obtain ⟨fuel, hf⟩ := hd
  obtain ⟨xs, m, rfl, hx, hlen, hl, hel⟩ := DataW.trod_array ht hf
  rw [hc] at hel
  simp only [Value.cells] at hel hlen
  have each : ∀ i, i < n → ∃ a : Int, cs[i]? = some (.int k a) ∧ xs[i]? = some (.lit (.int k a), []) ∧ (Lit.int k a).wf = true := by
    intro i hi
    have h := hel i hi
    obtain ⟨y, hy⟩ : ∃ y, xs[i]? = some y := ⟨xs[i]'(by omega), by rw [List.getElem?_eq_getElem (by omega)]⟩
    rw [hy] at h
    obtain ⟨a, ea, rfl, wa⟩ := DataW.trod_int he h
    refine ⟨a, ?_, hy, wa⟩
    have h0 : (List.take 1 (List.drop (i * 1) cs.toList))[0]? = some (.int k a) := by rw [ea]; rfl
    rw [Nat.mul_one, List.getElem?_take, if_pos (by omega), List.getElem?_drop] at h0
    simpa using h0
  let f : Nat → Int := fun i => match cs[i]? with | some (.int _ a) => a | _ => 0
  have hfi : ∀ i, i < n → cs[i]? = some (.int k (f i)) ∧ xs[i]? = some (.lit (.int k (f i)), []) ∧ (Lit.int k (f i)).wf = true := by
    intro i hi
    obtain ⟨a, h1, h2, h3⟩ := each i hi
    have : f i = a := by show (match cs[i]? with | some (.int _ a) => a | _ => 0) = a; rw [h1]
    rw [this]; exact ⟨h1, h2, h3⟩
  refine ⟨f, ?_, ?_, ?_, fun i hi => (hfi i hi).2.2⟩
  · congr 1
    apply Array.ext_getElem?
    intro i
    by_cases hi : i < n
    · rw [(hfi i hi).1, arr_get k n f i hi]
    · rw [arr_none k n f i (by omega), Array.getElem?_eq_none (by omega)]
  · simp only [Prod.mk.injEq] at hx
    rw [hx.1]
    unfold arrD
    congr 1
    apply List.ext_getElem?
    intro i
    by_cases hi : i < n
    · simp [(hfi i hi).2.1, hi]
    · simp [hi, hl]
  · simp only [Prod.mk.injEq] at hx
    rw [hx.2, List.flatMap_eq_nil_iff]
    intro y hy
    obtain ⟨i, hi, rfl⟩ := List.getElem_of_mem hy
    have := (hfi i (by omega)).2.1
    rw [List.getElem?_eq_getElem hi] at this
    rw [Option.some.inj this]
/-- SHUT AGAIN. -/
theorem shut_arrI {n : Nat} {t e : TypeId} {k : IntKind} {f : Nat → Int} (ht : P.underlying t = some (.array n e)) (he : P.underlying e = some (.int k)) (hc : P.cellsOf e = 1) (hn : P.cellsOf t = n)
    (hw : ∀ i, i < n → (Lit.int k (f i)).wf = true) : DataW.Trod enc P w base spare held t (.agg (arr k n f)) (arrD k n f) [] := by
  refine ⟨2, ?_⟩
  unfold DataW.trod
  simp only [ht, Value.cells]
  rw [if_pos (by rw [hn]; simpa using arr_size k n f)]
  rw [mapM_of_get _ _ ((List.range n).map fun i => ((.lit (.int k (f i)) : DataW H), ([] : List MemPlace)))]
  · simp [arrD, Function.comp_def]
  · intro i hi
    have hi' : i < n := by simpa using hi
    simp only [List.getElem_range, hc, Nat.mul_one]
    have h1 : List.take 1 (List.drop i (arr k n f).toList) = [.int k (f i)] := by
      have hg := arr_get k n f i hi'
      have hs : i < (arr k n f).toList.length := by simpa [arr_size] using hi'
      rw [List.drop_eq_getElem_cons hs]
      simp at hg ⊢
      have := Array.getElem?_eq_some_iff.1 hg
      obtain ⟨_, h⟩ := this
      rw [h]
    rw [h1]
    simp [DataW.trod, he, hw i hi', hi']
  · simp
end
/-- 'a[i]' of an array by value -/
theorem run_index_arr {P : Program} {t e : TypeId} {n : Nat} {q : IntKind} (k : IntKind) (f : Nat → Int) (i : Nat) (ht : P.underlying t = some (.array n e)) (he : P.underlying e = some (.int q)) (hs : (P.info? e).map (·.size) = some 1) (hi : i < n) (w : World) :
    (Instr.index t (.agg (arr q n f)) (.int k (i : Int))).run P w = .ok (.int q (f i)) w := by
  have hc := arr_get q n f i hi
  have hz : (sizeOf e).run P w = .ok 1 w := by
    unfold sizeOf typeInfo
    cases hq : P.info? e with
    | none => simp [hq] at hs
    | some x => simp [hq] at hs ⊢; exact hs
  have hag : (isAgg e).run P w = .ok false w := by
    unfold isAgg
    rw [Sem.run_bind, run_underlying he w]; rfl
  have h1 : (0 : Int) ≤ i ∧ (i : Int) < n := by omega
  have h2 : ¬ n ≤ i := by omega
  simp [Instr.index, run_underlying ht, asIntOf, h1, h2, hi, hz, part, hag, hc, go_sem]
/-! ### arrays held equal -/
theorem forIn_allI {P : Program} {w : World} {σ : Type} (b : Nat → σ → Sem (ForInStep σ)) (s0 sF : σ) (c : Nat → Bool) :
    ∀ l : List Nat, (∀ i, i ∈ l → (b i s0).run P w = .ok (if c i then .yield s0 else .done sF) w) → (forIn l s0 b).run P w = .ok (if l.all c then s0 else sF) w
  | [], _ => rfl
  | i :: r, h => by
    rw [List.forIn_cons, Sem.run_bind, h i (by simp), Result.andThen_ok]
    cases hc : c i
    · simp [hc]
    · have ih := forIn_allI b s0 sF c r (fun j hj => h j (by simp [hj]))
      simp only [List.all_cons, hc, Bool.true_and, if_true]
      exact ih
theorem eqArrI {P : Program} {t e : TypeId} {n : Nat} {q : IntKind} (f g : Nat → Int) (ht : P.underlying t = some (.array n e)) (he : P.underlying e = some (.int q)) (hs : (P.info? e).map (·.size) = some 1) (w : World) :
    (Op.equalIn 10000 t (.agg (arr q n f)) (.agg (arr q n g))).run P w = .ok ((List.range n).all fun i => f i == g i) w := by
  have hz : ∀ w, (sizeOf e).run P w = .ok 1 w := fun w => by
    unfold sizeOf typeInfo
    cases hq : P.info? e with
    | none => simp [hq] at hs
    | some x => simp [hq] at hs ⊢; exact hs
  have hag : ∀ w, (isAgg e).run P w = .ok false w := fun w => by
    unfold isAgg
    rw [Sem.run_bind, run_underlying he w]; rfl
  rw [show (10000 : Nat) = 9999 + 1 from rfl, Op.equalIn]
  simp only [Sem.run_bind, run_underlying ht, Result.andThen_ok]
  simp only [Std.Legacy.Range.forIn_eq_forIn_range', Std.Legacy.Range.size, Nat.sub_zero, Nat.add_sub_cancel, Nat.div_one]
  rw [hz, Result.andThen_ok]
  rw [forIn_allI _ (none, ()) (some false, ()) (fun i => f i == g i)]
  · rw [← List.range_eq_range']
    cases (List.range n).all fun i => f i == g i <;> rfl
  · intro i hi
    have hn : i < n := by
      have := List.mem_range'.1 hi
      omega
    have c1 := arr_get q n f i hn
    have c2 := arr_get q n g i hn
    clear hi
    go_simp
    by_cases h : f i = g i
    · simp [h]
    · rw [if_neg h]; simp [h]
end Go.Proofs.Ythfmkejdpflpcaa
