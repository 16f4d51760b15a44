/-
  inOrder: A MAP OF MASKS, LISTED IN ORDER (given the sort).
-/
import Derived.Test.YthfmkejdpflpcaaNa
import Derived.Maps.RangeWalk
namespace Go.Proofs.Ythfmkejdpflpcaa
open Go.ChangeShapes Go.WideShapes Go.ChangeAt Go.RowKit Go.Maps Go.WideMaps
/-! a corner is what reads as a key -/
theorem lits_i32 {d : Nat} {l : List Value} {ls : List Lit} (h : Try.prog.keyLits (d + 1) 21 l = some ls) : ∃ p, l = [.int .i32 p] ∧ C32 p := by
  rw [Program.keyLits.eq_def] at h
  simp only [Try.underlying21] at h
  match l, h with
  | [.int q p], h =>
    simp only at h
    split at h
    · rename_i hq
      obtain ⟨rfl, hw⟩ := hq
      refine ⟨p, rfl, ?_⟩
      simp [Lit.wf, IntKind.min, IntKind.max, IntKind.bits, IntKind.signed] at hw
      exact hw
    · cases h
theorem keyCo_inv {key : Value} {kl : Lit} (h : keyOf Try.prog 46 key = some kl) : ∃ c : Int × Int, key = .agg #[.int .i32 c.1, .int .i32 c.2] ∧ C32 c.1 ∧ C32 c.2 ∧ kl = coKey c.1 c.2 := by
  have h0 := h
  have c2 : Try.prog.cellsOf 46 = 2 := by kernel_rfl
  have c1 : Try.prog.cellsOf 21 = 1 := by kernel_rfl
  have kt : Try.prog.keyType 46 = true := by kernel_rfl
  obtain ⟨d, hd⟩ : ∃ d, Try.prog.types.size + 1 = d + 2 := ⟨Try.prog.types.size - 1, by have := rowCo; omega⟩
  unfold keyOf at h
  simp only [Try.underlying46, kt, Bool.true_and] at h
  split at h
  · rename_i hf
    cases key <;> simp [Value.formed, Try.underlying46, c2] at hf
    rename_i cs
    obtain ⟨x, y, rfl⟩ : ∃ x y, cs = #[x, y] := ⟨cs[0], cs[1], by
      apply Array.ext
      · simp [hf]
      · intro i h1 h2
        rcases (by omega : i = 0 ∨ i = 1) with rfl | rfl <;> rfl⟩
    rw [hd, show (Value.agg #[x, y]).cells.toList = [x, y] from rfl, Program.keyLits.eq_def] at h
    have e : List.range 2 = [0, 1] := rfl
    simp only [Try.underlying46, c2, c1, e, List.length_cons, List.length_nil, if_true, List.mapM_cons, List.mapM_nil] at h
    simp only [Nat.zero_mul, Nat.one_mul, List.drop_zero, List.drop_succ_cons, List.take_succ_cons, List.take_zero] at h
    cases hx : Try.prog.keyLits (d + 1) 21 [x] with
    | none => simp [hx] at h
    | some lx =>
      cases hy : Try.prog.keyLits (d + 1) 21 [y] with
      | none => simp [hx, hy] at h
      | some ly =>
        obtain ⟨p, hp, wp⟩ := lits_i32 hx
        obtain ⟨q, hq, wq⟩ := lits_i32 hy
        simp only [List.cons.injEq, and_true] at hp hq
        subst hp
        subst hq
        refine ⟨(p, q), rfl, wp, wq, ?_⟩
        have := keyCo p q wp wq
        rw [this] at h0
        exact (Option.some.inj h0).symm
  · cases h
theorem map_size_le {w : World} {b n : Nat} {D : DataW Value} (h : w.ownsMap Try.prog 46 RM b n D) : Maps.size D ≤ n := by
  obtain ⟨es, clock, -, -, hs, rfl⟩ := h
  simp only [Maps.size, length_sorted, List.length_map]
  simpa using hs
/-- what has come out of the map so far -/
def KI (D : DataW Value) (F : MF) (left : Lit → Bool) (K : List (Int × Int)) : Prop := K.Nodup ∧ ∀ p q, (p, q) ∈ K ↔ (C32 p ∧ C32 q) ∧ (Maps.has D (coKey p q) = true ∧ left (coKey p q) = false) ∧ emptyF (F p q) = false
theorem KI.start (D : DataW Value) (F : MF) : KI D F (Maps.has D) [] := ⟨List.nodup_nil, fun p q => ⟨fun h => absurd h (by simp), fun ⟨_, ⟨h1, h2⟩, _⟩ => by rw [h1] at h2; cases h2⟩⟩
theorem same_co {p q p' q' : Int} (h1 : C32 p) (h2 : C32 q) (h3 : C32 p') (h4 : C32 q') : (coKey p q).sameKey (coKey p' q') = decide (p = p' ∧ q = q') := by
  by_cases e : p = p' ∧ q = q'
  · obtain ⟨rfl, rfl⟩ := e
    rw [decide_eq_true (⟨rfl, rfl⟩ : p = p ∧ q = q)]
    exact WideAt.sameKey_self (keyedCo.key (keyCo p q h1 h2))
  · rw [decide_eq_false e]
    cases hs : (coKey p q).sameKey (coKey p' q') with
    | false => rfl
    | true => exact absurd (coKey_inj h1 h2 h3 h4 (WideAt.sameKey_eq hs)) e
theorem KI.skip {D : DataW Value} {F : MF} {left : Lit → Bool} {K : List (Int × Int)} (h : KI D F left K) {x : Int × Int} (h1 : C32 x.1) (h2 : C32 x.2) (he : emptyF (F x.1 x.2) = true) : KI D F (fun z => left z && !z.sameKey (coKey x.1 x.2)) K := by
  refine ⟨h.1, fun p q => (h.2 p q).trans ⟨fun ⟨hc, ⟨a, b⟩, e⟩ => ⟨hc, ⟨a, by simp only [b, Bool.false_and]⟩, e⟩, fun ⟨hc, ⟨a, b⟩, e⟩ => ⟨hc, ⟨a, ?_⟩, e⟩⟩⟩
  simp only [same_co hc.1 hc.2 h1 h2] at b
  by_cases hx : p = x.1 ∧ q = x.2
  · obtain ⟨rfl, rfl⟩ := hx
    rw [he] at e
    cases e
  · rw [decide_eq_false hx] at b
    simpa using b
theorem KI.take {D : DataW Value} {F : MF} {left : Lit → Bool} {K : List (Int × Int)} (h : KI D F left K) {x : Int × Int} (h1 : C32 x.1) (h2 : C32 x.2) (hh : Maps.has D (coKey x.1 x.2) = true) (hl : left (coKey x.1 x.2) = true) (he : emptyF (F x.1 x.2) = false) : KI D F (fun z => left z && !z.sameKey (coKey x.1 x.2)) (K ++ [x]) := by
  have hn : x ∉ K := fun hx => by
    have := ((h.2 x.1 x.2).1 hx).2.1.2
    rw [hl] at this
    cases this
  refine ⟨by rw [List.nodup_append]; exact ⟨h.1, by simp, fun a ha b hb e => by simp at hb; subst hb; subst e; exact hn ha⟩, fun p q => ?_⟩
  rw [List.mem_append, List.mem_singleton, h.2 p q]
  constructor
  · rintro (⟨hc, ⟨a, b⟩, e⟩ | e)
    · exact ⟨hc, ⟨a, by simp only [b, Bool.false_and]⟩, e⟩
    · subst e
      refine ⟨⟨h1, h2⟩, ⟨hh, ?_⟩, he⟩
      have := same_co h1 h2 h1 h2
      simp only at this ⊢
      rw [this]
      simp
  · rintro ⟨hc, ⟨a, b⟩, e⟩
    simp only [same_co hc.1 hc.2 h1 h2] at b
    by_cases hx : p = x.1 ∧ q = x.2
    · exact .inr (Prod.ext hx.1 hx.2)
    · rw [decide_eq_false hx] at b
      exact .inl ⟨hc, ⟨a, by simpa using b⟩, e⟩
/-- a list in order, with the same corners -/
theorem KI.pic {D : DataW Value} {F : MF} {left : Lit → Bool} {K K' : List (Int × Int)} (h : KI D F left K) (hD : ∀ p q, C32 p → C32 q → D.atKey (coKey p q) (.held (.agg (M16 zI))) = .held (.agg (M16 (F p q)))) (hl : ∀ kl, left kl = false) (hp : K'.Perm K) (hs : K'.Pairwise fun a b => ¬ ltP b a) : PicK F K' := by
  have hnd : K'.Nodup := hp.nodup_iff.2 h.1
  refine ⟨(hs.and hnd).imp fun {a b} hab => ?_, fun p q => hp.mem_iff.trans ((h.2 p q).trans ⟨fun ⟨hc, _, e⟩ => ⟨hc, e⟩, fun ⟨hc, e⟩ => ⟨hc, ⟨?_, hl _⟩, e⟩⟩)⟩
  · obtain ⟨h1, h2⟩ := hab
    rcases a with ⟨a1, a2⟩
    rcases b with ⟨b1, b2⟩
    unfold ltP at *
    simp only [ne_eq, Prod.mk.injEq] at *
    omega
  · cases hh : Maps.has D (coKey p q) with
    | true => rfl
    | false =>
      have e1 := hD p q hc.1 hc.2
      rw [atKey_of_not_has hh] at e1
      simp only [DataW.held.injEq, Value.agg.injEq] at e1
      have : emptyF (F p q) = emptyF zI := emptyF_congr fun y hy => by
        have e2 : (M16 zI)[y]? = (M16 (F p q))[y]? := by rw [e1]
        rw [arr_get _ _ _ _ hy, arr_get _ _ _ _ hy] at e2
        simp only [Option.some.injEq, Value.int.injEq, true_and] at e2
        exact e2.symm
      rw [this, show emptyF zI = true from rfl] at e
      cases e
/-- the block of a corner -/
def bkA (F : MF) (c : Int × Int) : Array Value := bl c.1 c.2 (F c.1 c.2)
theorem bkA_list (F : MF) (c : Int × Int) : (bkA F c).toList = encB F c := by simp [bkA, bl, encB, two]
theorem bkA_at (F : MF) (c : Int × Int) (w : World) (t : TypeId) : ∀ j u, (encB F c)[j]? = some u → (w.alloc (.cells (bkA F c) t)).cell? ((⟨w.heap.size, 0, none⟩ : Addr).add j) = some u := by
  intro j u h
  have e : (⟨w.heap.size, 0, none⟩ : Addr).add j = ⟨w.heap.size, j, none⟩ := by rw [Go.WideShapes.add_plain, Nat.zero_add]
  rw [e, World.cell?_alloc_new, ← h, ← bkA_list, Array.getElem?_toList]
theorem bkA_size (F : MF) (c : Int × Int) : (bkA F c).size = 18 := bl_size _ _ _
/-- A BLOCK IS APPENDED to a slice of the call's own. -/
theorem wpList_append_bk {ops : Array Oper} {rest : List Oper} {o : Oper} {a : Act} {Q : Exit → Act → World → Prop} (hgd : o.guard = none) (s x : Operand)
    (ho : o.op = .call { callee := .builtin .append, args := #[s, x], argTypes := #[24, 24] })
    (base : Nat) (w0 W : World) (v : Value) (F : MF) (K : List (Int × Int)) (c : Int × Int) (hs : a.eval s = v) (m : Nat) (hm : W.heap.size = m) (hx : a.eval x = .slice (some ⟨m, 0, none⟩) 1 1)
    (H : Hid (OB base v F K W)) (HB : Hid (Below base w0 W)) (hb : base ≤ w0.heap.size) (hn : K.length ≤ 1000000)
    (h : ∀ v' w', Hid (OB base v' F (K ++ [c]) w') → Hid (Below base w0 w') → W.heap.size + 1 ≤ w'.heap.size → (W.alloc (.cells (bkA F c) 73)).grownBy w' v.ownBlock → wpList Try.prog ops Q rest (a.put o.dst v') w') :
    wpList Try.prog ops Q (o :: rest) a (W.alloc (.cells (bkA F c) 73)) := by
  have hsz := HB.out.size
  subst hm
  have hz : (Try.prog.info? 73).map (fun i => (i.zero, i.size, i.bytes)) = some (some (.agg (bl 0 0 zI)), 18, 40) := by kernel_rfl
  obtain ⟨i0, hi0, hz0, hz1, hz2⟩ := info_parts hz
  refine wpList_append_own _ hgd s x 24 ho base 73 i0 _ 18 40 Try.underlying24 hi0 hz0 hz1 hz2 (by kernel_rfl) (by decide) v K.length (bksV F K) hs (own_alloc H.out _) ⟨W.heap.size, 0, none⟩ 1 1 (encB F c) hx (encB_len F c) (bkA_at F c _ _) (encB_one F c) (by unfold maxLen; omega) (by omega) (by simp; omega) ?_
  intro v' w' h1 h2 h3
  refine h v' w' ?_ ((HB.out.alloc (by omega) _).grown h2 (by simp; omega) (fun k hk => (H.out.lt k hk).1)) ?_ h2
  · refine Lib.hid ?_
    unfold OB
    rw [bksV_append, bksV_one, List.length_append]
    exact h1
  · have := h2.size
    simpa using this
theorem wpList_append_bx {ops : Array Oper} {rest : List Oper} {o : Oper} {a : Act} {Q : Exit → Act → World → Prop} (hgd : o.guard = none) (s x : Operand)
    (ho : o.op = .call { callee := .builtin .append, args := #[s, x], argTypes := #[24, 24] })
    (base : Nat) (w0 W : World) (v : Value) (F : MF) (K : List (Int × Int)) (c : Int × Int) (X : Array Value) (hX : bkA F c = X) (hs : a.eval s = v) (m : Nat) (hm : W.heap.size = m) (hx : a.eval x = .slice (some ⟨m, 0, none⟩) 1 1)
    (H : Hid (OB base v F K W)) (HB : Hid (Below base w0 W)) (hb : base ≤ w0.heap.size) (hn : K.length ≤ 1000000)
    (h : ∀ v' w', Hid (OB base v' F (K ++ [c]) w') → Hid (Below base w0 w') → W.heap.size + 1 ≤ w'.heap.size → (W.alloc (.cells X 73)).grownBy w' v.ownBlock → wpList Try.prog ops Q rest (a.put o.dst v') w') :
    wpList Try.prog ops Q (o :: rest) a (W.alloc (.cells X 73)) := by
  subst hX
  exact wpList_append_bk hgd s x ho base w0 W v F K c hs m hm hx H HB hb hn h
end Go.Proofs.Ythfmkejdpflpcaa
