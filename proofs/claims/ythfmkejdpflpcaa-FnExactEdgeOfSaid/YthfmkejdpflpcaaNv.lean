/-
  PICTURES AS ROWS OF A CALL's OWN; joined, met, taken away (no program in sight but the rows').
-/
import Derived.Test.YthfmkejdpflpcaaNt
import Derived.Test.YthfmkejdpflpcaaNk
namespace Go.Proofs.Ythfmkejdpflpcaa
open Go.ChangeShapes Go.WideShapes Go.ChangeAt Go.RowKit Go.Maps Go.WideMaps
theorem shF_at {f : Nat → Int} {n i : Nat} (hv : validP f n = true) (hi : i < n) : shF f n (f (i * 18)) (f (i * 18 + 1)) = mkF f i := shF_hit n i hi rfl rfl fun j h1 h2 e => by
  have := less_all hv j h1 h2
  omega
theorem shF_new {f : Nat → Int} {n i : Nat} (hv : validP f n = true) (hi : i < n) : shF f i (f (i * 18)) (f (i * 18 + 1)) = zI := shF_none i fun j h1 e => by
  have := less_all hv i h1 hi
  omega
theorem ok_empty {f : Nat → Int} {n i : Nat} (hv : validP f n = true) (hi : i < n) : emptyF (mkF f i) = false := by
  unfold validP at hv
  rw [Bool.and_eq_true, List.all_eq_true] at hv
  have := hv.2 i (by simpa using hi)
  unfold okB hasPic at this
  simp only [Bool.and_eq_true, Bool.not_eq_true'] at this
  exact this.1.2
def coL (f : Nat → Int) (n : Nat) : List (Int × Int) := (List.range n).map fun i => (f (i * 18), f (i * 18 + 1))
theorem coL_len (f : Nat → Int) (n : Nat) : (coL f n).length = n := by simp [coL]
theorem coL_at (f : Nat → Int) (n i : Nat) (h : i < n) : (coL f n)[i]! = (f (i * 18), f (i * 18 + 1)) := get_bang (by simp [coL, h])
theorem coL_pic {f : Nat → Int} {n : Nat} (hv : validP f n = true) (hf : BlF n f) : PicK (shF f n) (coL f n) := by
  refine ⟨?_, fun p q => ⟨fun h => ?_, fun ⟨_, h⟩ => ?_⟩⟩
  · rw [List.pairwise_iff_getElem]
    intro i j hi hj hij
    rw [coL_len] at hi hj
    have e1 := coL_at f n i hi
    have e2 := coL_at f n j hj
    rw [getElem!_pos (coL f n) i (by rw [coL_len]; exact hi)] at e1
    rw [getElem!_pos (coL f n) j (by rw [coL_len]; exact hj)] at e2
    rw [e1, e2]
    exact less_all hv j hij hj
  · simp only [coL, List.mem_map, List.mem_range, Prod.mk.injEq] at h
    obtain ⟨i, hi, rfl, rfl⟩ := h
    obtain ⟨h1, h2⟩ := blf_co hf hi
    refine ⟨⟨h1, h2⟩, ?_⟩
    rw [shF_at hv hi]
    exact ok_empty hv hi
  · by_cases hx : ∃ k, k < n ∧ f (k * 18) = p ∧ f (k * 18 + 1) = q
    · obtain ⟨k, hk, rfl, rfl⟩ := hx
      simp only [coL, List.mem_map, List.mem_range, Prod.mk.injEq]
      exact ⟨k, hk, rfl, rfl⟩
    · rw [shF_none n fun k hk e => hx ⟨k, hk, e⟩, show emptyF zI = true from rfl] at h
      cases h
theorem ob_of {base n : Nat} {v : Value} {f : Nat → Int} {w : World} (h : OwnG base v n f w) (hv : validP f n = true) : OB base v (shF f n) (coL f n) w := by
  unfold OB
  rw [coL_len]
  have e : rowK f n = bksV (shF f n) (coL f n) := by
    refine bksV_ext (by rw [rowK_len, coL_len]) fun i j hi hj => ?_
    rw [coL_len] at hi
    rw [rowK_get _ _ _ (by omega), coL_at f n i hi]
    congr 1
    unfold bcell bkc
    rw [show (i * 18 + j) % 18 = j by omega]
    match j, hj with
    | 0, _ => rfl
    | 1, _ => rfl
    | j + 2, _ =>
      rw [if_neg (by omega), if_neg (by omega), if_neg (by omega)]
      show _ = Value.int .u16 (shF f n (f (i * 18)) (f (i * 18 + 1)) (j + 2 - 2))
      rw [shF_at hv hi]
      unfold mkF
      rw [show i * 18 + 2 + (j + 2 - 2) = i * 18 + (j + 2) by omega]
  rw [← e]
  exact h
theorem gf_MB (op : BinOp) (F G : MF) : MBF (GF (rowF fun x y => bits op .u16 x y) F G) := fun p q y _ => u16_hi _ _ _
theorem accJ (f : Nat → Int) {g : Nat → Int} {n m i : Nat} (hf : BlF n f) (hv : validP g m = true) (hi : i < m) (p q : Int) (j : Nat) (hj : j < 16) : orM (GF JoinMasksG (shF f n) (shF g i)) (g (i * 18)) (g (i * 18 + 1)) (mkF g i) p q j = GF JoinMasksG (shF f n) (shF g (i + 1)) p q j := by
  have hA := shF_MB hf n (Nat.le_refl _) p q j hj
  unfold orM
  show putM _ _ _ _ p q j = JoinMasksG (shF f n p q) (putM (shF g i) (g (i * 18)) (g (i * 18 + 1)) (mkF g i) p q) j
  unfold putM
  split
  · rename_i e
    obtain ⟨rfl, rfl⟩ := e
    rw [joinG_at, joinG_at]
    unfold GF
    rw [joinG_at, shF_new hv hi, show zI j = 0 from rfl, or_zero hA]
  · rfl
theorem accJ0 (f g : Nat → Int) {n : Nat} (hf : BlF n f) (p q : Int) (j : Nat) (hj : j < 16) : shF f n p q j = GF JoinMasksG (shF f n) (shF g 0) p q j := by
  show _ = JoinMasksG (shF f n p q) zI j
  rw [joinG_at, show zI j = 0 from rfl, or_zero (shF_MB hf n (Nat.le_refl _) p q j hj)]
theorem accO (op : BinOp) (hop : ∀ x : Int, 0 ≤ x ∧ x ≤ 65535 → bits op .u16 0 x = 0) (g : Nat → Int) {f : Nat → Int} {n m i : Nat} (hg : BlF m g) (hv : validP f n = true) (hi : i < n) (p q : Int) (j : Nat) (hj : j < 16) : orM (GF (rowF fun x y => bits op .u16 x y) (shF f i) (shF g m)) (f (i * 18)) (f (i * 18 + 1)) (rowF (fun x y => bits op .u16 x y) (mkF f i) (shF g m (f (i * 18)) (f (i * 18 + 1)))) p q j = GF (rowF fun x y => bits op .u16 x y) (shF f (i + 1)) (shF g m) p q j := by
  unfold orM
  show putM _ _ _ _ p q j = rowF (fun x y => bits op .u16 x y) (putM (shF f i) (f (i * 18)) (f (i * 18 + 1)) (mkF f i) p q) (shF g m p q) j
  unfold putM
  split
  · rename_i e
    obtain ⟨rfl, rfl⟩ := e
    rw [joinG_at]
    show bits .or .u16 (bits op .u16 (shF f i (f (i * 18)) (f (i * 18 + 1)) j) (shF g m (f (i * 18)) (f (i * 18 + 1)) j)) (bits op .u16 (mkF f i j) (shF g m (f (i * 18)) (f (i * 18 + 1)) j)) = bits op .u16 (mkF f i j) (shF g m (f (i * 18)) (f (i * 18 + 1)) j)
    rw [shF_new hv hi, show zI j = 0 from rfl, hop _ (shF_MB hg m (Nat.le_refl _) _ _ j hj), zero_or (u16_hi _ _ _)]
  · rfl
theorem and_zeroL (x : Int) (h : 0 ≤ x ∧ x ≤ 65535) : bits .and .u16 0 x = 0 := by
  obtain ⟨k, rfl⟩ : ∃ k : Nat, x = k := ⟨x.toNat, by omega⟩
  rw [show (0 : Int) = ((0 : Nat) : Int) from rfl, u16_and_nat _ _ (by omega) (by omega)]
  simp
theorem andNot_zeroL (x : Int) (h : 0 ≤ x ∧ x ≤ 65535) : bits .andNot .u16 0 x = 0 := by
  refine row_ext (u16_hi _ _ _) (by omega) fun u hu => ?_
  have h1 := u16_hi .andNot 0 x
  show (IntKind.u16.wrap (((BitVec.ofInt 16 0) &&& ~~~(BitVec.ofInt 16 x)).toNat : Int)).toNat.testBit u = _
  simp [IntKind.wrap, IntKind.bits, IntKind.signed]
theorem accO0 (op : BinOp) (hop : ∀ x : Int, 0 ≤ x ∧ x ≤ 65535 → bits op .u16 0 x = 0) (f g : Nat → Int) {m : Nat} (hg : BlF m g) (p q : Int) (j : Nat) (hj : j < 16) : zI j = GF (rowF fun x y => bits op .u16 x y) (shF f 0) (shF g m) p q j := by
  show _ = bits op .u16 (zI j) (shF g m p q j)
  rw [show zI j = 0 from rfl, hop _ (shF_MB hg m (Nat.le_refl _) _ _ j hj)]
/-- existence -/
theorem exJ {f g : Nat → Int} {n m : Nat} (hv : validP f n = true) (hw : validP g m = true) (hf : BlF n f) (hg : BlF m g) : ∀ i, i ≤ m → ∃ K, PicK (GF JoinMasksG (shF f n) (shF g i)) K
  | 0, _ => ⟨coL f n, (coL_pic hv hf).congr fun p q _ _ j hj => accJ0 f g hf p q j hj⟩
  | i + 1, hi => by
    obtain ⟨K, hK⟩ := exJ hv hw hf hg i (by omega)
    obtain ⟨h1, h2⟩ := blf_co hg (show i < m by omega)
    obtain ⟨K', hK'⟩ := hK.or_ex (gf_MB .or _ _) h1 h2 (blf_mk hg (show i < m by omega))
    exact ⟨K', hK'.congr fun p q _ _ j hj => accJ f hf hw (by omega) p q j hj⟩
theorem exO (op : BinOp) (hop : ∀ x : Int, 0 ≤ x ∧ x ≤ 65535 → bits op .u16 0 x = 0) {f g : Nat → Int} {n m : Nat} (hv : validP f n = true) (hf : BlF n f) (hg : BlF m g) : ∀ i, i ≤ n → ∃ K, PicK (GF (rowF fun x y => bits op .u16 x y) (shF f i) (shF g m)) K
  | 0, _ => ⟨[], PicK.nil.congr fun p q _ _ j hj => accO0 op hop f g hg p q j hj⟩
  | i + 1, hi => by
    obtain ⟨K, hK⟩ := exO op hop hv hf hg i (by omega)
    obtain ⟨h1, h2⟩ := blf_co hf (show i < n by omega)
    obtain ⟨K', hK'⟩ := hK.or_ex (gf_MB op _ _) h1 h2 (m := rowF (fun x y => bits op .u16 x y) (mkF f i) (shF g m (f (i * 18)) (f (i * 18 + 1)))) (fun y _ => u16_hi _ _ _)
    exact ⟨K', hK'.congr fun p q _ _ j hj => accO op hop g hg hv (by omega) p q j hj⟩
/-- A SLICE OF BLOCKS that came in IS APPENDED to an empty row -/
theorem wpList_append_bl {ops : Array Oper} {rest : List Oper} {o : Oper} {a : Act} {Q : Exit → Act → World → Prop} (hgd : o.guard = none) (s x : Operand)
    (ho : o.op = .call { callee := .builtin .append, args := #[s, x], argTypes := #[24, 24] })
    (base : Nat) (w0 W : World) (v : Option Addr) (n cap : Nat) (f : Nat → Int) (m : Nat) (hm : W.heap.size = m) (hs : a.eval s = .slice (some ⟨m, 0, none⟩) 0 0) (hx : a.eval x = .slice v n cap) (hc0 : n = 0 → v = none → cap = 0)
    (H : Hid (BlR W.heap.size W v n f)) (HB : Hid (Below base w0 W)) (hb : base ≤ w0.heap.size) (hn : n ≤ 1000000)
    (h : ∀ v' w', Hid (OwnG base v' n f w') → Hid (Below base w0 w') → wpList Try.prog ops Q rest (a.put o.dst v') w') :
    wpList Try.prog ops Q (o :: rest) a (W.alloc (.cells #[] 73)) := by
  have hsz := HB.out.size
  subst hm
  have SO : (W.alloc (.cells #[] 73)).ownsRow base 73 18 (.slice (some ⟨W.heap.size, 0, none⟩) 0 0) 0 [] := World.ownsRow_made (base := base) (size := 18) (e := 73) W #[] 0 (by omega) (by unfold maxLen; omega) rfl
  have SB : Below base w0 (W.alloc (.cells #[] 73)) := HB.out.alloc (by omega) _
  obtain ⟨i0, hi0, hz0, hz1, hz2⟩ := info_parts blk_infS
  have key : ∀ ad : Addr, v = some ad → (∀ j u, (rowK f n)[j]? = some u → (W.alloc (.cells #[] 73)).cell? (ad.add j) = some u) → wpList Try.prog ops Q (o :: rest) a (W.alloc (.cells #[] 73)) := fun ad hv hc => by
    refine wpList_append_own _ hgd s x 24 ho base 73 i0 _ 18 40 Try.underlying24 hi0 hz0 hz1 hz2 (by kernel_rfl) (by decide) _ 0 [] hs SO ad n cap (rowK f n) (by rw [hx, hv]) (rowK_len f n) hc (rowK_one f n) (by unfold maxLen; omega) (by omega) (by simp; omega) ?_
    intro v' w' h1 h2 _
    refine h v' w' (Lib.hid ?_) (Lib.hid (SB.grown h2 (by simp; omega) (fun k hk => (SO.lt k hk).1)))
    simpa [OwnG] using h1
  rcases H.out with rfl | ⟨g, off, rfl, hg, hc⟩
  · cases v with
    | some ad => exact key ad rfl fun j u hj => by rw [rowK_zero] at hj; cases hj
    | none =>
      rw [hc0 rfl rfl] at hx
      exact wpList_append_own_none hgd s x 24 ho base 73 i0 18 Try.underlying24 hi0 _ 0 [] hs SO hx (h _ _ (Lib.hid SO) (Lib.hid SB))
  · refine key _ rfl fun j u hj => ?_
    have hl := (List.getElem?_eq_some_iff.1 hj).1
    rw [rowK_len] at hl
    rw [rowK_get _ _ _ (by omega)] at hj
    have hl2 : (W.alloc (.cells #[] 73)).cell? ⟨g, off + j, none⟩ = W.cell? ⟨g, off + j, none⟩ := World.cell?_of_block (Below.heap_alloc W _ g hg)
    rw [Go.WideShapes.add_plain, hl2, hc j (by omega)]
    exact hj
end Go.Proofs.Ythfmkejdpflpcaa
