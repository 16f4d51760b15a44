/-
  CONTR#[.slice a n cap, undef, .slice none 0 0, .int .i64 0, .int .i64 0, .int .i64 (r : Int), .slice a p cap, .pointer (some ⟨w.heap.size, 0, none⟩), .slice (some ⟨g, off + 16 * c.1, none⟩) (pcL 16 p (16 * c.1)) (pcL 16 p (16 * c.1)), .slice a n cap, .int .i64 (n : Int), .int .i64 (r : Int), .slice a n cap, .slice a n cap, .int .i64 (n : Int), .int .i64 (r : Int), .int .i64 (p : Int), .slice a p cap, .slice a p cap, .int .i64 (p : Int), .bool (decide ((11200 : Int) < (p : Int))), .slice a p cap, .func (.func 59) #[] #[.pointer (some ⟨w.heap.size + 1, 0, none⟩), .pointer (some ⟨w.heap.size + 1 + 1, 0, none⟩)], .slice (some ⟨g, off + 16 * c.1, none⟩) (pcL 16 p (16 * c.1)) (pcL 16 p (16 * c.1)), undef, undef, undef, undef, undef, undef, undef, undef]: the program's FramesOfBytes.
-/
import Derived.Test.YtligafgbknlofaaGh
import Derived.Test.YtligafgbknlofaaCk
import Derived.Test.YtligafgbknlofaaRj
import Derived.Laws.OwnMore
namespace Go.Proofs.Ytligafgbknlofaa
open Go.ChangeShapes Go.WideShapes Go.ChangeAt Go.RowKit Go.Shelf
attribute [local go_sem] Oper.semAt_some
def foC (n : Nat) : Int := if 700 < n / 16 then 3 else 0
def foN (n : Nat) : Nat := if 700 < n / 16 then 0 else n / 16
def foR (n : Nat) : Int := if 700 < n / 16 then 0 else ((n % 16 : Nat) : Int)
theorem foN_le (n : Nat) : foN n ≤ 1048576 := by unfold foN; split <;> omega
theorem nl_of {listed : Array Bool} {i : Nat} (h : ¬ listed.getD i false = true) : listed.getD i false = false := by
  cases hx : listed.getD i false with
  | true => exact absurd hx h
  | false => rfl
theorem nl_back {listed : Array Bool} {i j : Nat} (h : (listed.setIfInBounds i true).getD j false = false) : listed.getD j false = false := nl_of fun h2 => by
  rw [listed_keep h2] at h; cases h
theorem lt_heap {W : World} {g : Nat} {o : Obj} (h : W.heap[g]? = some o) : g < W.heap.size := (Array.getElem?_eq_some_iff.1 h).1
theorem keep_row {W w1 : World} {n₀ bm : Nat} {e T : TypeId} {size : Nat} {v : Value} {k : Nat} {xs : List Value} {A : Array Value} {fr : Nat × Nat}
    (hrow : W.ownsRow n₀ e size v k xs) (hP : W.heap[bm]? = some (.cells A T fr)) (hTe : T ≠ e) (hgrow : W.grownBy w1 v.ownBlock) : w1.heap[bm]? = some (.cells A T fr) := by
  refine (hgrow.block bm (lt_heap hP) ?_).trans hP
  intro h
  rcases hrow.2 with ⟨rfl, _⟩ | ⟨g, cap, cur, rfl, _, hgb, _⟩
  · simp [Value.ownBlock] at h
  · obtain rfl : bm = g := by simpa [Value.ownBlock] using h
    rw [hP] at hgb
    cases hgb
    exact hTe rfl
theorem own_cells {W : World} {n₀ : Nat} {e : TypeId} {size : Nat} {v : Value} {k : Nat} {xs : List Value} (hrow : W.ownsRow n₀ e size v k xs) : ∀ (j : Nat) (o : Obj), v.ownBlock = some j → W.heap[j]? = some o → o.isCells = true := by
  intro j o ej hj
  rcases hrow.2 with ⟨rfl, _⟩ | ⟨g, cap, cur, rfl, _, hgb, _⟩
  · simp [Value.ownBlock] at ej
  · obtain rfl : g = j := by simpa [Value.ownBlock] using ej
    rw [hgb] at hj; cases hj; rfl
theorem grownBy_setCellF (w : World) (B : Nat) (v : Value) : w.grownBy (w.setCell ⟨B, 0, none⟩ v) (some B) :=
  ⟨rfl, rfl, rfl, by simp, fun k _ hk => Below.heap_setCell _ _ _ k (fun e => hk (by rw [e]))⟩
theorem heap_ownG {β : Type} (B : Nat) (t : TypeId) (A : Array Value) (fr : Nat × Nat) : Own (fun (_ : β) W => W.heap[B]? = some (.cells A t fr)) := fun s X Y row hs hg hrow => by
  refine (hg.block B (Array.getElem?_eq_some_iff.1 hs).1 ?_).trans hs
  intro e
  obtain ⟨o, ho, hno⟩ := hrow B e.symm
  rw [hs] at ho
  cases ho
  simp [Obj.isCells] at hno
theorem own_pureF {β : Type} (p : β → Prop) : Own (fun s (_ : World) => p s) := fun _ _ _ _ hs _ _ => hs
theorem slice_toF (a : Option Addr) (n c p : Nat) (hc : p ≤ c) (ha : ∀ x, a = some x → ∃ b off, x = ⟨b, off, none⟩) (hp : p ≤ 1000000000) (w : World) : (Instr.slice 40 (.slice a n c) none (some (.int .i64 (p : Int))) none).run Try.prog w = .ok (.slice a p c) w := by
  have hs : ∀ w, (sizeOf (Try.prog.elem 40)).run Try.prog w = .ok 1 w := fun w => by kernel_rfl
  rw [run_slice_h (P := Try.prog) (w := w) 40 a n c (by kernel_rfl) .i64 (p : Int) (by omega) (by omega), hs]
  cases a with
  | none => simp [Result.andThen_ok, sliced]
  | some x =>
    obtain ⟨b, off, rfl⟩ := ha x rfl
    simp [Result.andThen_ok, sliced, Go.WideShapes.add_plain]
theorem foldset : ∀ (l : List Value) (k : Nat) (Z : Array Value), k + l.length ≤ Z.size → ∀ j, (List.foldl (fun cs (x : Value × Nat) => cs.setIfInBounds x.snd x.fst) Z (l.zipIdx k))[j]? = if k ≤ j ∧ j < k + l.length then l[j - k]? else Z[j]?
  | [], k, Z, _, j => by
    simp only [List.zipIdx_nil, List.foldl_nil, List.length_nil, Nat.add_zero]
    rw [if_neg (by omega)]
  | a :: r, k, Z, h, j => by
    rw [List.zipIdx_cons, List.foldl_cons, foldset r (k + 1) _ (by simp at h ⊢; omega)]
    simp only [List.length_cons]
    by_cases h1 : k + 1 ≤ j ∧ j < k + 1 + r.length
    · rw [if_pos h1, if_pos (by omega), show j - k = (j - (k + 1)) + 1 by omega, List.getElem?_cons_succ]
    · rw [if_neg h1, Array.getElem?_setIfInBounds]
      by_cases h2 : k = j
      · subst h2
        rw [if_pos rfl, if_pos (by simp at h; omega), if_pos (by omega), Nat.sub_self, List.getElem?_cons_zero]
      · rw [if_neg h2, if_neg (by omega)]
theorem fold16 (A : Array Value) (h : A.size = 16) : Array.foldl (fun cs (x : Value × Nat) => cs.setIfInBounds x.snd x.fst) #[Value.int .u8 0, Value.int .u8 0, Value.int .u8 0, Value.int .u8 0, Value.int .u8 0, Value.int .u8 0, Value.int .u8 0, Value.int .u8 0, Value.int .u8 0, Value.int .u8 0, Value.int .u8 0, Value.int .u8 0, Value.int .u8 0, Value.int .u8 0, Value.int .u8 0, Value.int .u8 0] (A.zipIdx 0) 0 16 = A := by
  have e : Array.foldl (fun cs (x : Value × Nat) => cs.setIfInBounds x.snd x.fst) #[Value.int .u8 0, Value.int .u8 0, Value.int .u8 0, Value.int .u8 0, Value.int .u8 0, Value.int .u8 0, Value.int .u8 0, Value.int .u8 0, Value.int .u8 0, Value.int .u8 0, Value.int .u8 0, Value.int .u8 0, Value.int .u8 0, Value.int .u8 0, Value.int .u8 0, Value.int .u8 0] (A.zipIdx 0) 0 16 = List.foldl (fun cs (x : Value × Nat) => cs.setIfInBounds x.snd x.fst) #[Value.int .u8 0, Value.int .u8 0, Value.int .u8 0, Value.int .u8 0, Value.int .u8 0, Value.int .u8 0, Value.int .u8 0, Value.int .u8 0, Value.int .u8 0, Value.int .u8 0, Value.int .u8 0, Value.int .u8 0, Value.int .u8 0, Value.int .u8 0, Value.int .u8 0, Value.int .u8 0] (A.toList.zipIdx 0) := by
    rw [show (16 : Nat) = (A.zipIdx 0).size by simp [h], ← Array.foldl_toList]
    simp
  rw [e]
  apply Array.ext_getElem?
  intro j
  rw [foldset A.toList 0 _ (by simp [h])]
  by_cases hj : j < 16
  · rw [if_pos (by simp [h]; exact hj)]
    simp
  · rw [if_neg (by simp [h]; omega), Array.getElem?_eq_none (by simp; omega), Array.getElem?_eq_none (by omega)]
/-- the cells of pieces -/
def pcsL (f : Nat → Int) {m : Nat} (l : List (Cm m)) : List Value := l.flatMap fun c => rowU (frK f c.1) 16
theorem pcsL_snoc (f : Nat → Int) {m : Nat} (l : List (Cm m)) (c : Cm m) : pcsL f (l ++ [c]) = pcsL f l ++ rowU (frK f c.1) 16 := by simp [pcsL]
theorem pcsL_all (f : Nat → Int) (m : Nat) : ∀ k, k ≤ m → pcsL f (cmL m k) = rowU f (k * 16)
  | 0, _ => rfl
  | k + 1, h => by
    rw [cmL_succ (show k < m by omega), pcsL_snoc, pcsL_all f m k (by omega), rowU_cat, show (k + 1) * 16 = k * 16 + 16 by omega]
    refine rowU_congr fun j hj => ?_
    unfold catU frK
    split
    · rfl
    · show f (k * 16 + (j - k * 16)) = f j
      rw [show k * 16 + (j - k * 16) = j by omega]
theorem frK_row (f : Nat → Int) (c : Nat) : (Q16 (frK f c)).toList = rowU (frK f c) 16 := by simp [rowU, arr]
theorem putObj_grown (W : World) (D : Nat) (o : Obj) : W.grownBy (W.putObj D o) (some D) :=
  ⟨rfl, rfl, rfl, by simp, fun k _ hk => World.putObj_heap_other (fun e => hk (by rw [e]))⟩
set_option maxRecDepth 100000 in
set_option maxHeartbeats 16000000 in
theorem iframes_in (F : Fence) (hF : F = Fence.wide) (N : Nat) (hn1 : 3 ≤ N) (p q r n : Nat) (hpq : 16 * q = p) (hn : n = p + r) (hr : r < 16) (hq : q ≤ 700) (f : Nat → Int) (a : Option Addr) (cap : Nat) (hcap : n ≤ cap) (hcap2 : cap ≤ 4611686018427387904) (w : World) (ha : ∀ x, a = some x → ∃ b off, x = ⟨b, off, none⟩) (h : YrR w.heap.size w a n f) :
    CallsIn F N Try.prog 42 #[.slice a n cap] w fun e w' => ∃ v, e = .returned (.tuple #[v, .int .i64 (r : Int), .int .i64 0]) ∧ OwnFr w.heap.size v q f w' ∧ Below w.heap.size w w' := by
  have h0 : F.fn 42 := by rw [hF]; trivial
  have h2 : F.fn 59 := by rw [hF]; trivial
  have h3 : F.fn 51 := by rw [hF]; trivial
  have hro : F.round = none := by rw [hF]; rfl
  have hN1 : 1 ≤ N := by omega
  obtain ⟨i0, hi, hz0, hz1, hz2⟩ := info_parts info_fr
  obtain ⟨g, off, hga, hgl, hgc⟩ : ∃ g off, (0 < p → a = some ⟨g, off, none⟩) ∧ (0 < p → g < w.heap.size) ∧ (0 < p → ∀ j, j < n → w.cell? ⟨g, off + j, none⟩ = some (.int .u8 (f j))) := by
    rcases h with h | ⟨g, off, h1, h2, h3⟩
    · exact ⟨0, 0, fun h' => by omega, fun h' => by omega, fun h' => by omega⟩
    · exact ⟨g, off, fun _ => h1, fun _ => h2, fun _ => h3⟩
  have CH : Hid (∀ a len cap W m, CallsIn F m Try.prog 51 #[.slice a len cap, .int .i64 16] W fun e w' => e = .returned (.func (.func 59) #[] #[.pointer (some ⟨W.heap.size, 0, none⟩), .pointer (some ⟨W.heap.size + 1, 0, none⟩)]) ∧ w' = (W.alloc (.cells #[.slice a len cap] 40)).alloc (.cells #[.int .i64 16] 3)) := Lib.hid fun a len cap W m => by
    rw [hF]
    exact callsIn_wide.2 (chunkG_any a len cap 16 (by omega) W)
  have hsl := fun w => slice_toF a n cap p (by omega) ha (by omega) w
  have tn : (n : Int).tmod 16 = (r : Int) := by rw [Int.tmod_eq_emod_of_nonneg (by omega)]; omega
  have tn2 : (n : Int) % 16 = (r : Int) := by omega
  have tsub : (n : Int) - (r : Int) = (p : Int) := by omega
  have tge : (p : Int) ≤ 11200 := by omega
  have tnr : (n : Int) ≤ 11215 := by omega
  have trr : (0 : Int) ≤ (r : Int) := by omega
  have HQ : Hid (q ≤ 700) := Lib.hid hq
  have HCAP : Hid (p ≤ cap ∧ cap ≤ 4611686018427387904) := Lib.hid ⟨by omega, hcap2⟩
  have HPQ := Lib.hid hpq
  have HGA := Lib.hid hga
  have HGL := Lib.hid hgl
  have HGC : Hid (0 < p → ∀ j, j < p → w.cell? ⟨g, off + j, none⟩ = some (.int .u8 (f j))) := Lib.hid (fun h' j hj => hgc h' j (by omega))
  have HF := Lib.hid hF
  clear hF hn hr hq hcap hcap2 ha h hga hgl hgc hpq
  have S0 : Hid (Boxed (w.alloc (.cells #[.slice none 0 0] 41)) w.heap.size 41 (.slice none 0 0)) := Lib.hid (World.alloc_heap_new w _)
  have SB : Hid (Below w.heap.size w (w.alloc (.cells #[.slice none 0 0] 41))) := Lib.hid ((Below.refl _ w).alloc (Nat.le_refl _) _)
  have SZ : Hid ((w.alloc (.cells #[.slice none 0 0] 41)).heap.size = w.heap.size + 1) := Lib.hid (by simp)
  refine callsIn_of_wp_marks Try.func42 rfl h0 ?_ hro
  simp only [Try.ntmps42, List.size_toArray, List.length_cons, List.length_nil, Nat.reduceAdd, Nat.reduceSub, Array.replicate_succ, Array.replicate_zero, List.push_toArray, List.append_toArray, List.nil_append, List.cons_append]
  gi_wp2_with fail
  generalize w.alloc (.cells #[.slice none 0 0] 41) = w1 at S0 SB SZ ⊢
  refine (CH.out _ _ _ _ _).mono ?_
  rintro e w3 ⟨rfl, rfl⟩
  gi_wp2
  have HY := SZ.out
  rw [HY]
  have G0 : Hid (Boxed ((w1.alloc (.cells #[.slice a p cap] 40)).alloc (.cells #[.int .i64 16] 3)) w.heap.size 41 (.slice none 0 0)) := Lib.hid ((S0.out.alloc _).alloc _)
  have G1 : Hid (((w1.alloc (.cells #[.slice a p cap] 40)).alloc (.cells #[.int .i64 16] 3)).heap[w.heap.size + 1]? = some (.cells #[.slice a p cap] 40 (0, 0))) := Lib.hid ((Below.heap_alloc _ _ _ (by simp; omega)).trans (by rw [← HY]; exact World.alloc_heap_new w1 _))
  have G2 : Hid (((w1.alloc (.cells #[.slice a p cap] 40)).alloc (.cells #[.int .i64 16] 3)).heap[w.heap.size + 1 + 1]? = some (.cells #[.int .i64 16] 3 (0, 0))) := Lib.hid (by
    have := World.alloc_heap_new (w1.alloc (.cells #[.slice a p cap] 40)) (.cells #[.int .i64 16] 3)
    rw [World.size_alloc, HY] at this
    exact this)
  have GB : Hid (Below w.heap.size w ((w1.alloc (.cells #[.slice a p cap] 40)).alloc (.cells #[.int .i64 16] 3))) := Lib.hid ((SB.out.alloc (by omega) _).alloc (by simp; omega) _)
  have GZ : Hid (((w1.alloc (.cells #[.slice a p cap] 40)).alloc (.cells #[.int .i64 16] 3)).heap.size = w.heap.size + 1 + 1 + 1) := Lib.hid (by simp; omega)
  generalize ((w1.alloc (.cells #[.slice a p cap] 40)).alloc (.cells #[.int .i64 16] 3)) = w3 at G0 G1 G2 GB GZ ⊢
  clear S0 SB SZ HY CH w1
  refine wpIn_rangeFunc_ownG hro hN1 (gf := 59) (lb := #[.pointer (some ⟨w.heap.size + 1, 0, none⟩), .pointer (some ⟨w.heap.size + 1 + 1, 0, none⟩)]) rfl h2 (enters_of Try.func59 (by kernel_rfl) rfl)
    (chunkG_stops F HF.out (N - 1) (by omega) (w.heap.size + 1) (w.heap.size + 1 + 1) 16 q p cap a g off (by omega) (by omega) (by have := HQ.out; have := HPQ.out; omega) HCAP.out.1 (by have := HCAP.out.2; omega) (by have := HPQ.out; omega) (by have := HPQ.out; omega) HGA.out w3 G1.out G2.out) KpD.trans (KpD.put (by have := GZ.out; omega) (by have := GZ.out; omega)) (Below.refl _ _) (fun _ => rfl)
    (fun pre W => (∃ v, Boxed W w.heap.size 41 v ∧ W.ownsRow w.heap.size 29 16 v pre.length (pcsL f pre) ∧ True) ∧ W.heap[w.heap.size + 1]? = some (.cells #[.slice a p cap] 40 (0, 0)) ∧ W.heap[w.heap.size + 1 + 1]? = some (.cells #[.int .i64 16] 3 (0, 0)) ∧ Below w.heap.size w W)
    (fun _ _ _ => False)
    (OwnFrom.and (Own.from (holdsRow_own w.heap.size w.heap.size 41 29 16 (fun pre => pre.length) (fun pre => pcsL f pre) (fun pre v => True)) _) (OwnFrom.and (Own.from (heap_ownG _ _ _ _) _) (OwnFrom.and (Own.from (heap_ownG _ _ _ _) _) (ownFrom_below (Nat.le_refl _) (by have := GZ.out; omega)))))
    (fun c => Own.from (own_pureF (fun _ => False)) _)
    ⟨⟨_, G0.out, World.ownsRow_nil _ _ _ _, trivial⟩, G1.out, G2.out, GB.out⟩
    (fun c => { tmps := #[.slice a n cap, undef, .slice none 0 0, .int .i64 0, .int .i64 0, .int .i64 (r : Int), .slice a p cap, .pointer (some ⟨w.heap.size, 0, none⟩), .slice (some ⟨g, off + 16 * c.1, none⟩) (pcL 16 p (16 * c.1)) (pcL 16 p (16 * c.1)), .slice a n cap, .int .i64 (n : Int), .int .i64 (r : Int), .slice a n cap, .slice a n cap, .int .i64 (n : Int), .int .i64 (r : Int), .int .i64 (p : Int), .slice a p cap, .slice a p cap, .int .i64 (p : Int), .bool (decide ((11200 : Int) < (p : Int))), .slice a p cap, .func (.func 59) #[] #[.pointer (some ⟨w.heap.size + 1, 0, none⟩), .pointer (some ⟨w.heap.size + 1 + 1, 0, none⟩)], .slice (some ⟨g, off + 16 * c.1, none⟩) (pcL 16 p (16 * c.1)) (pcL 16 p (16 * c.1)), undef, undef, undef, undef, undef, undef, undef, undef], defers := [] }) ?assign ?body ?done ?stop
  case assign =>
    intro ll x W K hK
    gi_wp2
    exact hK
  case body =>
    rintro ll pre ⟨c, hc⟩ W0 ⟨⟨v, hv, hrow, -⟩, hP1, hP2, hB⟩ hlen
    obtain ⟨i, hi⟩ : ∃ i, 16 * c = i := ⟨_, rfl⟩
    have hpc : pcL 16 p i = 16 := by unfold pcL; have := HPQ.out; omega
    have GA : Hid (∀ W, Below w.heap.size w W → ∀ j u, (Q16 (frK f c))[j]? = some u → W.cell? ⟨g, off + i + j, none⟩ = some u) := Lib.hid fun W hW j u e => by
      have hj : j < 16 := by
        rcases Nat.lt_or_ge j 16 with h | h
        · exact h
        · rw [arr_none _ _ _ _ h] at e; cases e
      have hp0 : 0 < p := by have := HPQ.out; omega
      rw [hW.cell (p := ⟨g, off + i + j, none⟩) (HGL.out hp0), Nat.add_assoc, HGC.out hp0 (i + j) (by have := HPQ.out; omega), ← e, arr_get _ _ _ _ hj]
      unfold frK
      rw [show c * 16 + j = i + j by omega]
    have NX : Hid (pcsL f (pre ++ [(⟨c, hc⟩ : Cm q)]) = pcsL f pre ++ (Q16 (frK f c)).toList) := Lib.hid (by rw [pcsL_snoc, frK_row])
    have A16 : Hid ((Q16 (frK f c)).size = 16) := Lib.hid (arr_size _ _ _)
    have AO : Hid ((Q16 (frK f c)).all (·.oneCell') = true) := Lib.hid (arr_cells _ _ _)
    obtain ⟨A, hA⟩ : ∃ A, Q16 (frK f c) = A := ⟨_, rfl⟩
    rw [hA] at GA NX A16 AO
    obtain ⟨xs, hxs⟩ : ∃ xs, pcsL f pre = xs := ⟨_, rfl⟩
    rw [hxs] at NX hrow
    obtain ⟨kn, hkn⟩ : ∃ kn, pre.length = kn := ⟨_, rfl⟩
    have NL : Hid ((pre ++ [(⟨c, hc⟩ : Cm q)]).length = kn + 1) := Lib.hid (by simp [hkn])
    have KN : Hid (kn ≤ 700) := Lib.hid (by have := HQ.out; omega)
    rw [hkn] at hrow
    obtain ⟨ys, hys⟩ : ∃ ys, xs ++ A.toList = ys := ⟨_, rfl⟩
    have YS : Hid (ys = xs ++ A.toList) := Lib.hid hys.symm
    rw [hys] at NX
    have BX := Lib.hid hv
    have RW := Lib.hid hrow
    have Q1 := Lib.hid hP1
    have Q2 := Lib.hid hP2
    have QB := Lib.hid hB
    simp only [hi, hpc]
    clear hA hxs hkn hys hv hrow hP1 hP2 hB hlen hi hpc
    have hd : 1 ≤ N - 1 - 1 := by omega
    gi_wp2_with fail
    refine wpIn_region_inv hmxD (fun listed act W => listed.size = 7 ∧ ((listed.getD 6 false = false → Boxed W w.heap.size 41 v) ∧ (listed.getD 5 false = false → W.ownsRow w.heap.size 29 16 v kn xs) ∧ W.heap[w.heap.size + 1]? = some (.cells #[.slice a p cap] 40 (0, 0)) ∧ W.heap[w.heap.size + 1 + 1]? = some (.cells #[.int .i64 16] 3 (0, 0)) ∧ KeepsOthers W0 W ∧ Below w.heap.size w W) ∧ ∃ x0 x1 x2 x3 x4 x5, act = { tmps := #[.slice a n cap, undef, .slice none 0 0, .int .i64 0, .int .i64 0, .int .i64 (r : Int), .slice a p cap, .pointer (some ⟨w.heap.size, 0, none⟩), .slice (some ⟨g, off + i, none⟩) 16 16, .slice a n cap, .int .i64 (n : Int), .int .i64 (r : Int), .slice a n cap, .slice a n cap, .int .i64 (n : Int), .int .i64 (r : Int), .int .i64 (p : Int), .slice a p cap, .slice a p cap, .int .i64 (p : Int), .bool (decide ((11200 : Int) < (p : Int))), .slice a p cap, .func (.func 59) #[] #[.pointer (some ⟨w.heap.size + 1, 0, none⟩), .pointer (some ⟨w.heap.size + 1 + 1, 0, none⟩)], .slice (some ⟨g, off + i, none⟩) 16 16, x0, x1, x2, x3, x4, x5, undef, undef], defers := [] } ∧ (listed.getD 0 false = true → x0 = v) ∧ (listed.getD 1 false = true → x1 = .slice (some ⟨g, off + i, none⟩) 16 16) ∧ (listed.getD 2 false = true → x2 = .pointer (some ⟨g, off + i, none⟩)) ∧ (listed.getD 3 false = true → x3 = .agg A) ∧ (listed.getD 4 false = true → listed.getD 5 false = true ∨ ∃ t, x4 = .slice (some ⟨t, 0, none⟩) 1 1 ∧ ∀ j u, A[j]? = some u → W.cell? ⟨t, j, none⟩ = some u) ∧ (listed.getD 5 false = true → listed.getD 4 false = true ∧ listed.getD 0 false = true ∧ W.ownsRow w.heap.size 29 16 x5 (kn + 1) ys) ∧ (listed.getD 6 false = true → listed.getD 0 false = true ∧ listed.getD 5 false = true ∧ Boxed W w.heap.size 41 x5)) (by kernel_rfl) ?h0 (fun _ _ _ h => h.1) ?hstep ?hend
    case h0 =>
      refine ⟨rfl, ⟨fun _ => BX.out, fun _ => RW.out, Q1.out, Q2.out, KeepsOthers.drew _, QB.out.drew⟩, _, _, _, _, _, _, rfl, ?_, ?_, ?_, ?_, ?_, ?_, ?_⟩ <;> (intro h; exact absurd h (by decide))
    case hstep =>
      rintro listed act W ii o ⟨hs, ⟨hw6, hw5, hq1, hq2, hko, hbw⟩, x0, x1, x2, x3, x4, x5, rfl, e0, e1, e2, e3, e4, e5, e6⟩ hun hio hpre
      have HW6H := Lib.hid hw6
      have HW5H := Lib.hid hw5
      have HQ1H := Lib.hid hq1
      have HQ2H := Lib.hid hq2
      have HKOH := Lib.hid hko
      have HBWH := Lib.hid hbw
      have E0H := Lib.hid e0
      have E1H := Lib.hid e1
      have E2H := Lib.hid e2
      have E3H := Lib.hid e3
      have E4H := Lib.hid e4
      have E5H := Lib.hid e5
      have E6H := Lib.hid e6
      have HSH := Lib.hid hs
      have HUNH := Lib.hid hun
      have HPREH := Lib.hid hpre
      clear hs hw6 hw5 hq1 hq2 hko hbw e0 e1 e2 e3 e4 e5 e6 hun hpre
      match ii, hio with
      | 0, hio =>
        simp only [List.getElem?_toArray, List.getElem?_cons_succ, List.getElem?_cons_zero, Option.some.injEq] at hio
        subst hio
        have n6 : listed.getD 6 false = false := nl_of (fun h => not_listed HUNH.out (E6H.out h).1)
        have cb := (HW6H.out n6).cell
        refine wpOpIn_by rfl fun K HK => ?_
        gi_wp2
        exact HK.out _ _ ⟨by rw [Array.size_setIfInBounds, HSH.out], ⟨fun h => HW6H.out (nl_back h), fun h => HW5H.out (nl_back h), HQ1H.out, HQ2H.out, HKOH.out, HBWH.out⟩, _, _, _, _, _, _, rfl, fun _ => rfl, fun h => E1H.out ((listed_set h).resolve_left (by decide)), fun h => E2H.out ((listed_set h).resolve_left (by decide)), fun h => E3H.out ((listed_set h).resolve_left (by decide)), fun h => (E4H.out ((listed_set h).resolve_left (by decide))).imp listed_keep id, fun h => ⟨listed_keep (E5H.out ((listed_set h).resolve_left (by decide))).1, listed_keep (E5H.out ((listed_set h).resolve_left (by decide))).2.1, (E5H.out ((listed_set h).resolve_left (by decide))).2.2⟩, fun h => ⟨listed_keep (E6H.out ((listed_set h).resolve_left (by decide))).1, listed_keep (E6H.out ((listed_set h).resolve_left (by decide))).2.1, (E6H.out ((listed_set h).resolve_left (by decide))).2.2⟩⟩
      | 1, hio =>
        simp only [List.getElem?_toArray, List.getElem?_cons_succ, List.getElem?_cons_zero, Option.some.injEq] at hio
        subst hio
        refine wpOpIn_by rfl fun K HK => ?_
        gi_wp2
        exact HK.out _ _ ⟨by rw [Array.size_setIfInBounds, HSH.out], ⟨fun h => HW6H.out (nl_back h), fun h => HW5H.out (nl_back h), HQ1H.out, HQ2H.out, HKOH.out, HBWH.out⟩, _, _, _, _, _, _, rfl, fun h => E0H.out ((listed_set h).resolve_left (by decide)), fun _ => rfl, fun h => E2H.out ((listed_set h).resolve_left (by decide)), fun h => E3H.out ((listed_set h).resolve_left (by decide)), fun h => (E4H.out ((listed_set h).resolve_left (by decide))).imp listed_keep id, fun h => ⟨listed_keep (E5H.out ((listed_set h).resolve_left (by decide))).1, listed_keep (E5H.out ((listed_set h).resolve_left (by decide))).2.1, (E5H.out ((listed_set h).resolve_left (by decide))).2.2⟩, fun h => ⟨listed_keep (E6H.out ((listed_set h).resolve_left (by decide))).1, listed_keep (E6H.out ((listed_set h).resolve_left (by decide))).2.1, (E6H.out ((listed_set h).resolve_left (by decide))).2.2⟩⟩
      | 2, hio =>
        simp only [List.getElem?_toArray, List.getElem?_cons_succ, List.getElem?_cons_zero, Option.some.injEq] at hio
        subst hio
        have p1 := HPREH.out ⟨1, .data⟩ (by simp) rfl
        obtain rfl := E1H.out p1
        have hat := fun W => run_arrayAtF (P := Try.prog) 29 _ 16 (some ⟨g, off + i, none⟩) 16 16 Try.underlying29 (by omega) W
        refine wpOpIn_by rfl fun K HK => ?_
        gi_wp2
        exact HK.out _ _ ⟨by rw [Array.size_setIfInBounds, HSH.out], ⟨fun h => HW6H.out (nl_back h), fun h => HW5H.out (nl_back h), HQ1H.out, HQ2H.out, HKOH.out, HBWH.out⟩, _, _, _, _, _, _, rfl, fun h => E0H.out ((listed_set h).resolve_left (by decide)), fun _ => rfl, fun _ => rfl, fun h => E3H.out ((listed_set h).resolve_left (by decide)), fun h => (E4H.out ((listed_set h).resolve_left (by decide))).imp listed_keep id, fun h => ⟨listed_keep (E5H.out ((listed_set h).resolve_left (by decide))).1, listed_keep (E5H.out ((listed_set h).resolve_left (by decide))).2.1, (E5H.out ((listed_set h).resolve_left (by decide))).2.2⟩, fun h => ⟨listed_keep (E6H.out ((listed_set h).resolve_left (by decide))).1, listed_keep (E6H.out ((listed_set h).resolve_left (by decide))).2.1, (E6H.out ((listed_set h).resolve_left (by decide))).2.2⟩⟩
      | 3, hio =>
        simp only [List.getElem?_toArray, List.getElem?_cons_succ, List.getElem?_cons_zero, Option.some.injEq] at hio
        subst hio
        have p2 := HPREH.out ⟨2, .data⟩ (by simp) rfl
        obtain rfl := E2H.out p2
        refine wpOpIn_by rfl fun K HK => ?_
        gi_wp2_with (refine wpListIn_load_partF rfl 29 _ rfl g (off + i) rfl A _ (GA.out W HBWH.out) Try.underlying29 rfl (fr_info _ A16.out) ?_)
        exact HK.out _ _ ⟨by rw [Array.size_setIfInBounds, HSH.out], ⟨fun h => HW6H.out (nl_back h), fun h => HW5H.out (nl_back h), HQ1H.out, HQ2H.out, HKOH.out, HBWH.out⟩, _, _, _, _, _, _, rfl, fun h => E0H.out ((listed_set h).resolve_left (by decide)), fun h => E1H.out ((listed_set h).resolve_left (by decide)), fun _ => rfl, fun _ => rfl, fun h => (E4H.out ((listed_set h).resolve_left (by decide))).imp listed_keep id, fun h => ⟨listed_keep (E5H.out ((listed_set h).resolve_left (by decide))).1, listed_keep (E5H.out ((listed_set h).resolve_left (by decide))).2.1, (E5H.out ((listed_set h).resolve_left (by decide))).2.2⟩, fun h => ⟨listed_keep (E6H.out ((listed_set h).resolve_left (by decide))).1, listed_keep (E6H.out ((listed_set h).resolve_left (by decide))).2.1, (E6H.out ((listed_set h).resolve_left (by decide))).2.2⟩⟩
      | 4, hio =>
        simp only [List.getElem?_toArray, List.getElem?_cons_succ, List.getElem?_cons_zero, Option.some.injEq] at hio
        subst hio
        have p3 := HPREH.out ⟨3, .data⟩ (by simp) rfl
        obtain rfl := E3H.out p3
        have n5 : listed.getD 5 false = false := nl_of (fun h => not_listed HUNH.out (E5H.out h).1)
        have n6 : listed.getD 6 false = false := nl_of (fun h => not_listed HUNH.out (E5H.out (E6H.out h).2.1).1)
        have HL := Lib.hid (HBWH.out.size)
        have sA := A16.out
        refine wpOpIn_by rfl fun K HK => ?_
        gi_wp2
        have TC : Hid (∀ B : Array Value, B = A → ∀ (j : Nat) (u : Value), A[j]? = some u → (W.alloc (.cells B 29)).cell? ⟨W.heap.size, j, none⟩ = some u) := Lib.hid (fun B hB j u e => by rw [hB]; exact (World.cell?_alloc_new W A 29 j).trans e)
        exact HK.out _ _ ⟨by rw [Array.size_setIfInBounds, HSH.out], ⟨fun _ => (HW6H.out n6).alloc _, fun _ => (HW5H.out n5).alloc _, (Below.heap_alloc _ _ _ (lt_heap HQ1H.out)).trans HQ1H.out, (Below.heap_alloc _ _ _ (lt_heap HQ2H.out)).trans HQ2H.out, HKOH.out.trans (KeepsOthers.alloc _ _), HBWH.out.alloc HL.out _⟩, _, _, _, _, _, _, rfl, fun h => E0H.out ((listed_set h).resolve_left (by decide)), fun h => E1H.out ((listed_set h).resolve_left (by decide)), fun h => E2H.out ((listed_set h).resolve_left (by decide)), fun _ => rfl, fun _ => .inr ⟨_, rfl, TC.out _ (fold16 A A16.out)⟩, fun h => absurd (E5H.out ((listed_set h).resolve_left (by decide))).1 (not_listed HUNH.out), fun h => absurd (E5H.out (E6H.out ((listed_set h).resolve_left (by decide))).2.1).1 (not_listed HUNH.out)⟩
      | 5, hio =>
        simp only [List.getElem?_toArray, List.getElem?_cons_succ, List.getElem?_cons_zero, Option.some.injEq] at hio
        subst hio
        have p0 := HPREH.out ⟨0, .data⟩ (by simp) rfl
        have p4 := HPREH.out ⟨4, .data⟩ (by simp) rfl
        obtain rfl := E0H.out p0
        obtain ⟨t, rfl, ht⟩ := (E4H.out p4).resolve_left (not_listed HUNH.out)
        have HT := Lib.hid ht
        have P0 := Lib.hid p0
        have P4 := Lib.hid p4
        have n5 : listed.getD 5 false = false := nl_of (not_listed HUNH.out)
        have n6 : listed.getD 6 false = false := nl_of (fun h => not_listed HUNH.out (E6H.out h).2.1)
        have HRW := Lib.hid (HW5H.out n5)
        have HBX := Lib.hid (HW6H.out n6)
        have HL := Lib.hid (HBWH.out.size)
        clear ht p0 p4 n5 n6
        refine wpOpIn_by rfl fun K HK => ?_
        refine wpListIn_append_own _ rfl (.tmp 24) (.tmp 28) 41 rfl w.heap.size 29 i0 _ 16 16 Try.underlying41 hi hz0 hz1 hz2 rfl (by decide) x0 kn xs rfl HRW.out ⟨t, 0, none⟩ 1 1 A.toList rfl (by simp [A16.out]) (fun j u e => by rw [Go.WideShapes.add_plain, Nat.zero_add]; exact HT.out j u (by simpa using e)) (fun u hu => (Array.all_eq_true_iff_forall_mem.1 AO.out) u (by simpa using hu)) (by unfold maxLen; have := KN.out; omega) (by have := KN.out; omega) HL.out ?_
        intro v5 W5 hown hgrow _
        have HO5 := Lib.hid hown
        have HG5 := Lib.hid hgrow
        clear hown hgrow
        gi_wp2_with (fail)
        exact HK.out _ _ ⟨by rw [Array.size_setIfInBounds, HSH.out], ⟨fun _ => HBX.out.kept HG5.out (HBX.out.not_row (by decide) HRW.out), fun h => absurd (listed_new (i := 5) (by rw [HSH.out]; decide)) (by rw [h]; decide), keep_row HRW.out HQ1H.out (by decide) HG5.out, keep_row HRW.out HQ2H.out (by decide) HG5.out, HKOH.out.trans (KeepsOthers.of_grownBy HG5.out (own_cells HRW.out)), HBWH.out.grown HG5.out HL.out (fun k hk => (HRW.out.lt k hk).1)⟩, _, _, _, _, _, _, rfl, fun _ => rfl, fun h => E1H.out ((listed_set h).resolve_left (by decide)), fun h => E2H.out ((listed_set h).resolve_left (by decide)), fun h => E3H.out ((listed_set h).resolve_left (by decide)), fun _ => .inl (listed_new (by rw [HSH.out]; decide)), fun _ => ⟨listed_keep P4.out, listed_keep P0.out, by rw [YS.out]; exact HO5.out⟩, fun h => absurd (E6H.out ((listed_set h).resolve_left (by decide))).2.1 (not_listed HUNH.out)⟩
      | 6, hio =>
        simp only [List.getElem?_toArray, List.getElem?_cons_succ, List.getElem?_cons_zero, Option.some.injEq] at hio
        subst hio
        have p5 := HPREH.out ⟨5, .data⟩ (by simp) rfl
        have p0 := (E5H.out p5).2.1
        have P0 := Lib.hid p0
        have P5 := Lib.hid p5
        have HRW := Lib.hid (E5H.out p5).2.2
        have n6 : listed.getD 6 false = false := nl_of (not_listed HUNH.out)
        have HBX := Lib.hid (HW6H.out n6)
        have cb := HBX.out.cell
        have cf := HBX.out.frozen
        clear p0 p5 n6
        obtain ⟨g5, cap5, rfl⟩ := ownsRow_succ HRW.out
        refine wpOpIn_by rfl fun K HK => ?_
        gi_wp2_with (fail)
        exact HK.out _ _ ⟨by rw [Array.size_setIfInBounds, HSH.out], ⟨fun h => absurd (listed_new (i := 6) (by rw [HSH.out]; decide)) (by rw [h]; decide), fun h => absurd (listed_keep (i := 6) P5.out) (by rw [h]; decide), (fset_far (by omega) _).trans HQ1H.out, (fset_far (by omega) _).trans HQ2H.out, HKOH.out.trans (KeepsOthers.setCell _ _ _), HBWH.out.setCell (p := ⟨w.heap.size, 0, none⟩) (Nat.le_refl _) _⟩, _, _, _, _, _, _, rfl, fun h => E0H.out ((listed_set h).resolve_left (by decide)), fun h => E1H.out ((listed_set h).resolve_left (by decide)), fun h => E2H.out ((listed_set h).resolve_left (by decide)), fun h => E3H.out ((listed_set h).resolve_left (by decide)), fun h => .inl (listed_keep P5.out), fun h => ⟨listed_keep (E5H.out P5.out).1, listed_keep P0.out, HRW.out.kept (grownBy_setCellF _ w.heap.size _) (.inr (HBX.out.not_row (by decide) HRW.out).symm)⟩, fun _ => ⟨listed_keep P0.out, listed_keep P5.out, HBX.out.set _⟩⟩
      | k + 7, hio => simp at hio
    case hend =>
      rintro listed act W1 ⟨hs, ⟨hw6, hw5, hq1, hq2, hko, hbw⟩, x0, x1, x2, x3, x4, x5, rfl, e0, e1, e2, e3, e4, e5, e6⟩ hall
      have h5 := Lib.hid (e5 (hall 5 (by decide))).2.2
      have h6 := Lib.hid (e6 (hall 6 (by decide))).2.2
      have Zhko := Lib.hid hko
      have Zhq1 := Lib.hid hq1
      have Zhq2 := Lib.hid hq2
      have Zhbw := Lib.hid hbw
      clear hko hq1 hq2 hbw hw6 hw5 e0 e1 e2 e3 e4 e5 e6 hall hs
      gi_wp2
      exact ⟨Zhko.out.from _, ⟨Zhko.out.size, Zhq1.out.trans Q1.out.symm, Zhq2.out.trans Q2.out.symm⟩, ⟨_, h6.out, by rw [NL.out, NX.out]; exact h5.out, trivial⟩, Zhq1.out, Zhq2.out, Zhbw.out⟩
  case done =>
    rintro D ys W hD hys ⟨⟨v, hv, hrow, -⟩, hP1, hP2, hB⟩ hK
    rw [hys, cmL_len (Nat.le_refl _), pcsL_all f q q (Nat.le_refl _)] at hrow
    have hcv := hv.cell
    have HR := Lib.hid hrow
    have HB := Lib.hid hB
    have HK := Lib.hid hK
    have HD := Lib.hid hD
    clear hrow hB hK hys hP1 hP2 hD
    gi_wp2
    refine ⟨by simp, .inl ⟨_, _, rfl, run_takeDeferred HK.out, ?_⟩⟩
    refine ⟨_, (by simp [results, Try.results42, go_sem]), v, rfl, ?_, ?_⟩
    · refine HR.out.kept (putObj_grown W D _) ?_
      rcases HR.out.2 with ⟨rfl, _⟩ | ⟨g', cap', cur', rfl, _, hg', _⟩
      · exact .inl rfl
      · refine .inr fun e => ?_
        obtain rfl : g' = D := by simpa [Value.ownBlock] using e
        have := HK.out
        rw [hg'] at this; cases this
    · exact HB.out.trans (belowK_b (w := w) (Nat.le_refl _) _ D _ _ (by have := HD.out; have := GZ.out; omega) HK.out rfl rfl)
  case stop =>
    rintro D c pre W _ _ h _
    exact h.elim
end Go.Proofs.Ytligafgbknlofaa
