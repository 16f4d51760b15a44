/-
  CONTRACT: the program's ReadMask.
-/
import Derived.Test.YtfnaddpohkbbnaaCh
import Derived.Test.YtfnaddpohkbbnaaMr
import Derived.Test.YtfnaddpohkbbnaaIt
import Derived.Lib.ConvBytes
import Derived.Laws.OwnMore
namespace Go.Proofs.Ytfnaddpohkbbnaa
open Go.ChangeShapes Go.WideShapes Go.ChangeAt Go.RowKit Go.Shelf
attribute [local go_sem] Oper.semAt_some
/-- whether the byte at a place is the sign of a set cell -/
def sgB (T : ByteArray) (j : Nat) : Bool := (T.data[j]?.map fun c => decide ((c.toNat : Int) = 35)) == some true
def rowC (T : ByteArray) (c i : Nat) : List Value := (List.range i).map fun x => Value.bool (sgB T (17 * c + x))
def rowsC (T : ByteArray) (l : List Ck) : List Value := l.flatMap fun c => rowC T c.1 16
theorem rowC_len (T : ByteArray) (c i : Nat) : (rowC T c i).length = i := by simp [rowC]
theorem rowC_succ (T : ByteArray) (c i : Nat) : rowC T c (i + 1) = rowC T c i ++ [.bool (sgB T (17 * c + i))] := by simp [rowC, List.range_succ]
theorem rowsC_snoc (T : ByteArray) (l : List Ck) (c : Ck) : rowsC T (l ++ [c]) = rowsC T l ++ rowC T c.1 16 := by simp [rowsC]
theorem rowsC_len (T : ByteArray) (l : List Ck) : (rowsC T l).length = 16 * l.length := by
  induction l with
  | nil => rfl
  | cons a l ih =>
    have : rowsC T (a :: l) = rowC T a.1 16 ++ rowsC T l := by simp [rowsC]
    rw [this, List.length_append, rowC_len, ih]
    simp; omega
theorem rowsC_all (T : ByteArray) : ∀ k, k ≤ 16 → rowsC T (ckK k) = (List.range (16 * k)).map fun i => Value.bool (rdB T i) := by
  intro k
  induction k with
  | zero => intro _; rfl
  | succ k ih =>
    intro hk
    rw [ckK_succ (show k < 16 by omega), rowsC_snoc, ih (by omega), show 16 * (k + 1) = 16 * k + 16 by omega, List.range_add, List.map_append, List.map_map]
    congr 1
    unfold rowC
    apply List.map_congr_left
    intro x hx
    have hx' : x < 16 := by simpa using hx
    show Value.bool (sgB T (17 * k + x)) = Value.bool (rdB T (16 * k + x))
    unfold sgB rdB
    rw [show (16 * k + x) / 16 = k by omega, show (16 * k + x) % 16 = x by omega]
theorem sg_at (T : ByteArray) (hT : T.size = 272) {j : Nat} (hj : j < 272) : ((((T.data.toList.getD j 0).toNat : Nat) : Int) == 35) = sgB T j := by
  have hlt : j < T.data.size := by have : T.data.size = T.size := rfl; omega
  unfold sgB
  rw [Array.getElem?_eq_getElem hlt]
  have e : T.data.toList.getD j 0 = T.data[j]'hlt := by simp [List.getD, Array.getElem?_eq_getElem hlt]
  rw [e]
  simp only [Option.map_some]
  by_cases h : ((T.data[j]'hlt).toNat : Int) = 35 <;> simp [h]
theorem oneb_at (w : World) (b : Bool) (t : TypeId) : ∀ j u, [Value.bool b][j]? = some u → (w.alloc (.cells #[.bool b] t)).cell? ((⟨w.heap.size, 0, none⟩ : Addr).add j) = some u := by
  intro j u h
  have e : (⟨w.heap.size, 0, none⟩ : Addr).add j = ⟨w.heap.size, j, none⟩ := by rw [Go.WideShapes.add_plain, Nat.zero_add]
  rw [e, World.cell?_alloc_new]
  match j, h with
  | 0, h => exact h
theorem oneb_one (b : Bool) : ∀ u ∈ [Value.bool b], u.oneCell' = true := by
  intro u hu; simp at hu; subst hu; rfl
/-- a block of another type lies as it lay, behind an append and the store of the slice -/
theorem keep_append {W w1 : World} {n₀ B bm : Nat} {e T : TypeId} {size : Nat} {v : Value} {k : Nat} {xs : List Value} {tmp : Obj} {A : Array Value} {fr : Nat × Nat}
    (hrow : W.ownsRow n₀ e size v k xs) (hP : W.heap[bm]? = some (.cells A T fr)) (hTe : T ≠ e) (hB : bm ≠ B) (hgrow : (W.alloc tmp).grownBy w1 v.ownBlock) (u : Value) : (w1.setCell ⟨B, 0, none⟩ u).heap[bm]? = some (.cells A T fr) := by
  have hlt := (Array.getElem?_eq_some_iff.1 hP).1
  refine (mset_far hB u).trans ((hgrow.block bm (by simp; omega) ?_).trans ((Below.heap_alloc _ _ _ hlt).trans hP))
  intro h
  rcases hrow.2 with ⟨rfl, _⟩ | ⟨g, cap, cur, rfl, _, hgb, _⟩
  · simp [Value.ownBlock] at h
  · obtain rfl : bm = g := by simpa [Value.ownBlock] using h
    rw [hP] at hgb
    cases hgb
    exact hTe rfl
theorem own_pure2 {β : Type} (p : β → Prop) : Own (fun s (_ : World) => p s) := fun _ _ _ _ hs _ _ => hs
theorem heap_ownF {β : Type} (B : Nat) (t : TypeId) (A : Array Value) (fr : Nat × Nat) : Own (fun (_ : β) W => W.heap[B]? = some (.cells A t fr)) := fun s X Y row hs hg hrow => by
  refine (hg.block B (Array.getElem?_eq_some_iff.1 hs).1 ?_).trans hs
  intro e
  obtain ⟨o, ho, hno⟩ := hrow B e.symm
  rw [hs] at ho
  cases ho
  simp [Obj.isCells] at hno
theorem heap_own2 {β : Type} (B : Nat) (A : Array Value) (t : TypeId) : Own (fun (_ : β) W => W.heap[B]? = some (.cells A t (0, 0))) := heap_ownF B t A (0, 0)
theorem bytesW_below (w : World) (T : ByteArray) : Below w.heap.size w (Lib.bytesWorld w 5 T) :=
  ⟨rfl, rfl, rfl, by rw [Lib.bytesWorld_size]; omega, fun k hk => Lib.bytesWorld_at_old w _ T k hk⟩
set_option maxRecDepth 100000 in
set_option maxHeartbeats 8000000 in
theorem ireadMask_in (F : Fence) (hF : F = Fence.wide) (n : Nat) (hn : 3 ≤ n) (T : ByteArray) (hT : T.size = 272) (w : World) :
    CallsIn F n Try.prog 16 #[.string T] w (RmPost T w) := by
  unfold RmPost
  have h0 : F.fn 16 := by rw [hF]; trivial
  have h2 : F.fn 94 := by rw [hF]; trivial
  have h3 : F.fn 57 := by rw [hF]; trivial
  have h4 : F.fn 58 := by rw [hF]; trivial
  have h5 : F.fn 59 := by rw [hF]; trivial
  have hro : F.round = none := by rw [hF]; rfl
  have hn1 : 1 ≤ n := by omega
  obtain ⟨i0, hi, hz0, hz1, hz2⟩ := info_parts info_bool
  have CH : Hid (∀ a len cap W m, CallsIn F m Try.prog 57 #[.slice a len cap, .int .i64 17] W fun e w' => e = .returned (.func (.func 94) #[] #[.pointer (some ⟨W.heap.size, 0, none⟩), .pointer (some ⟨W.heap.size + 1, 0, none⟩)]) ∧ w' = (W.alloc (.cells #[.slice a len cap] 29)).alloc (.cells #[.int .i64 17] 3)) := Lib.hid fun a len cap W m => by rw [hF]; exact callsIn_wide.2 (chunk_any a len cap W)
  have S1 : Boxed ((w.alloc (.cells (M16 zI) 24)).alloc (.cells #[.slice none 0 0] BS)) (w.heap.size + 1) BS (.slice none 0 0) := by
    have := World.alloc_heap_new (w.alloc (.cells (M16 zI) 24)) (.cells #[.slice none 0 0] BS)
    rw [World.size_alloc] at this
    exact this
  have S0 : ((w.alloc (.cells (M16 zI) 24)).alloc (.cells #[.slice none 0 0] BS)).heap[w.heap.size]? = some (.cells (M16 zI) 24 (0, 0)) := (Below.heap_alloc _ _ _ (by simp)).trans (World.alloc_heap_new w _)
  have SB : Below w.heap.size w ((w.alloc (.cells (M16 zI) 24)).alloc (.cells #[.slice none 0 0] BS)) := ((Below.refl _ w).alloc (Nat.le_refl _) _).alloc (by simp) _
  have SZ : ((w.alloc (.cells (M16 zI) 24)).alloc (.cells #[.slice none 0 0] BS)).heap.size = w.heap.size + 1 + 1 := by simp
  have Z : M16 zI = #[Value.int .u16 0, Value.int .u16 0, Value.int .u16 0, Value.int .u16 0, Value.int .u16 0, Value.int .u16 0, Value.int .u16 0, Value.int .u16 0, Value.int .u16 0, Value.int .u16 0, Value.int .u16 0, Value.int .u16 0, Value.int .u16 0, Value.int .u16 0, Value.int .u16 0, Value.int .u16 0] := rfl
  have H0 := Lib.hid S0
  have H1 := Lib.hid S1
  have HB := Lib.hid SB
  have HZ := Lib.hid SZ
  have HF := Lib.hid hF
  have HT := Lib.hid hT
  clear S0 S1 SB SZ hF
  rw [Z] at H0 H1 HB HZ
  clear Z
  have tT : ((T.size : Int) != 272) = false := by simp; omega
  have CV := fun W => Lib.run_convert_string_bytes (P := Try.prog) W 9 29 5 T (u := .string) Try.underlying9 Try.underlying29 Try.underlying5
  rw [hT] at CV
  clear hT
  refine callsIn_of_wp_marks Try.func16 rfl h0 ?_ hro
  simp only [Try.ntmps16, List.size_toArray, List.length_cons, List.length_nil, Nat.reduceAdd, Nat.reduceSub, Array.replicate_succ, Array.replicate_zero, List.push_toArray, List.append_toArray, List.nil_append, List.cons_append]
  gi_wp2_with fail
  generalize (w.alloc (.cells #[Value.int .u16 0, Value.int .u16 0, Value.int .u16 0, Value.int .u16 0, Value.int .u16 0, Value.int .u16 0, Value.int .u16 0, Value.int .u16 0, Value.int .u16 0, Value.int .u16 0, Value.int .u16 0, Value.int .u16 0, Value.int .u16 0, Value.int .u16 0, Value.int .u16 0, Value.int .u16 0] 24)).alloc (.cells #[.slice none 0 0] BS) = w1 at H0 H1 HB HZ ⊢
  have GC := Lib.hid (grownCap_ge w1 272 0 5)
  have Y0 := Lib.hid ((Lib.bytesWorld_at_old w1 5 T w.heap.size (by have := HZ.out; omega)).trans H0.out)
  have Y1 : Hid (Boxed (Lib.bytesWorld w1 5 T) (w.heap.size + 1) BS (.slice none 0 0)) := Lib.hid ((Lib.bytesWorld_at_old w1 5 T (w.heap.size + 1) (by have := HZ.out; omega)).trans H1.out)
  have YB := Lib.hid (HB.out.trans ((bytesW_below w1 T).mono (by have := HZ.out; omega)))
  have YZ := Lib.hid (Lib.bytesWorld_size w1 5 T)
  have YG : Hid (∃ A fr, (Lib.bytesWorld w1 5 T).heap[w1.heap.size]? = some (.cells A 5 fr) ∧ ∀ j, j < 272 → A[j]? = some (.int .u8 (((T.data.toList.getD j 0).toNat : Nat) : Int))) := Lib.hid ⟨_, _, Lib.bytesWorld_at_new w1 5 T, fun j hj => by
    have := Lib.bytesWorld_cell w1 5 T j (by have := HT.out; omega)
    rwa [Lib.cell_of_heap (Lib.bytesWorld_at_new w1 5 T) j] at this⟩
  generalize grownCap w1 272 0 5 = cap at GC ⊢
  generalize Lib.bytesWorld w1 5 T = w2 at Y0 Y1 YB YZ YG ⊢
  have HZ' := HZ.out
  rw [HZ'] at YZ YG
  clear H0 H1 HB HZ HZ' w1
  refine (CH.out _ _ _ _ _).mono ?_
  rintro e w3 ⟨rfl, rfl⟩
  gi_wp2
  have HY := YZ.out
  rw [HY]
  obtain ⟨A, fr, hAg, hAc⟩ := YG.out
  have G0 : Hid (((w2.alloc (.cells #[.slice (some ⟨w.heap.size + 1 + 1, 0, none⟩) 272 cap] 29)).alloc (.cells #[.int .i64 17] 3)).heap[w.heap.size]? = some (.cells #[Value.int .u16 0, Value.int .u16 0, Value.int .u16 0, Value.int .u16 0, Value.int .u16 0, Value.int .u16 0, Value.int .u16 0, Value.int .u16 0, Value.int .u16 0, Value.int .u16 0, Value.int .u16 0, Value.int .u16 0, Value.int .u16 0, Value.int .u16 0, Value.int .u16 0, Value.int .u16 0] 24 (0, 0))) := Lib.hid ((Below.heap_alloc _ _ _ (by simp; omega)).trans ((Below.heap_alloc _ _ _ (by omega)).trans Y0.out))
  have G1 : Hid (Boxed ((w2.alloc (.cells #[.slice (some ⟨w.heap.size + 1 + 1, 0, none⟩) 272 cap] 29)).alloc (.cells #[.int .i64 17] 3)) (w.heap.size + 1) BS (.slice none 0 0)) := Lib.hid ((Y1.out.alloc _).alloc _)
  have GA : Hid (((w2.alloc (.cells #[.slice (some ⟨w.heap.size + 1 + 1, 0, none⟩) 272 cap] 29)).alloc (.cells #[.int .i64 17] 3)).heap[w.heap.size + 1 + 1]? = some (.cells A 5 fr)) := Lib.hid ((Below.heap_alloc _ _ _ (by simp; omega)).trans ((Below.heap_alloc _ _ _ (by omega)).trans hAg))
  have G3 : Hid (((w2.alloc (.cells #[.slice (some ⟨w.heap.size + 1 + 1, 0, none⟩) 272 cap] 29)).alloc (.cells #[.int .i64 17] 3)).heap[w.heap.size + 1 + 1 + 1]? = some (.cells #[.slice (some ⟨w.heap.size + 1 + 1, 0, none⟩) 272 cap] 29 (0, 0))) := Lib.hid ((Below.heap_alloc _ _ _ (by simp; omega)).trans (by rw [← HY]; exact World.alloc_heap_new w2 _))
  have G4 : Hid (((w2.alloc (.cells #[.slice (some ⟨w.heap.size + 1 + 1, 0, none⟩) 272 cap] 29)).alloc (.cells #[.int .i64 17] 3)).heap[w.heap.size + 1 + 1 + 1 + 1]? = some (.cells #[.int .i64 17] 3 (0, 0))) := Lib.hid (by
    have := World.alloc_heap_new (w2.alloc (.cells #[.slice (some ⟨w.heap.size + 1 + 1, 0, none⟩) 272 cap] 29)) (.cells #[.int .i64 17] 3)
    rw [World.size_alloc, HY] at this
    exact this)
  have GB : Hid (Below w.heap.size w ((w2.alloc (.cells #[.slice (some ⟨w.heap.size + 1 + 1, 0, none⟩) 272 cap] 29)).alloc (.cells #[.int .i64 17] 3))) := Lib.hid ((YB.out.alloc (by omega) _).alloc (by simp; omega) _)
  have GZ : Hid (((w2.alloc (.cells #[.slice (some ⟨w.heap.size + 1 + 1, 0, none⟩) 272 cap] 29)).alloc (.cells #[.int .i64 17] 3)).heap.size = w.heap.size + 1 + 1 + 1 + 1 + 1) := Lib.hid (by simp; omega)
  have HAC := Lib.hid hAc
  have HC0 := GC.out
  generalize ((w2.alloc (.cells #[.slice (some ⟨w.heap.size + 1 + 1, 0, none⟩) 272 cap] 29)).alloc (.cells #[.int .i64 17] 3)) = w3 at G0 G1 GA G3 G4 GB GZ ⊢
  clear Y0 Y1 YB YZ YG HY hAg hAc GC CH w2
  refine wpIn_rangeFunc_ownG hro hn1 (gf := 94) (lb := #[.pointer (some ⟨w.heap.size + 1 + 1 + 1, 0, none⟩), .pointer (some ⟨w.heap.size + 1 + 1 + 1 + 1, 0, none⟩)]) rfl h2 (enters_of Try.func94 (by kernel_rfl) rfl)
    (chunk_stops F HF.out (n - 1) (by omega) (w.heap.size + 1 + 1 + 1) (w.heap.size + 1 + 1 + 1 + 1) (w.heap.size + 1 + 1) cap HC0 w3 G3.out G4.out) KpC.trans (KpC.put (by have := GZ.out; omega) (by have := GZ.out; omega)) (Below.refl _ _) (fun _ => rfl)
    (fun pre W => (∃ v, Boxed W (w.heap.size + 1) BS v ∧ W.ownsRow w.heap.size 4 1 v (16 * pre.length) (rowsC T pre) ∧ True) ∧ W.heap[w.heap.size]? = some (.cells #[Value.int .u16 0, Value.int .u16 0, Value.int .u16 0, Value.int .u16 0, Value.int .u16 0, Value.int .u16 0, Value.int .u16 0, Value.int .u16 0, Value.int .u16 0, Value.int .u16 0, Value.int .u16 0, Value.int .u16 0, Value.int .u16 0, Value.int .u16 0, Value.int .u16 0, Value.int .u16 0] 24 (0, 0)) ∧ W.heap[w.heap.size + 1 + 1]? = some (.cells A 5 fr) ∧ W.heap[w.heap.size + 1 + 1 + 1]? = some (.cells #[.slice (some ⟨w.heap.size + 1 + 1, 0, none⟩) 272 cap] 29 (0, 0)) ∧ W.heap[w.heap.size + 1 + 1 + 1 + 1]? = some (.cells #[.int .i64 17] 3 (0, 0)) ∧ Below w.heap.size w W)
    (fun _ _ _ => False)
    (OwnFrom.and (Own.from (holdsRow_own w.heap.size (w.heap.size + 1) BS 4 1 (fun pre => 16 * pre.length) (fun pre => rowsC T pre) (fun pre v => True)) _) (OwnFrom.and (Own.from (heap_own2 (w.heap.size) #[Value.int .u16 0, Value.int .u16 0, Value.int .u16 0, Value.int .u16 0, Value.int .u16 0, Value.int .u16 0, Value.int .u16 0, Value.int .u16 0, Value.int .u16 0, Value.int .u16 0, Value.int .u16 0, Value.int .u16 0, Value.int .u16 0, Value.int .u16 0, Value.int .u16 0, Value.int .u16 0] 24) _) (OwnFrom.and (Own.from (heap_ownF (w.heap.size + 1 + 1) 5 A fr) _) (OwnFrom.and (Own.from (heap_own2 (w.heap.size + 1 + 1 + 1) #[.slice (some ⟨w.heap.size + 1 + 1, 0, none⟩) 272 cap] 29) _) (OwnFrom.and (Own.from (heap_own2 (w.heap.size + 1 + 1 + 1 + 1) #[.int .i64 17] 3) _) (ownFrom_below (Nat.le_refl _) (by have := GZ.out; omega)))))))
    (fun c => Own.from (own_pure2 (fun _ => False)) _)
    ⟨⟨_, G1.out, World.ownsRow_nil _ _ _ _, trivial⟩, G0.out, GA.out, G3.out, G4.out, GB.out⟩
    (fun c => { tmps := #[.string T, undef, .pointer (some ⟨w.heap.size, 0, none⟩), .int .i64 0, .pointer (some ⟨w.heap.size + 1, 0, none⟩), .slice (some ⟨w.heap.size + 1 + 1, 17 * c.1, none⟩) 17 17, undef, undef, undef, .string T, .int .i64 (T.size : Int), .bool false, undef, .string T, .slice (some ⟨w.heap.size + 1 + 1, 0, none⟩) 272 cap, .func (.func 94) #[] #[.pointer (some ⟨w.heap.size + 1 + 1 + 1, 0, none⟩), .pointer (some ⟨w.heap.size + 1 + 1 + 1 + 1, 0, none⟩)], .slice (some ⟨w.heap.size + 1 + 1, 17 * c.1, none⟩) 17 17, undef, undef, undef, undef, undef, undef, undef, undef, undef, undef, undef, undef, undef, undef, undef, undef, undef, undef, undef, undef, undef], defers := [] }) ?assign ?body ?done ?stop
  case assign =>
    intro ll x W K hK
    gi_wp2
    exact hK
  case body =>
    rintro ll pre ⟨c, hc⟩ W ⟨⟨v, hv, hrow, -⟩, hP0, hPA, hP3, hP4, hB⟩ hlen
    have hd : 1 ≤ n - 1 - 1 := by omega
    have P3 := Lib.hid hP3
    have P4 := Lib.hid hP4
    have HROW : Hid (∃ v, Boxed W (w.heap.size + 1) BS v ∧ W.ownsRow w.heap.size 4 1 v (16 * pre.length + 0) (rowsC T pre ++ rowC T c 0)) := Lib.hid ⟨v, hv, by rw [show rowsC T pre ++ rowC T c 0 = rowsC T pre by simp [rowC]]; exact hrow⟩
    have Q0 := Lib.hid hP0
    have QA := Lib.hid hPA
    have QB := Lib.hid hB
    have HLL := Lib.hid hlen
    clear hv hrow hP0 hPA hP3 hP4 hB hlen v
    obtain ⟨o, ho⟩ : ∃ o, 17 * c = o := ⟨_, rfl⟩
    have HOO : Hid (o + 17 ≤ 272) := Lib.hid (by omega)
    have SG : Hid (∀ x, x < 16 → ∃ q : Int, A[o + x]? = some (.int .u8 q) ∧ (q == 35) = sgB T (17 * c + x)) := Lib.hid fun x hx => ⟨_, HAC.out (o + x) (by omega), by rw [ho]; exact sg_at T HT.out (by omega)⟩
    simp only [ho]
    clear ho
    gi_wp2
    gi_loopw [7, 20] (fun _ i wr => ∃ x : Nat, x ≤ 16 ∧ i = .int .i64 (x : Int) ∧ (∃ v, Boxed wr (w.heap.size + 1) BS v ∧ wr.ownsRow w.heap.size 4 1 v (16 * pre.length + x) (rowsC T pre ++ rowC T c x)) ∧ wr.heap[w.heap.size]? = some (.cells #[Value.int .u16 0, Value.int .u16 0, Value.int .u16 0, Value.int .u16 0, Value.int .u16 0, Value.int .u16 0, Value.int .u16 0, Value.int .u16 0, Value.int .u16 0, Value.int .u16 0, Value.int .u16 0, Value.int .u16 0, Value.int .u16 0, Value.int .u16 0, Value.int .u16 0, Value.int .u16 0] 24 (0, 0)) ∧ wr.heap[w.heap.size + 1 + 1]? = some (.cells A 5 fr) ∧ wr.heap[w.heap.size + 1 + 1 + 1]? = some (.cells #[.slice (some ⟨w.heap.size + 1 + 1, 0, none⟩) 272 cap] 29 (0, 0)) ∧ wr.heap[w.heap.size + 1 + 1 + 1 + 1]? = some (.cells #[.int .i64 17] 3 (0, 0)) ∧ Below w.heap.size w wr ∧ KeepsOthers W wr) (fun _ i _ => 16 - (intOf i).toNat)
    case atStart => exact ⟨0, by omega, rfl, HROW.out, Q0.out, QA.out, P3.out, P4.out, QB.out, KeepsOthers.refl _⟩
    case round =>
      obtain ⟨x, hx, rfl, ⟨v, hv, hrow⟩, h0', hA', h3', h4', hB, hKO⟩ := hrel
      have L0 := Lib.hid h0'
      have LA := Lib.hid hA'
      have L3 := Lib.hid h3'
      have L4 := Lib.hid h4'
      have LB := Lib.hid hB
      have LK := Lib.hid hKO
      clear h0' hA' h3' h4' hB hKO HROW Q0 QA QB
      by_cases hlx : x < 16
      · have tx : (x : Int) < 16 := by omega
        have HX := Lib.hid hlx
        obtain ⟨q, hAq, hqb⟩ := SG.out x hlx
        have cq : wr.cell? ⟨w.heap.size + 1 + 1, o + x, none⟩ = some (.int .u8 q) := (Lib.cell_of_heap LA.out (o + x)).trans hAq
        have hcv := hv.cell
        have hfv := hv.frozen
        have NV : Hid (∀ b, b = sgB T (17 * c + x) → rowsC T pre ++ rowC T c (x + 1) = (rowsC T pre ++ rowC T c x) ++ [.bool b]) := Lib.hid (by rintro b rfl; rw [rowC_succ, List.append_assoc])
        obtain ⟨b, hb⟩ : ∃ b, sgB T (17 * c + x) = b := ⟨_, rfl⟩
        have NW := Lib.hid (NV.out b hb.symm)
        rw [hb] at hqb
        have HLE : Hid (16 * pre.length + x ≤ 1000000) := Lib.hid (by have := HLL.out; omega)
        clear hb NV hAq
        obtain ⟨kn, hkn⟩ : ∃ kn, 16 * pre.length + x = kn := ⟨_, rfl⟩
        obtain ⟨xs, hxs⟩ : ∃ xs, rowsC T pre ++ rowC T c x = xs := ⟨_, rfl⟩
        rw [hkn] at hrow HLE
        rw [hxs] at hrow NW
        have HKN : Hid (16 * pre.length + (x + 1) = kn + 1) := Lib.hid (by omega)
        clear hkn hxs hlx hx
        gi_wp2_with (gi_at_builtin; refine wpListIn_append_own _ rfl (.tmp 24) (.tmp 27) BS rfl w.heap.size 4 i0 (.bool false) 1 1 Try.underlying68 hi hz0 hz1 hz2 rfl (by decide) v kn xs rfl (hrow.alloc _) ⟨wr.heap.size, 0, none⟩ 1 1 [.bool b] rfl rfl (oneb_at _ _ _) (oneb_one _) (by unfold maxLen; have := HLE.out; omega) (by have := HLE.out; omega) (by have := LB.out.size; simp; omega) ?_; intro v' w1 hown' hgrow _; obtain ⟨g', cap', rfl⟩ := ownsRow_succ hown'; have k0 := Lib.hid (keep_append (B := w.heap.size + 1) hrow L0.out (by decide) (by omega) hgrow (.slice (some ⟨g', 0, none⟩) (kn + 1) cap')); have kA := Lib.hid (keep_append (B := w.heap.size + 1) hrow LA.out (by decide) (by omega) hgrow (.slice (some ⟨g', 0, none⟩) (kn + 1) cap')); have k3 := Lib.hid (keep_append (B := w.heap.size + 1) hrow L3.out (by decide) (by omega) hgrow (.slice (some ⟨g', 0, none⟩) (kn + 1) cap')); have k4 := Lib.hid (keep_append (B := w.heap.size + 1) hrow L4.out (by decide) (by omega) hgrow (.slice (some ⟨g', 0, none⟩) (kn + 1) cap')); obtain ⟨hv2, hv3, hr3, hk3, hb3⟩ := hv.appended (by decide) hrow LB.out.size (by omega) hown' hgrow; have hc3 := hv2.cell; have hf3 := hv2.frozen)
        go_roundw
        case rel => exact ⟨x + 1, HX.out, by go_num, ⟨_, hv3, by rw [HKN.out, NW.out]; exact hr3⟩, k0.out, kA.out, k3.out, k4.out, LB.out.trans hb3, LK.out.trans hk3⟩
        case measure => have := HX.out; simp [intOf]; omega
      · obtain rfl : x = 16 := by omega
        have NE : Hid (16 * (pre ++ [(⟨c, hc⟩ : Ck)]).length = 16 * pre.length + 16 ∧ rowsC T (pre ++ [⟨c, hc⟩]) = rowsC T pre ++ rowC T c 16) := Lib.hid ⟨by simp; omega, rowsC_snoc _ _ _⟩
        gi_wp2
        exact ⟨LK.out.from _, ⟨LK.out.size, L3.out.trans P3.out.symm, L4.out.trans P4.out.symm⟩, ⟨v, hv, by rw [NE.out.1, NE.out.2]; exact hrow, trivial⟩, L0.out, LA.out, L3.out, L4.out, LB.out⟩
  case done =>
    rintro D ys W hD hys ⟨⟨v, hv, hrow, -⟩, hP0, hPA, hP3, hP4, hB⟩ hK
    rw [hys, ckK_len, rowsC_all T 16 (Nat.le_refl _)] at hrow
    have hcv := hv.cell
    have hD2 : w.heap.size + 1 + 1 + 1 + 1 + 1 ≤ D := by have := GZ.out; omega
    have hDW : D < W.heap.size := (Array.getElem?_eq_some_iff.1 hK).1
    obtain ⟨g, cp, rfl, hgl⟩ : ∃ g cp, v = .slice (some ⟨g, 0, none⟩) 256 cp ∧ g < W.heap.size := by
      rcases hrow.2 with ⟨_, h0⟩ | ⟨g, cap, cur, rfl, h1, _⟩
      · omega
      · exact ⟨g, cap, rfl, (hrow.lt g rfl).2⟩
    have MO : Hid (∀ m, CallsIn F m Try.prog 58 #[.slice (some ⟨g, 0, none⟩) 256 cp] W fun e w' => e = .returned (.agg (M16 (rdF T))) ∧ Below W.heap.size W w') := Lib.hid fun m => by
      rw [HF.out, show M16 (rdF T) = M16 (mkW (rdB T) 256) from (mk_both _).symm]
      exact callsIn_wide.2 (maskOfRow_any (rdB T) g cp W hgl fun i hi => by
        rw [hrow.cellAt i (by omega), List.getElem?_map, List.getElem?_range (by omega)]; rfl)
    have TS : Hid (∀ W' m, CallsIn F m Try.prog 59 #[.agg (M16 (rdF T))] W' (TmPost (rdF T) W')) := Lib.hid fun W' m => by rw [HF.out]; exact callsIn_wide.2 (imaskText_any (rdF T) (mkF_MB _ _) W')
    have RY := Lib.hid (fun h : txB (rdF T) = T => rm_yes (T := T) ⟨HT.out, h⟩)
    have RN := Lib.hid (fun h : txB (rdF T) ≠ T => rm_no (T := T) (fun h' => h h'.2))
    have P0 := Lib.hid hP0
    have PB := Lib.hid hB
    have PK := Lib.hid hK
    unfold TmPost at TS
    generalize rdF T = f at MO TS RY RN
    clear hv hrow hP0 hPA hP3 hP4 hB hK hys hgl HAC GZ
    gi_wp2_with fail
    refine (MO.out _).mono ?_
    rintro e W2 ⟨rfl, b2⟩
    have hW2 : D < W2.heap.size := Nat.lt_of_lt_of_le hDW b2.size
    have Q0 := Lib.hid ((b2.block w.heap.size (by omega)).trans P0.out)
    have QK := Lib.hid ((b2.block D hDW).trans PK.out)
    have QB := Lib.hid (PB.out.trans (b2.mono (by omega)))
    obtain ⟨W3, hW3⟩ : ∃ W3, (W2.alloc (.cells #[Value.int .u16 0, Value.int .u16 0, Value.int .u16 0, Value.int .u16 0, Value.int .u16 0, Value.int .u16 0, Value.int .u16 0, Value.int .u16 0, Value.int .u16 0, Value.int .u16 0, Value.int .u16 0, Value.int .u16 0, Value.int .u16 0, Value.int .u16 0, Value.int .u16 0, Value.int .u16 0] 24)).setRow W2.heap.size (M16 f) = W3 := ⟨_, rfl⟩
    have GN : Hid ((W2.alloc (.cells #[Value.int .u16 0, Value.int .u16 0, Value.int .u16 0, Value.int .u16 0, Value.int .u16 0, Value.int .u16 0, Value.int .u16 0, Value.int .u16 0, Value.int .u16 0, Value.int .u16 0, Value.int .u16 0, Value.int .u16 0, Value.int .u16 0, Value.int .u16 0, Value.int .u16 0, Value.int .u16 0] 24)).heap[W2.heap.size]? = some (.cells #[Value.int .u16 0, Value.int .u16 0, Value.int .u16 0, Value.int .u16 0, Value.int .u16 0, Value.int .u16 0, Value.int .u16 0, Value.int .u16 0, Value.int .u16 0, Value.int .u16 0, Value.int .u16 0, Value.int .u16 0, Value.int .u16 0, Value.int .u16 0, Value.int .u16 0, Value.int .u16 0] 24 (0, 0))) := Lib.hid (World.alloc_heap_new W2 _)
    have GM : Hid (W3.heap[W2.heap.size]? = some (.cells (M16 f) 24 (0, 0))) := Lib.hid (by rw [← hW3]; exact setRow_heap _ _ _ _ _ _ GN.out)
    have G0 : Hid (W3.heap[w.heap.size]? = some (.cells #[Value.int .u16 0, Value.int .u16 0, Value.int .u16 0, Value.int .u16 0, Value.int .u16 0, Value.int .u16 0, Value.int .u16 0, Value.int .u16 0, Value.int .u16 0, Value.int .u16 0, Value.int .u16 0, Value.int .u16 0, Value.int .u16 0, Value.int .u16 0, Value.int .u16 0, Value.int .u16 0] 24 (0, 0))) := Lib.hid (by rw [← hW3, setRow_other _ _ _ _ (by omega)]; exact (Below.heap_alloc _ _ _ (by omega)).trans Q0.out)
    have GD : Hid (W3.heap[D]? = some (.deferred (some []))) := Lib.hid (by rw [← hW3, setRow_other _ _ _ _ (by omega)]; exact (Below.heap_alloc _ _ _ (by omega)).trans QK.out)
    have GB3 : Hid (Below w.heap.size w W3) := Lib.hid (by rw [← hW3]; exact below_setRow (QB.out.alloc (by omega) _) (by omega) _)
    have GS : Hid (W2.heap.size < W3.heap.size) := Lib.hid (by rw [← hW3]; simp)
    clear b2 P0 PB PK Q0 QK QB MO
    gi_wp2_with (first | (refine wpListIn_store_row rfl 24 _ _ rfl W2.heap.size (M16 f) rfl rfl 24 _ GN.out (mask_info _ rfl) rfl (arr_cells _ _ _) ?_; rw [hW3]) | (refine wpListIn_load_row rfl 24 _ rfl W2.heap.size rfl 24 _ _ _ GM.out Try.underlying24 rfl (mask_info _ (arr_size _ _ _)) ?_))
    clear hW3 GN
    refine (TS.out _ _).mono ?_
    rintro e W4 ⟨rfl, b4⟩
    have G40 := Lib.hid ((b4.block w.heap.size (by have := GS.out; omega)).trans G0.out)
    have G4M := Lib.hid ((b4.block W2.heap.size GS.out).trans GM.out)
    have G4D := Lib.hid ((b4.block D (by have := GS.out; omega)).trans GD.out)
    have G4B := Lib.hid (GB3.out.trans (b4.mono (by have := GS.out; omega)))
    clear b4 G0 GM GD GB3 TS
    by_cases h : txB f = T
    · rw [h]
      have RZ := Lib.hid (RY.out h)
      clear h RY RN
      have HD3 : Hid ((W4.setRow w.heap.size (M16 f)).heap[D]? = some (.deferred (some []))) := Lib.hid ((setRow_other _ _ _ _ (by omega)).trans G4D.out)
      have HR3 : Hid ((W4.setRow w.heap.size (M16 f)).heap[w.heap.size]? = some (.cells (M16 f) 24 (0, 0))) := Lib.hid (setRow_heap _ _ _ _ _ _ G40.out)
      have HB3 : Hid (Below w.heap.size w (W4.setRow w.heap.size (M16 f))) := Lib.hid (below_setRow G4B.out (Nat.le_refl _) _)
      gi_wp2_with (first | (refine wpListIn_load_row rfl 24 _ rfl W2.heap.size rfl 24 _ _ _ G4M.out Try.underlying24 rfl (mask_info _ (arr_size _ _ _)) ?_) | (refine wpListIn_store_row rfl 24 _ _ rfl w.heap.size (M16 f) rfl rfl 24 _ G40.out (mask_info _ rfl) rfl (arr_cells _ _ _) ?_))
      refine ⟨by simp, .inl ⟨_, _, rfl, run_takeDeferred HD3.out, ?_⟩⟩
      refine ⟨_, results_cell_tmp_row Try.results16 _ _ w.heap.size 24 (M16 f) (0, 0) _ rfl ?_ Try.underlying24 rfl (mask_info _ (arr_size _ _ _)), by rw [RZ.out.1, RZ.out.2]; rfl, ?_⟩
      · exact (World.putObj_heap_other (by omega)).trans HR3.out
      · exact HB3.out.trans (belowK_b (w := w) (Nat.le_refl _) _ D _ _ (by omega) HD3.out rfl rfl)
    · have RZ := Lib.hid (RN.out h)
      have hne := texts_ne h
      have hne2 : (!((txB f).toList == T.toList)) = true := by rw [hne]; rfl
      clear RY RN
      generalize txB f = U at h hne hne2
      have HD3 : Hid ((W4.setRow w.heap.size (M16 zI)).heap[D]? = some (.deferred (some []))) := Lib.hid ((setRow_other _ _ _ _ (by omega)).trans G4D.out)
      have HR3 : Hid ((W4.setRow w.heap.size (M16 zI)).heap[w.heap.size]? = some (.cells (M16 zI) 24 (0, 0))) := Lib.hid (setRow_heap _ _ _ _ _ _ G40.out)
      have HB3 : Hid (Below w.heap.size w (W4.setRow w.heap.size (M16 zI))) := Lib.hid (below_setRow G4B.out (Nat.le_refl _) _)
      gi_wp2_with (first | (refine wpListIn_load_row rfl 24 _ rfl W2.heap.size rfl 24 _ _ _ G4M.out Try.underlying24 rfl (mask_info _ (arr_size _ _ _)) ?_) | (refine wpListIn_store_row rfl 24 _ _ rfl w.heap.size (M16 zI) rfl rfl 24 _ G40.out (mask_info _ rfl) rfl (arr_cells _ _ _) ?_))
      refine ⟨by simp, .inl ⟨_, _, rfl, run_takeDeferred HD3.out, ?_⟩⟩
      refine ⟨_, results_cell_tmp_row Try.results16 _ _ w.heap.size 24 (M16 zI) (0, 0) _ rfl ?_ Try.underlying24 rfl (mask_info _ (arr_size _ _ _)), by rw [RZ.out.1, RZ.out.2]; rfl, ?_⟩
      · exact (World.putObj_heap_other (by omega)).trans HR3.out
      · exact HB3.out.trans (belowK_b (w := w) (Nat.le_refl _) _ D _ _ (by omega) HD3.out rfl rfl)
  case stop =>
    rintro D c pre W _ _ h _
    exact h.elim
set_option maxRecDepth 20000 in
theorem ireadMask_any (T : ByteArray) (w : World) : Calls Try.prog 16 #[.string T] w (RmPost T w) := by
  by_cases hT : T.size = 272
  · exact callsIn_wide.1 (ireadMask_in Fence.wide rfl 3 (Nat.le_refl _) T hT w)
  · unfold RmPost
    have RN := Lib.hid (rm_no (T := T) (fun h => hT h.1))
    have tT : ((T.size : Int) != 272) = true := by simp; omega
    have S0 : (w.alloc (.cells (M16 zI) 24)).heap[w.heap.size]? = some (.cells (M16 zI) 24 (0, 0)) := World.alloc_heap_new w _
    have SB : Below w.heap.size w (w.alloc (.cells (M16 zI) 24)) := (Below.refl _ w).alloc (Nat.le_refl _) _
    have Z : M16 zI = #[Value.int .u16 0, Value.int .u16 0, Value.int .u16 0, Value.int .u16 0, Value.int .u16 0, Value.int .u16 0, Value.int .u16 0, Value.int .u16 0, Value.int .u16 0, Value.int .u16 0, Value.int .u16 0, Value.int .u16 0, Value.int .u16 0, Value.int .u16 0, Value.int .u16 0, Value.int .u16 0] := rfl
    have H0 := Lib.hid S0
    have HB := Lib.hid SB
    clear S0 SB hT
    rw [Z] at H0 HB
    clear Z
    go_enter Try.func16, Try.ntmps16
    go_wp2_with (refine wpList_store_row rfl 24 _ _ rfl w.heap.size (M16 zI) rfl rfl 24 _ H0.out (mask_info _ rfl) rfl (arr_cells _ _ _) ?_)
    refine bodyPost_ret (v := .tuple #[.agg (M16 zI), .int .i64 5]) ?_ rfl ⟨by rw [RN.out.1, RN.out.2], ?_⟩
    · exact results_cell_tmp_row Try.results16 _ _ w.heap.size _ _ _ _ rfl (setRow_heap _ _ _ _ _ _ H0.out) Try.underlying24 rfl (mask_info _ rfl)
    · exact below_setRow HB.out (Nat.le_refl _) _
end Go.Proofs.Ytfnaddpohkbbnaa
