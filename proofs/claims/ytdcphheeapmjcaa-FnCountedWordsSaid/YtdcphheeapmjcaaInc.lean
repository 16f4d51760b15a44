/-
  CONTRACT: the program's nextChoices.
-/
import Derived.Test.YtdcphheeapmjcaaIbi
import Derived.Test.YtdcphheeapmjcaaIoc
import Derived.RangeFuncWrites
namespace Go.Proofs.Ytdcphheeapmjcaa
open Go.ChangeShapes Go.WideShapes Go.ChangeAt Go.RowKit Go.Shelf
open Wd
attribute [local go_sem] Oper.semAt_some
/-- how many letters may stand at a place -/
def chN (g : Int) (i : Nat) : Int := if i = 0 then 2 * g else 2 * g - 1
/-- a number laid into a row -/
def updF (f : Nat → Int) (i : Nat) (v : Int) : Nat → Int := fun j => if j = i then v else f j
/-- the row when some places have been set to 0 -/
def zeroed (f : Nat → Int) (js : List Nat) : Nat → Int := js.foldl (fun f j => updF f j 0) f
theorem zeroed_at (f : Nat → Int) (js : List Nat) (i : Nat) : zeroed f js i = if i ∈ js then 0 else f i := by
  induction js generalizing f with
  | nil => simp [zeroed]
  | cons j r ih =>
    show zeroed (updF f j 0) r i = _
    rw [ih]
    by_cases h1 : i ∈ r
    · simp [h1]
    · by_cases h2 : i = j
      · simp [h1, h2, updF]
      · simp [h1, h2, updF]
theorem zeroed_snoc (f : Nat → Int) (js : List Nat) (j : Nat) : zeroed f (js ++ [j]) = updF (zeroed f js) j 0 := by simp [zeroed, List.foldl_append]
def plc {n : Nat} (pre : List (Pl n)) : List Nat := pre.map fun x => x.1.1
theorem plc_snoc {n : Nat} (pre : List (Pl n)) (x : Pl n) : plc (pre ++ [x]) = plc pre ++ [x.1.1] := by simp [plc]
theorem rowF_upd (f : Nat → Int) (n k : Nat) (h : k < n) (v : Int) : (rowF f n).setIfInBounds k (.int .i64 v) = rowF (updF f k v) n := by
  have := rowF_set f (updF f k v) n k h (fun i _ hi => by simp [updF, hi])
  simpa [updF] using this
theorem chN_in (F : Fence) (n : Nat) (h : F.fn 55) (hro : F.round = none) (g : Int) (h1 : 1 ≤ g) (h2 : g ≤ 4) (k : Nat) (hk : k ≤ 4000000) (w : World) :
    CallsIn F n Try.prog 55 #[.int .i64 g, .int .i64 (k : Int)] w fun e w' => e = .returned (.int .i64 (chN g k)) ∧ w' = w := by
  unfold chN
  by_cases h0 : k = 0
  · rw [if_pos h0]
    subst h0
    refine callsIn_of_wp Try.func55 rfl h ?_ hro
    simp only [Try.ntmps55, List.size_toArray, List.length_cons, List.length_nil, Nat.reduceAdd, Nat.reduceSub, Array.replicate_succ, Array.replicate_zero, List.push_toArray, List.append_toArray, List.nil_append, List.cons_append]
    gi_wp2
    go_ret
    exact ⟨rfl, rfl⟩
  · rw [if_neg h0]
    have t5 : ((k : Int) == 0) = false := by rw [beq_eq_false_iff_ne]; omega
    have t6 : (k == 0) = false := by simpa using h0
    clear h0
    refine callsIn_of_wp Try.func55 rfl h ?_ hro
    simp only [Try.ntmps55, List.size_toArray, List.length_cons, List.length_nil, Nat.reduceAdd, Nat.reduceSub, Array.replicate_succ, Array.replicate_zero, List.push_toArray, List.append_toArray, List.nil_append, List.cons_append]
    gi_wp2
    go_ret
    exact ⟨rfl, rfl⟩
/-- at all places, one after the other, there is no number left -/
def okTo (g : Int) : (Nat → Int) → List Nat → Bool
  | _, [] => true
  | f, j :: r => decide (chN g j ≤ f j + 1) && okTo g (updF f j 0) r
theorem okTo_snoc (g : Int) (f : Nat → Int) (js : List Nat) (j : Nat) : okTo g f (js ++ [j]) = (okTo g f js && decide (chN g j ≤ zeroed f js j + 1)) := by
  induction js generalizing f with
  | nil => simp [okTo, zeroed]; rfl
  | cons k r ih =>
    show (decide _ && okTo g (updF f k 0) (r ++ [j])) = _
    rw [ih]
    show _ = (decide _ && okTo g (updF f k 0) r && decide (chN g j ≤ zeroed (updF f k 0) r j + 1))
    rw [Bool.and_assoc]
theorem okTo_all {g : Int} {f : Nat → Int} {js : List Nat} (h : okTo g f js = true) (hn : js.Nodup) : ∀ j ∈ js, chN g j ≤ f j + 1 := by
  induction js generalizing f with
  | nil => simp
  | cons k r ih =>
    unfold okTo at h
    rw [Bool.and_eq_true, decide_eq_true_iff] at h
    rw [List.nodup_cons] at hn
    intro j hj
    rcases List.mem_cons.1 hj with rfl | hj
    · exact h.1
    · have := ih h.2 hn.2 j hj
      have hne : j ≠ k := fun e => hn.1 (e ▸ hj)
      simpa [updF, hne] using this
theorem nodup_top (m : Nat) : (List.range m).reverse.Nodup := by
  unfold List.Nodup
  rw [List.pairwise_reverse]
  exact (List.nodup_range (n := m)).imp (fun h => Ne.symm h)
theorem mem_top {m k i : Nat} (hk : k ≤ m) : i ∈ (List.range m).reverse.take k ↔ m - k ≤ i ∧ i < m := by
  induction k with
  | zero => simp <;> omega
  | succ k ih =>
    rw [pl_snoc (j := m - 1 - k) (by omega), List.mem_append, ih (by omega), List.mem_singleton]
    omega
theorem heap_own {β : Type} (b : Nat) (t : TypeId) (A : β → Array Value) : Own (fun s W => W.heap[b]? = some (.cells (A s) t (0, 0))) := fun s X Y row hs hg hr =>
  (hg.block b (Array.getElem?_eq_some_iff.1 hs).1 (fun e => by obtain ⟨o, ho, hc⟩ := hr b e.symm; rw [hs] at ho; cases ho; cases hc)).trans hs
theorem own_pure {β : Type} (p : β → Prop) : Own (fun s (_ : World) => p s) := fun _ _ _ _ hs _ _ => hs
/-- what nextChoices answers: the row, turned from a place on; or a new one of zeros -/
def NcPost (g : Int) (gb n : Nat) (f : Nat → Int) (w : World) (n₀ : Nat) (e : Ending) (w' : World) : Prop :=
  ((∃ j, j < n ∧ f j + 1 < chN g j ∧ (∀ i, j < i → i < n → chN g i ≤ f i + 1) ∧ e = .returned (.slice (some ⟨gb, 0, none⟩) n n) ∧ w'.heap[gb]? = some (.cells (rowF (fun i => if i < j then f i else if i = j then f j + 1 else 0) n) 2 (0, 0))) ∨
   ((∀ i, i < n → chN g i ≤ f i + 1) ∧ ∃ h, n₀ ≤ h ∧ e = .returned (.slice (some ⟨h, 0, none⟩) (n + 1) (n + 1)) ∧ w'.heap[h]? = some (.cells (rowF (fun _ => 0) (n + 1)) 2 (0, 0)))) ∧ Below n₀ w w'
set_option maxRecDepth 100000 in
set_option maxHeartbeats 4000000 in
theorem nextch_in (F : Fence) (n : Nat) (h65 : F.fn 87) (h66 : F.fn 54) (h82 : F.fn 90) (h58 : F.fn 55) (hro : F.round = none) (hn : 4 ≤ n)
    (g : Int) (h1g : 1 ≤ g) (h2g : g ≤ 4) (gb m : Nat) (f : Nat → Int) (hm : m ≤ 100) (hf : ∀ i, i < m → 0 ≤ f i ∧ f i ≤ 7) (w : World) (n₀ : Nat) (hn₀ : n₀ ≤ gb) (hgb : w.heap[gb]? = some (.cells (rowF f m) 2 (0, 0)))
    (hback : ∀ (a : Option Addr) (len cap : Nat) (w : World), CallsIn F (n - 1) Try.prog 54 #[.slice a len cap] w fun e w' => e = .returned (.func (.func 90) #[] #[.pointer (some ⟨w.heap.size, 0, none⟩)]) ∧ w' = w.alloc (.cells #[.slice a len cap] 65)) :
    CallsIn F n Try.prog 87 #[.int .i64 g, .slice (some ⟨gb, 0, none⟩) m m] w (NcPost g gb m f w n₀) := by
  have h1 : 1 ≤ n := by omega
  have hlt : gb < w.heap.size := (Array.getElem?_eq_some_iff.1 hgb).1
  have hm' : (m : Int) ≤ 100 := by omega
  refine callsIn_of_wp_marks Try.func87 rfl h65 ?_ hro
  simp only [Try.ntmps87, List.size_toArray, List.length_cons, List.length_nil, Nat.reduceAdd, Nat.reduceSub, Array.replicate_succ, Array.replicate_zero, List.push_toArray, List.append_toArray, List.nil_append, List.cons_append]
  gi_wp2_with (gi_at_call 54; refine (hback _ _ _ _).mono ?_; rintro e w' ⟨rfl, rfl⟩)
  obtain ⟨W0, hW0⟩ : ∃ W0, (((w.alloc (.cells #[.int .i64 g] 2)).alloc (.cells #[.slice (some ⟨gb, 0, none⟩) m m] 65)).alloc (.cells #[.slice none 0 0] 65)).alloc (.cells #[.slice (some ⟨gb, 0, none⟩) m m] 65) = W0 := ⟨_, rfl⟩
  have hsz : W0.heap.size = w.heap.size + 4 := by rw [← hW0]; simp
  have bG : Boxed W0 w.heap.size 2 (.int .i64 g) := by rw [← hW0]; exact (((Boxed.new w 2 (.int .i64 g)).alloc _).alloc _).alloc _
  have bL : Boxed W0 (w.heap.size + 1) 65 (.slice (some ⟨gb, 0, none⟩) m m) := by
    rw [← hW0]
    have := Boxed.new (w.alloc (.cells #[.int .i64 g] 2)) 65 (.slice (some ⟨gb, 0, none⟩) m m)
    rw [World.size_alloc] at this
    exact (this.alloc _).alloc _
  have bR : Boxed W0 (w.heap.size + 1 + 1) 65 (.slice none 0 0) := by
    rw [← hW0]
    have := Boxed.new ((w.alloc (.cells #[.int .i64 g] 2)).alloc (.cells #[.slice (some ⟨gb, 0, none⟩) m m] 65)) 65 (.slice none 0 0)
    rw [World.size_alloc, World.size_alloc] at this
    exact this.alloc _
  have bS : Boxed W0 (w.heap.size + 1 + 1 + 1) 65 (.slice (some ⟨gb, 0, none⟩) m m) := by
    rw [← hW0]
    have := Boxed.new (((w.alloc (.cells #[.int .i64 g] 2)).alloc (.cells #[.slice (some ⟨gb, 0, none⟩) m m] 65)).alloc (.cells #[.slice none 0 0] 65)) 65 (.slice (some ⟨gb, 0, none⟩) m m)
    rw [World.size_alloc, World.size_alloc, World.size_alloc] at this
    exact this
  have hB0 : Below w.heap.size w W0 := by rw [← hW0]; exact ((((Below.refl _ w).alloc (Nat.le_refl _) _).alloc (by simp) _).alloc (by simp; omega) _).alloc (by simp; omega) _
  have hrow0 : W0.heap[gb]? = some (.cells (rowF f m) 2 (0, 0)) := (hB0.block _ hlt).trans hgb
  have hB0n : Below n₀ w W0 := hB0.mono (by omega)
  rw [hW0]
  clear hW0
  refine wpIn_rangeFunc_ownG hro h1 (gf := 90) (lb := #[.pointer (some ⟨w.heap.size + 1 + 1 + 1, 0, none⟩)]) rfl h82 (enters_of Try.func90 (by kernel_rfl) rfl)
    (iback_stops F (n - 1) h82 hro (by omega) (w.heap.size + 1 + 1 + 1) n₀ gb m m (by omega) W0 (by omega) bS.cell (by omega) ⟨f, hrow0⟩) KpR.trans (kpR_b (by omega) (by omega) (by omega)) (Below.refl _ _) (fun _ => rfl)
    (fun pre W => Boxed W w.heap.size 2 (.int .i64 g) ∧ Boxed W (w.heap.size + 1) 65 (.slice (some ⟨gb, 0, none⟩) m m) ∧ Boxed W (w.heap.size + 1 + 1) 65 (.slice none 0 0) ∧ Boxed W (w.heap.size + 1 + 1 + 1) 65 (.slice (some ⟨gb, 0, none⟩) m m) ∧ W.heap[gb]? = some (.cells (rowF (zeroed f (plc pre)) m) 2 (0, 0)) ∧ okTo g f (plc pre) = true ∧ Below n₀ w W)
    (fun c pre W => c = .ret ∧ Boxed W (w.heap.size + 1 + 1) 65 (.slice (some ⟨gb, 0, none⟩) m m) ∧ (∃ pre0 x, pre = pre0 ++ [x] ∧ okTo g f (plc pre0) = true ∧ zeroed f (plc pre0) x.1.1 + 1 < chN g x.1.1 ∧ W.heap[gb]? = some (.cells (rowF (updF (zeroed f (plc pre0)) x.1.1 (zeroed f (plc pre0) x.1.1 + 1)) m) 2 (0, 0))) ∧ Below n₀ w W)
    (OwnFrom.and (Own.from (boxed_own _ _ _) _) (OwnFrom.and (Own.from (boxed_own _ _ _) _) (OwnFrom.and (Own.from (boxed_own _ _ _) _) (OwnFrom.and (Own.from (boxed_own _ _ _) _) (OwnFrom.and (Own.from (heap_own gb 2 (fun pre : List (Pl m) => rowF (zeroed f (plc pre)) m)) _) (OwnFrom.and (Own.from (own_pure (fun pre : List (Pl m) => okTo g f (plc pre) = true)) _) (ownFrom_below (by omega) (by omega))))))))
    (fun c => OwnFrom.and (Own.from (own_pure _) _) (OwnFrom.and (Own.from (boxed_own _ _ _) _) (OwnFrom.and (Own.from (fun pre X Y row hs hg hr => by
      obtain ⟨pre0, x, e, h1, h2, h3⟩ := hs
      exact ⟨pre0, x, e, h1, h2, heap_own (β := Unit) gb 2 (fun _ => rowF (updF (zeroed f (plc pre0)) x.1.1 (zeroed f (plc pre0) x.1.1 + 1)) m) () X Y row h3 hg hr⟩) _) (ownFrom_below (by omega) (by omega)))))
    ⟨bG, bL, bR, bS, hrow0, rfl, hB0n⟩
    (fun x => { tmps := #[.int .i64 g, .slice (some ⟨gb, 0, none⟩) m m, .pointer (some ⟨w.heap.size, 0, none⟩), .pointer (some ⟨w.heap.size + 1, 0, none⟩), .pointer (some ⟨w.heap.size + 1 + 1, 0, none⟩), .int .i64 (x.1.1 : Int), .slice (some ⟨gb, 0, none⟩) m m, .func (.func 90) #[] #[.pointer (some ⟨w.heap.size + 1 + 1 + 1, 0, none⟩)], .int .i64 (x.1.1 : Int), .int .i64 x.1.2, undef, undef, undef, undef, undef, undef, undef, undef, undef, undef, undef, undef, undef, undef, undef, undef, undef, undef, undef, undef, undef, undef], defers := [] }) ?assign ?body ?done ?stop
  case assign =>
    intro ll x W K hK
    gi_wp2
    exact hK
  case body =>
    rintro ll pre ⟨⟨j, v⟩, hj⟩ W ⟨hG, hL, hR, hS, hrow, hok, hB⟩ hlen
    have hd : 1 ≤ n - 1 - 1 := by omega
    have h58' : (F.inRound ll).fn 55 := h58
    have hmx : Try.prog.follows .mixedOrders = true := by kernel_rfl
    have hjm : j < m := hj
    have hjI : (j : Int) ≤ 100 := by omega
    have hz : 0 ≤ zeroed f (plc pre) j ∧ zeroed f (plc pre) j ≤ 7 := by
      rw [zeroed_at]
      split
      · omega
      · exact hf j hjm
    obtain ⟨z0, z7⟩ := hz
    have hcL := hL.cell
    have hcj : W.cell? ⟨gb, j, none⟩ = some (.int .i64 (zeroed f (plc pre) j)) := (Lib.cell_of_heap hrow j).trans (rowF_get _ _ _ hjm)
    have hfj : W.frozen? ⟨gb, j, none⟩ = false := Lib.frozen_of_heap hrow j
    obtain ⟨W1, hW1⟩ : ∃ W1, W.setCell ⟨gb, j, none⟩ (.int .i64 (zeroed f (plc pre) j + 1)) = W1 := ⟨_, rfl⟩
    have far : ∀ B t u, B ≠ gb → Boxed W B t u → Boxed W1 B t u := fun B t u hne h => by rw [← hW1]; exact (Below.heap_setCell _ _ _ _ hne).trans h
    have hG1 := far _ _ _ (by omega) hG
    have hL1 := far _ _ _ (by omega) hL
    have hR1 := far _ _ _ (by omega) hR
    have hS1 := far _ _ _ (by omega) hS
    have hrow1 : W1.heap[gb]? = some (.cells (rowF (updF (zeroed f (plc pre)) j (zeroed f (plc pre) j + 1)) m) 2 (0, 0)) := by rw [← hW1, heap_set_at hrow, rowF_upd _ _ _ hjm]
    have hB1 : Below n₀ w W1 := by rw [← hW1]; exact hB.setCell (p := ⟨gb, j, none⟩) hn₀ _
    have hb1 : Below n₀ W W1 := by rw [← hW1]; exact (Below.refl _ _).setCell (p := ⟨gb, j, none⟩) hn₀ _
    have hk1 : KeepsOthers W W1 := by rw [← hW1]; exact KeepsOthers.setCell _ _ _
    gi_wp2
    clear hW1 far hcL hcj hfj
    have hcL := hL1.cell
    have hcG := hG1.cell
    have hcR := hR1.cell
    have hfR := hR1.frozen
    have hcj : W1.cell? ⟨gb, j, none⟩ = some (.int .i64 (zeroed f (plc pre) j + 1)) := (Lib.cell_of_heap hrow1 j).trans ((rowF_get _ _ _ hjm).trans (by simp [updF]))
    have hfj : W1.frozen? ⟨gb, j, none⟩ = false := Lib.frozen_of_heap hrow1 j
    have OKN : okTo g f (plc (pre ++ [(⟨(j, v), hj⟩ : Pl m)])) = decide (chN g j ≤ zeroed f (plc pre) j + 1) := by rw [plc_snoc, okTo_snoc, hok, Bool.true_and]
    have ZN : zeroed f (plc (pre ++ [(⟨(j, v), hj⟩ : Pl m)])) = updF (zeroed f (plc pre)) j 0 := by rw [plc_snoc, zeroed_snoc]
    by_cases hx : zeroed f (plc pre) j + 1 < chN g j
    · have t1 : decide (zeroed f (plc pre) j + 1 < chN g j) = true := by simpa using hx
      refine wpIn_region_quiet_r hmx (by kernel_rfl) ?_
      repeat (gi_big_quiet_step ((gi_at_call 55; refine CallsIn.quiet_of_same (CallsIn.inRound ll (chN_in F _ h58 hro g h1g h2g j (by omega) _)))))
      refine wpQuietIn_nil ?_
      intro _ hw'
      obtain ⟨nq, hw''⟩ := hw'
      subst hw''
      have hokk := hok
      gi_wp2
      have hRd : Boxed (W1.drewN nq) (w.heap.size + 1 + 1) 65 (.slice none 0 0) := hR1
      have hrd : (W1.drewN nq).heap[gb]? = some (.cells (rowF (updF (zeroed f (plc pre)) j (zeroed f (plc pre) j + 1)) m) 2 (0, 0)) := hrow1
      have hBd : Below n₀ w (W1.drewN nq) := below_drewN hB1 nq
      have hkd : KeepsOthers W (W1.drewN nq) := hk1.trans ⟨Nat.le_refl _, fun _ _ h _ => h⟩
      exact ⟨(hkd.trans (KeepsOthers.setCell _ _ _)).from _, rfl, hRd.set _, ⟨pre, ⟨(j, v), hj⟩, rfl, hokk, hx, (Below.heap_setCell _ _ _ _ (by simp; omega)).trans hrd⟩, hBd.setCell (p := ⟨w.heap.size + 1 + 1, 0, none⟩) (by simp; omega) _⟩
    · have t1 : decide (zeroed f (plc pre) j + 1 < chN g j) = false := by simpa using hx
      refine wpIn_region_quiet_r hmx (by kernel_rfl) ?_
      repeat (gi_big_quiet_step ((gi_at_call 55; refine CallsIn.quiet_of_same (CallsIn.inRound ll (chN_in F _ h58 hro g h1g h2g j (by omega) _)))))
      refine wpQuietIn_nil ?_
      intro _ hw'
      obtain ⟨nq, hw''⟩ := hw'
      subst hw''
      gi_wp2
      have fard : ∀ B t u, B ≠ gb → Boxed W1 B t u → Boxed ((W1.drewN nq).setCell ⟨gb, j, none⟩ (.int .i64 0)) B t u := fun B t u hne h => (Below.heap_setCell _ _ _ _ hne).trans (show (W1.drewN nq).heap[B]? = _ from h)
      have hrd : (W1.drewN nq).heap[gb]? = some (.cells (rowF (updF (zeroed f (plc pre)) j (zeroed f (plc pre) j + 1)) m) 2 (0, 0)) := hrow1
      have hr3 : ((W1.drewN nq).setCell ⟨gb, j, none⟩ (.int .i64 0)).heap[gb]? = some (.cells (rowF (updF (zeroed f (plc pre)) j 0) m) 2 (0, 0)) := by
        rw [heap_set_at hrd, rowF_upd _ _ _ hjm]
        congr 2
        exact rowF_congr fun i _ => by unfold updF; split <;> rfl
      have hBd : Below n₀ w (W1.drewN nq) := below_drewN hB1 nq
      have hbd : Below n₀ W (W1.drewN nq) := below_drewN hb1 nq
      have hkd : KeepsOthers W (W1.drewN nq) := hk1.trans ⟨Nat.le_refl _, fun _ _ h _ => h⟩
      have hS3 := fard _ _ _ (by omega) hS1
      exact ⟨(hkd.trans (KeepsOthers.setCell _ _ _)).from _, ⟨hbd.setCell (p := ⟨gb, j, none⟩) hn₀ _, hS3.trans hS.symm, fun _ => ⟨_, hr3⟩⟩, fard _ _ _ (by omega) hG1, fard _ _ _ (by omega) hL1, fard _ _ _ (by omega) hR1, hS3, by rw [ZN]; exact hr3, by rw [OKN]; exact decide_eq_true (by omega), hBd.setCell (p := ⟨gb, j, none⟩) hn₀ _⟩
  case done =>
    rintro D ys W hD hys ⟨hG, hL, hR, hS, hrow, hok, hB⟩ hK
    have hall : ∀ i, i < m → chN g i ≤ f i + 1 := by
      have e : plc ys = (List.range m).reverse := hys
      rw [e] at hok
      have hnd : (List.range m).reverse.Nodup := by
        unfold List.Nodup
        rw [List.pairwise_reverse]
        exact (List.nodup_range (n := m)).imp (fun h => Ne.symm h)
      intro i hi
      exact okTo_all hok hnd i (by simp [hi])
    have hmk : ∀ w : World, (Instr.makeSlice 65 (.int .i64 ((m : Int) + 1)) (.int .i64 ((m : Int) + 1))).run Try.prog w = .ok (.slice (some ⟨w.heap.size, 0, none⟩) (m + 1) (m + 1)) (w.alloc (.cells (rowF (fun _ => 0) (m + 1)) 2)) := fun w => by
      have := make_ints (m + 1) (by omega) w
      push_cast at this
      exact this
    have hcL := hL.cell
    have hR2 := hR.alloc (.cells (rowF (fun _ => 0) (m + 1)) 2)
    have hcR := hR2.cell
    have hfR := hR2.frozen
    gi_wp2
    have hR3 := hR2.set (.slice (some ⟨W.heap.size, 0, none⟩) (m + 1) (m + 1))
    have hK2 : ((W.alloc (.cells (rowF (fun _ => 0) (m + 1)) 2)).setCell ⟨w.heap.size + 1 + 1, 0, none⟩ (.slice (some ⟨W.heap.size, 0, none⟩) (m + 1) (m + 1))).heap[D]? = some (.deferred (some [])) := (KeepsOthers.setCell _ _ _).same D _ ((KeepsOthers.alloc W _).same D _ hK rfl) rfl
    have hN : ((W.alloc (.cells (rowF (fun _ => 0) (m + 1)) 2)).setCell ⟨w.heap.size + 1 + 1, 0, none⟩ (.slice (some ⟨W.heap.size, 0, none⟩) (m + 1) (m + 1))).heap[W.heap.size]? = some (.cells (rowF (fun _ => 0) (m + 1)) 2 (0, 0)) := (Below.heap_setCell _ _ _ _ (by have := hR.lt; simp; omega)).trans (World.alloc_heap_new W _)
    have hBf : Below n₀ w ((W.alloc (.cells (rowF (fun _ => 0) (m + 1)) 2)).setCell ⟨w.heap.size + 1 + 1, 0, none⟩ (.slice (some ⟨W.heap.size, 0, none⟩) (m + 1) (m + 1))) := (hB.alloc (by have := hB.size; omega) _).setCell (p := ⟨w.heap.size + 1 + 1, 0, none⟩) (by simp; omega) _
    have hDn : D ≠ W.heap.size := fun e => by have := (Array.getElem?_eq_some_iff.1 hK).1; omega
    generalize (W.alloc (.cells (rowF (fun _ => 0) (m + 1)) 2)).setCell ⟨w.heap.size + 1 + 1, 0, none⟩ (.slice (some ⟨W.heap.size, 0, none⟩) (m + 1) (m + 1)) = Wf at hR3 hK2 hN hBf ⊢
    refine ⟨by simp, .inl ⟨_, _, rfl, run_takeDeferred hK2, ?_⟩⟩
    have hR4 : Boxed (Wf.putObj D (.deferred none)) (w.heap.size + 1 + 1) 65 (.slice (some ⟨W.heap.size, 0, none⟩) (m + 1) (m + 1)) := hR3.kept (grownBy_putObj' Wf D _) (fun e => by cases e; rw [show Wf.heap[_]? = _ from hR3] at hK2; cases hK2)
    have hcF := hR4.cell
    refine ⟨.slice (some ⟨W.heap.size, 0, none⟩) (m + 1) (m + 1), by simp [results, Try.results87, go_sem, hcF], ?_⟩
    refine ⟨.inr ⟨hall, W.heap.size, by have := hB.size; omega, rfl, (World.putObj_heap_other (fun e => hDn e.symm)).trans hN⟩, ?_⟩
    exact hBf.trans ((Below.refl n₀ Wf).grown (grownBy_putObj' Wf D _) (by have := hBf.size; omega) (fun k e => by cases e; omega))
  case stop =>
    rintro D c pre W hD hsp ⟨rfl, hR, ⟨pre0, x, rfl, hok, hlt2, hrow⟩, hB⟩ hK
    obtain ⟨k, hk, hpl⟩ := hsp
    have hsp2 : plc pre0 ++ [x.1.1] = (List.range m).reverse.take k ++ [m - 1 - k] := by
      rw [← plc_snoc, ← pl_snoc (n := m) (k := k) (j := m - 1 - k) (by omega)]; exact hpl
    have e1 : plc pre0 = (List.range m).reverse.take k := (List.append_inj' hsp2 rfl).1
    have e2 : x.1.1 = m - 1 - k := by have := (List.append_inj' hsp2 rfl).2; simpa using this
    have hmem : ∀ i, i ∈ plc pre0 ↔ x.1.1 < i ∧ i < m := fun i => by rw [e1, mem_top (by omega), e2]; omega
    have hnd : (plc pre0).Nodup := by rw [e1]; exact (nodup_top m).sublist (List.take_sublist _ _)
    have hall := okTo_all hok hnd
    have hzx : zeroed f (plc pre0) x.1.1 = f x.1.1 := by rw [zeroed_at, if_neg (fun h => by have := (hmem _).1 h; omega)]
    have hrow2 : W.heap[gb]? = some (.cells (rowF (fun i => if i < x.1.1 then f i else if i = x.1.1 then f x.1.1 + 1 else 0) m) 2 (0, 0)) := by
      rw [hrow, hzx]
      congr 2
      refine rowF_congr fun i hi => ?_
      unfold updF
      by_cases h1 : i = x.1.1
      · rw [if_pos h1, if_neg (by omega), if_pos h1]
      · rw [if_neg h1, zeroed_at]
        by_cases h2 : i < x.1.1
        · rw [if_pos h2, if_neg (fun h => by have := (hmem _).1 h; omega)]
        · rw [if_neg h2, if_neg h1, if_pos ((hmem i).2 ⟨by omega, hi⟩)]
    gi_wp2
    refine ⟨by simp, .inl ⟨_, _, rfl, run_takeDeferred hK, ?_⟩⟩
    have hR4 : Boxed (W.putObj D (.deferred none)) (w.heap.size + 1 + 1) 65 (.slice (some ⟨gb, 0, none⟩) m m) := hR.kept (grownBy_putObj' W D _) (fun e => by cases e; rw [show W.heap[_]? = _ from hR] at hK; cases hK)
    have hcF := hR4.cell
    have hDn : gb ≠ D := by omega
    refine ⟨.slice (some ⟨gb, 0, none⟩) m m, by simp [results, Try.results87, go_sem, hcF], ?_⟩
    refine ⟨.inl ⟨x.1.1, x.2, by rw [← hzx]; exact hlt2, fun i h1 h2 => hall i ((hmem i).2 ⟨h1, h2⟩), rfl, (World.putObj_heap_other hDn).trans hrow2⟩, ?_⟩
    exact hB.trans ((Below.refl n₀ W).grown (grownBy_putObj' W D _) (by have := hB.size; omega) (fun k e => by cases e; omega))
end Go.Proofs.Ytdcphheeapmjcaa
