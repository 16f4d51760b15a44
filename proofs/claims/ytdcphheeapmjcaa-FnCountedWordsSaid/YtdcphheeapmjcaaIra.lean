/-
  CONTRACT: the program's ReducedAt.
-/
import Derived.Test.YtdcphheeapmjcaaInc
import Derived.Test.YtdcphheeapmjcaaQt
namespace Go.Proofs.Ytdcphheeapmjcaa
open Go.ChangeShapes Go.WideShapes Go.ChangeAt Go.RowKit Go.Shelf
open Wd
attribute [local go_sem] Oper.semAt_some
/-- one place: the rest and the row -/
def raS (g : Int) (s : Int × (Nat → Int)) (j : Nat) : Int × (Nat → Int) := (s.1 / chN g j, updF s.2 j (s.1 % chN g j))
def raT (g k : Int) (js : List Nat) : Int × (Nat → Int) := js.foldl (raS g) (k, fun _ => 0)
theorem raT_snoc (g k : Int) (js : List Nat) (j : Nat) : raT g k (js ++ [j]) = raS g (raT g k js) j := by simp [raT, List.foldl_append]
/-- the choices of the word with the number k -/
def atF (g : Int) (n : Nat) (k : Int) (i : Nat) : Int := k / ways g true (n - 1 - i) % chN g i
theorem chN_pos {g : Int} (h1 : 1 ≤ g) (h2 : g ≤ 4) (j : Nat) : 1 ≤ chN g j ∧ chN g j ≤ 8 := by unfold chN; split <;> omega
theorem raT_bound {g k : Int} (h1 : 1 ≤ g) (h2 : g ≤ 4) (hk : 0 ≤ k) (js : List Nat) : 0 ≤ (raT g k js).1 ∧ (raT g k js).1 ≤ k := by
  have H : ∀ (js : List Nat) (s : Int × (Nat → Int)), 0 ≤ s.1 → s.1 ≤ k → 0 ≤ (js.foldl (raS g) s).1 ∧ (js.foldl (raS g) s).1 ≤ k := by
    intro js
    induction js with
    | nil => intro s a b; exact ⟨a, b⟩
    | cons j r ih =>
      intro s a b
      have hc := (chN_pos h1 h2 j).1
      refine ih _ (Int.ediv_nonneg a (by omega)) (Int.le_trans (Int.ediv_le_self _ a) b)
  exact H js _ hk (Int.le_refl _)
theorem ways_true' (g : Int) (q : Nat) : ways g true (q + 1) = ways g true q * (2 * g - 1) := by
  show (if q = 0 ∧ true = false then _ else _) = _
  rw [if_neg (fun h => by cases h.2)]
theorem raT_top {g k : Int} (h1 : 1 ≤ g) (h2 : g ≤ 4) (n t : Nat) (ht : t ≤ n) :
    (∀ i, n - t ≤ i → i < n → (raT g k ((List.range n).reverse.take t)).2 i = atF g n k i) ∧ (t < n → (raT g k ((List.range n).reverse.take t)).1 = k / ways g true t) := by
  induction t with
  | zero => exact ⟨fun i a b => absurd a (by omega), fun _ => by simp [raT, ways]⟩
  | succ t ih =>
    obtain ⟨i1, i2⟩ := ih (by omega)
    have i2 := i2 (by omega)
    rw [pl_snoc (j := n - 1 - t) (by omega), raT_snoc]
    refine ⟨fun i a b => ?_, fun h => ?_⟩
    · show updF _ _ _ i = _
      unfold updF
      by_cases e : i = n - 1 - t
      · rw [if_pos e, i2, e]; unfold atF; rw [show n - 1 - (n - 1 - t) = t by omega]
      · rw [if_neg e]; exact i1 i (by omega) b
    · show _ / _ = _
      rw [i2, ways_true', show chN g (n - 1 - t) = 2 * g - 1 by unfold chN; rw [if_neg (by omega)], Int.ediv_ediv_of_nonneg (by have := (ways_pos h1 h2 true t).1; omega)]
theorem atF_ok {g k : Int} (h1 : 1 ≤ g) (h2 : g ≤ 4) (n : Nat) : OkCh (atF g n k) n := by
  intro i hi
  have hc := chN_pos h1 h2 i
  have a := Int.emod_nonneg (k / ways g true (n - 1 - i)) (show chN g i ≠ 0 by omega)
  have b := Int.emod_lt_of_pos (k / ways g true (n - 1 - i)) (show 0 < chN g i by omega)
  refine ⟨a, by unfold atF; omega, fun h0 => ?_⟩
  unfold atF
  have : chN g i ≤ 7 := by unfold chN; rw [if_neg (by omega)]; omega
  omega
theorem ofL_congr' {f f' : Nat → Int} {k : Nat} (h : ∀ i, i < k → f i = f' i) : ofL f k = ofL f' k := by
  induction k with
  | zero => rfl
  | succ k ih => unfold ofL; rw [ih fun i hi => h i (by omega), h k (by omega)]
set_option maxRecDepth 100000 in
set_option maxHeartbeats 4000000 in
theorem ired_core (F : Fence) (n0 : Nat) (hF : F = Fence.wide) (hn0 : 4 ≤ n0) (g : Int) (h1g : 1 ≤ g) (h2g : g ≤ 4) (n : Nat) (hn : n ≤ 12) (k : Int) (hk0 : 0 ≤ k) (hk : k < ways g false n) (w : World) :
    CallsIn F n0 Try.prog 15 #[.int .i64 g, .int .i64 (n : Int), .int .i64 k] w (TextPost (ofL (atF g n k) n) 0 w) := by
  have hro : F.round = none := by rw [hF]; rfl
  have h65 : F.fn 15 := by rw [hF]; trivial
  have h82 : F.fn 90 := by rw [hF]; trivial
  have h58 : F.fn 55 := by rw [hF]; trivial
  have h46 : F.fn 46 := by rw [hF]; trivial
  have h54 : F.fn 54 := by rw [hF]; trivial
  have h56 : F.fn 56 := by rw [hF]; trivial
  have h57 : F.fn 57 := by rw [hF]; trivial
  have hmk := make_ints n (by omega)
  have CNT : ∀ w, CallsIn F (n0 - 1) Try.prog 46 #[.int .i64 g, .int .i64 (n : Int)] w fun e w' => e = .returned (.tuple #[.int .i64 (ways g false n), .int .i64 0]) ∧ w = w' := fun w => by
    rw [hF]
    have h := icount_any g (n : Int) w
    unfold crPost at h
    rw [if_pos ⟨⟨h1g, h2g⟩, by omega, by omega⟩, if_pos ⟨⟨h1g, h2g⟩, by omega, by omega⟩, Int.toNat_natCast] at h
    exact callsIn_wide.2 h
  have BCK : ∀ (a : Option Addr) (len cap : Nat) (w : World), CallsIn F (n0 - 1) Try.prog 54 #[.slice a len cap] w fun e w' => e = .returned (.func (.func 90) #[] #[.pointer (some ⟨w.heap.size, 0, none⟩)]) ∧ w' = w.alloc (.cells #[.slice a len cap] 65) := fun a len cap w => by rw [hF]; exact callsIn_wide.2 (iback_any a len cap w)
  have OFC : ∀ (gb : Nat) (f : Nat → Int), OkCh f n → ∀ (w : World), gb < w.heap.size → (∀ k, k < n → w.cell? ⟨gb, k, none⟩ = some (.int .i64 (f k))) → CallsIn F (n0 - 1) Try.prog 56 #[.slice (some ⟨gb, 0, none⟩) n n] w fun e w' => ∃ v, e = .returned v ∧ OwnL w.heap.size v (ofL f n) w' ∧ Below w.heap.size w w' := fun gb f hf w a b => by rw [hF]; exact callsIn_wide.2 (ofch_any gb n f hf (by omega) w a b)
  have TXT : ∀ (v : Value) (l : List UInt8), (∀ c ∈ l, isL c = true) → l.length ≤ 4000000 → ∀ w : World, LRow w.heap.size w v l → CallsIn F (n0 - 1) Try.prog 57 #[v] w fun e w' => e = .returned (.string (txt l)) ∧ Below w.heap.size w w' := fun v l a b w c => by rw [hF]; exact callsIn_wide.2 (itext_any v l a b w c)
  clear hF
  have hn' : (n : Int) ≤ 12 := by omega
  obtain ⟨wc1, wc2⟩ := ways_le h1g h2g false hn
  have t1 : decide (k < 0) = false := by simp; omega
  have t2 : decide (ways g false n ≤ k) = false := by simp; omega
  generalize ways g false n = cnt at *
  have h1 : 1 ≤ n0 := by omega
  refine callsIn_of_wp_marks Try.func15 rfl h65 ?_ hro
  simp only [Try.ntmps15, List.size_toArray, List.length_cons, List.length_nil, Nat.reduceAdd, Nat.reduceSub, Array.replicate_succ, Array.replicate_zero, List.push_toArray, List.append_toArray, List.nil_append, List.cons_append]
  gi_wp2_with (first | (gi_at_call 46; refine (CNT _).mono ?_; rintro e w' ⟨rfl, rfl⟩) | (gi_at_call 54; refine (BCK _ _ _ _).mono ?_; rintro e w' ⟨rfl, rfl⟩))
  obtain ⟨W0, hW0⟩ : ∃ W0, ((((w.alloc (.cells #[.int .i64 g] 2)).alloc (.cells #[.int .i64 k] 2)).alloc (.cells (rowF (fun _ => 0) n) 2)).alloc (.cells #[.slice (some ⟨w.heap.size + 1 + 1, 0, none⟩) n n] 65)).alloc (.cells #[.slice (some ⟨w.heap.size + 1 + 1, 0, none⟩) n n] 65) = W0 := ⟨_, rfl⟩
  have hsz : W0.heap.size = w.heap.size + 5 := by rw [← hW0]; simp
  have bG : Boxed W0 w.heap.size 2 (.int .i64 g) := by rw [← hW0]; exact ((((Boxed.new w 2 (.int .i64 g)).alloc _).alloc _).alloc _).alloc _
  have bK : Boxed W0 (w.heap.size + 1) 2 (.int .i64 k) := by
    rw [← hW0]
    have := Boxed.new (w.alloc (.cells #[.int .i64 g] 2)) 2 (.int .i64 k)
    rw [World.size_alloc] at this
    exact ((this.alloc _).alloc _).alloc _
  have bL : Boxed W0 (w.heap.size + 1 + 1 + 1) 65 (.slice (some ⟨w.heap.size + 1 + 1, 0, none⟩) n n) := by
    rw [← hW0]
    have := Boxed.new (((w.alloc (.cells #[.int .i64 g] 2)).alloc (.cells #[.int .i64 k] 2)).alloc (.cells (rowF (fun _ => 0) n) 2)) 65 (.slice (some ⟨w.heap.size + 1 + 1, 0, none⟩) n n)
    rw [World.size_alloc, World.size_alloc, World.size_alloc] at this
    exact this.alloc _
  have bS : Boxed W0 (w.heap.size + 1 + 1 + 1 + 1) 65 (.slice (some ⟨w.heap.size + 1 + 1, 0, none⟩) n n) := by
    rw [← hW0]
    have := Boxed.new ((((w.alloc (.cells #[.int .i64 g] 2)).alloc (.cells #[.int .i64 k] 2)).alloc (.cells (rowF (fun _ => 0) n) 2)).alloc (.cells #[.slice (some ⟨w.heap.size + 1 + 1, 0, none⟩) n n] 65)) 65 (.slice (some ⟨w.heap.size + 1 + 1, 0, none⟩) n n)
    rw [World.size_alloc, World.size_alloc, World.size_alloc, World.size_alloc] at this
    exact this
  have hrow0 : W0.heap[w.heap.size + 1 + 1]? = some (.cells (rowF (fun _ => 0) n) 2 (0, 0)) := by
    rw [← hW0]
    have e1 : ((w.alloc (.cells #[.int .i64 g] 2)).alloc (.cells #[.int .i64 k] 2)).heap.size = w.heap.size + 1 + 1 := by simp
    have e2 := World.alloc_heap_new ((w.alloc (.cells #[.int .i64 g] 2)).alloc (.cells #[.int .i64 k] 2)) (.cells (rowF (fun _ => 0) n) 2)
    rw [e1] at e2
    exact (Below.heap_alloc _ _ _ (by simp)).trans ((Below.heap_alloc _ _ _ (by simp)).trans e2)
  have hB0 : Below w.heap.size w W0 := by rw [← hW0]; exact (((((Below.refl _ w).alloc (Nat.le_refl _) _).alloc (by simp) _).alloc (by simp; omega) _).alloc (by simp; omega) _).alloc (by simp; omega) _
  rw [hW0]
  clear hW0
  refine wpIn_rangeFunc_ownG hro h1 (gf := 90) (lb := #[.pointer (some ⟨w.heap.size + 1 + 1 + 1 + 1, 0, none⟩)]) rfl h82 (enters_of Try.func90 (by kernel_rfl) rfl)
    (iback_stops F (n0 - 1) h82 hro (by omega) (w.heap.size + 1 + 1 + 1 + 1) w.heap.size (w.heap.size + 1 + 1) n n (by omega) W0 (by omega) bS.cell (by omega) ⟨_, hrow0⟩) KpR.trans (kpR_b (by omega) (by omega) (by omega)) (Below.refl _ _) (fun _ => rfl)
    (fun pre W => Boxed W w.heap.size 2 (.int .i64 g) ∧ W.heap[w.heap.size + 1]? = some (.cells #[.int .i64 (raT g k (plc pre)).1] 2 (0, 0)) ∧ Boxed W (w.heap.size + 1 + 1 + 1) 65 (.slice (some ⟨w.heap.size + 1 + 1, 0, none⟩) n n) ∧ Boxed W (w.heap.size + 1 + 1 + 1 + 1) 65 (.slice (some ⟨w.heap.size + 1 + 1, 0, none⟩) n n) ∧ W.heap[w.heap.size + 1 + 1]? = some (.cells (rowF (raT g k (plc pre)).2 n) 2 (0, 0)) ∧ Below w.heap.size w W)
    (fun _ _ _ => False)
    (OwnFrom.and (Own.from (boxed_own _ _ _) _) (OwnFrom.and (Own.from (heap_own (w.heap.size + 1) 2 (fun pre : List (Pl n) => #[.int .i64 (raT g k (plc pre)).1])) _) (OwnFrom.and (Own.from (boxed_own _ _ _) _) (OwnFrom.and (Own.from (boxed_own _ _ _) _) (OwnFrom.and (Own.from (heap_own (w.heap.size + 1 + 1) 2 (fun pre : List (Pl n) => rowF (raT g k (plc pre)).2 n)) _) (ownFrom_below (by omega) (by omega)))))))
    (fun c => Own.from (own_pure (fun _ => False)) _)
    ⟨bG, bK, bL, bS, hrow0, hB0⟩
    (fun x => { tmps := #[.int .i64 g, .int .i64 (n : Int), .int .i64 k, .pointer (some ⟨w.heap.size, 0, none⟩), undef, .pointer (some ⟨w.heap.size + 1, 0, none⟩), .string ⟨#[]⟩, .int .i64 0, .int .i64 cnt, .int .i64 0, .pointer (some ⟨w.heap.size + 1 + 1 + 1, 0, none⟩), .int .i64 (x.1.1 : Int), .tuple #[.int .i64 cnt, .int .i64 0], .int .i64 g, .int .i64 (n : Int), .tuple #[.int .i64 cnt, .int .i64 0], .int .i64 cnt, .int .i64 0, .int .i64 0, .bool false, .bool false, .int .i64 k, .bool false, .bool false, .bool false, .int .i64 k, .int .i64 cnt, .bool false, .bool false, .int .i64 (n : Int), .slice (some ⟨w.heap.size + 1 + 1, 0, none⟩) n n, .slice (some ⟨w.heap.size + 1 + 1, 0, none⟩) n n, .func (.func 90) #[] #[.pointer (some ⟨w.heap.size + 1 + 1 + 1 + 1, 0, none⟩)], .int .i64 (x.1.1 : Int), .int .i64 x.1.2, undef, undef, undef, undef, undef, undef, undef, undef, undef, undef, undef, undef, undef, undef, undef, undef], defers := [] }) ?assign ?body ?done ?stop
  case assign =>
    intro ll x W K hK
    gi_wp2
    exact hK
  case body =>
    rintro ll pre ⟨⟨j, v⟩, hj⟩ W ⟨hG, hK, hL, hS, hrow, hB⟩ hlen
    have h58' : (F.inRound ll).fn 55 := h58
    have hmx : Try.prog.follows .mixedOrders = true := by kernel_rfl
    have hjm : j < n := hj
    have hjI : (j : Int) ≤ 100 := by omega
    obtain ⟨z0, z7⟩ := raT_bound h1g h2g hk0 (plc pre)
    have HB1 : raT g k (plc (pre ++ [(⟨(j, v), hj⟩ : Pl n)])) = raS g (raT g k (plc pre)) j := by rw [plc_snoc, raT_snoc]
    obtain ⟨c1, c8⟩ := chN_pos h1g h2g j
    have hcL := hL.cell
    have hcG := hG.cell
    have hcK : W.cell? ⟨w.heap.size + 1, 0, none⟩ = some (.int .i64 (raT g k (plc pre)).1) := Lib.cell_of_heap hK 0
    have hfj : W.frozen? ⟨w.heap.size + 1 + 1, j, none⟩ = false := Lib.frozen_of_heap hrow j
    have hcj : W.cell? ⟨w.heap.size + 1 + 1, j, none⟩ = some (.int .i64 ((raT g k (plc pre)).2 j)) := (Lib.cell_of_heap hrow j).trans (rowF_get _ _ _ hjm)
    have hd : 1 ≤ n0 - 1 - 1 := by omega
    gi_wp2
    refine wpIn_region_quiet_tail_r 8 hmx (by kernel_rfl) ?_
    simp only [List.take_succ_cons, List.take_zero, List.drop_succ_cons, List.drop_zero]
    repeat (gi_big_quiet_step ((gi_at_call 55; refine CallsIn.quiet_of_same (CallsIn.inRound ll (chN_in F _ h58 hro g h1g h2g j (by omega) _)))))
    refine wpQuietIn_nil ?_
    intro _ hw'
    obtain ⟨q1, hw''⟩ := hw'
    subst hw''
    obtain ⟨x, hx⟩ : ∃ x, (raT g k (plc pre)).1 = x := ⟨_, rfl⟩
    obtain ⟨f, hf⟩ : ∃ f, (raT g k (plc pre)).2 = f := ⟨_, rfl⟩
    have HS : raT g k (plc (pre ++ [(⟨(j, v), hj⟩ : Pl n)])) = (x / chN g j, updF f j (x % chN g j)) := by rw [HB1]; unfold raS; rw [hx, hf]
    clear HB1
    rw [hx] at hK z0 z7 hcK ⊢
    rw [hf] at hrow hcj
    clear hx hf
    obtain ⟨W2, hW2⟩ : ∃ W2, (W.drewN q1).setCell ⟨w.heap.size + 1 + 1, j, none⟩ (.int .i64 (x % chN g j)) = W2 := ⟨_, rfl⟩
    have far : ∀ B o, B ≠ w.heap.size + 1 + 1 → W.heap[B]? = o → W2.heap[B]? = o := fun B o hne h => by rw [← hW2]; exact (Below.heap_setCell _ _ _ _ hne).trans h
    have hG2 : Boxed W2 w.heap.size 2 (.int .i64 g) := far _ _ (by omega) hG
    have hL2 : Boxed W2 (w.heap.size + 1 + 1 + 1) 65 (.slice (some ⟨w.heap.size + 1 + 1, 0, none⟩) n n) := far _ _ (by omega) hL
    have hS2 : Boxed W2 (w.heap.size + 1 + 1 + 1 + 1) 65 (.slice (some ⟨w.heap.size + 1 + 1, 0, none⟩) n n) := far _ _ (by omega) hS
    have hK2 : W2.heap[w.heap.size + 1]? = some (.cells #[.int .i64 x] 2 (0, 0)) := far _ _ (by omega) hK
    have hrow2 : W2.heap[w.heap.size + 1 + 1]? = some (.cells (rowF (updF f j (x % chN g j)) n) 2 (0, 0)) := by rw [← hW2, heap_set_at (w := W.drewN q1) hrow, rowF_upd _ _ _ hjm]
    have hB2 : Below w.heap.size w W2 := by rw [← hW2]; exact (below_drewN hB q1).setCell (p := ⟨w.heap.size + 1 + 1, j, none⟩) (by simp; omega) _
    have hb2 : Below w.heap.size W W2 := by rw [← hW2]; exact (below_drewN (Below.refl _ W) q1).setCell (p := ⟨w.heap.size + 1 + 1, j, none⟩) (by simp; omega) _
    have hk2 : KeepsOthers W W2 := by rw [← hW2]; exact (show KeepsOthers W (W.drewN q1) from ⟨Nat.le_refl _, fun _ _ h _ => h⟩).trans (KeepsOthers.setCell _ _ _)
    gi_wp2
    clear hW2 far hcL hcG hcK hcj hfj
    have hcG := hG2.cell
    have hcK : W2.cell? ⟨w.heap.size + 1, 0, none⟩ = some (.int .i64 x) := Lib.cell_of_heap hK2 0
    have hfK : W2.frozen? ⟨w.heap.size + 1, 0, none⟩ = false := Lib.frozen_of_heap hK2 0
    refine wpIn_region_quiet_tail_r 5 hmx (by kernel_rfl) ?_
    simp only [List.take_succ_cons, List.take_zero, List.drop_succ_cons, List.drop_zero]
    repeat (gi_big_quiet_step ((gi_at_call 55; refine CallsIn.quiet_of_same (CallsIn.inRound ll (chN_in F _ h58 hro g h1g h2g j (by omega) _)))))
    refine wpQuietIn_nil ?_
    intro _ hw'
    obtain ⟨q2, hw''⟩ := hw'
    subst hw''
    obtain ⟨W3, hW3⟩ : ∃ W3, (W2.drewN q2).setCell ⟨w.heap.size + 1, 0, none⟩ (.int .i64 (x / chN g j)) = W3 := ⟨_, rfl⟩
    have far : ∀ B o, B ≠ w.heap.size + 1 → W2.heap[B]? = o → W3.heap[B]? = o := fun B o hne h => by rw [← hW3]; exact (Below.heap_setCell _ _ _ _ hne).trans h
    have hK3 : W3.heap[w.heap.size + 1]? = some (.cells #[.int .i64 (x / chN g j)] 2 (0, 0)) := by rw [← hW3, heap_set_at (w := W2.drewN q2) hK2]; rfl
    have hB3 : Below w.heap.size w W3 := by rw [← hW3]; exact (below_drewN hB2 q2).setCell (p := ⟨w.heap.size + 1, 0, none⟩) (by simp) _
    have hb3 : Below w.heap.size W W3 := by rw [← hW3]; exact (below_drewN hb2 q2).setCell (p := ⟨w.heap.size + 1, 0, none⟩) (by simp) _
    have hk3 : KeepsOthers W W3 := by rw [← hW3]; exact (hk2.trans (show KeepsOthers W2 (W2.drewN q2) from ⟨Nat.le_refl _, fun _ _ h _ => h⟩)).trans (KeepsOthers.setCell _ _ _)
    have hG3 := far _ _ (by omega) hG2
    have hL3 := far _ _ (by omega) hL2
    have hS3 := far _ _ (by omega) hS2
    have hr3 := far _ _ (by omega) hrow2
    gi_wp2
    exact ⟨hk3.from _, ⟨hb3, hS3.trans hS.symm, fun _ => ⟨_, hr3⟩⟩, hG3, by rw [HS]; exact hK3, hL3, hS3, by rw [HS]; exact hr3, hB3⟩
  case done =>
    rintro D ys W hD hys ⟨hG, hK2, hL, hS, hrow, hB⟩ hK
    have e : plc ys = (List.range n).reverse := hys
    rw [e] at hrow
    have hr2 : W.heap[w.heap.size + 1 + 1]? = some (.cells (rowF (atF g n k) n) 2 (0, 0)) := by
      rw [hrow]
      congr 2
      have ht := (raT_top (g := g) (k := k) h1g h2g n n (Nat.le_refl _)).1
      rw [List.take_of_length_le (by simp)] at ht
      exact rowF_congr fun i hi => ht i (by omega) hi
    have hcL := hL.cell
    have O1 := OFC (w.heap.size + 1 + 1) (atF g n k) (atF_ok h1g h2g n) W (Array.getElem?_eq_some_iff.1 hr2).1 (fun i hi => (Lib.cell_of_heap hr2 i).trans (rowF_get _ _ _ hi))
    gi_wp2_with (gi_at_call 56; refine O1.mono ?_; rintro e w2 ⟨v, rfl, hO, hB2⟩)
    refine (TXT v (ofL (atF g n k) n) (ofL_letters _ _) (by rw [ofL_length]; omega) w2 hO.row).mono ?_
    rintro e w3 ⟨rfl, hB3⟩
    have hDW : D < W.heap.size := (Array.getElem?_eq_some_iff.1 hK).1
    have hK3 : w3.heap[D]? = some (.deferred (some [])) := (hB3.block D (Nat.lt_of_lt_of_le hDW hB2.size)).trans ((hB2.block D hDW).trans hK)
    have hBf : Below w.heap.size w w3 := (hB.trans (hB2.mono hB.size)).trans (hB3.mono (Nat.le_trans hB.size hB2.size))
    gi_wp2
    refine ⟨by simp, .inl ⟨_, _, rfl, run_takeDeferred hK3, ?_⟩⟩
    refine ⟨.tuple #[.string (txt (ofL (atF g n k) n)), .int .i64 0], by simp [results, Try.results15, go_sem], rfl, ?_⟩
    exact hBf.trans ((Below.refl w.heap.size w3).grown (grownBy_putObj' w3 D _) (by have := hBf.size; omega) (fun k e => by cases e; omega))
  case stop =>
    rintro D c pre W _ _ h _
    exact h.elim
/-- what ReducedAt answers -/
def raOk (g n k : Int) : Prop := (1 ≤ g ∧ g ≤ 4) ∧ (0 ≤ n ∧ n ≤ 12) ∧ 0 ≤ k ∧ k < ways g false n.toNat
instance (g n k : Int) : Decidable (raOk g n k) := by unfold raOk; infer_instance
def RaPost (g n k : Int) (w : World) : Ending → World → Prop := TextPost (if raOk g n k then ofL (atF g n.toNat k) n.toNat else []) (if raOk g n k then 0 else 2) w
set_option maxHeartbeats 1000000 in
theorem ired_any (g n k : Int) (w : World) : Calls Try.prog 15 #[.int .i64 g, .int .i64 n, .int .i64 k] w (RaPost g n k w) := by
  unfold RaPost
  by_cases h : raOk g n k
  · rw [if_pos h, if_pos h]
    obtain ⟨⟨h1, h2⟩, ⟨h3, h4⟩, h5, h6⟩ := h
    obtain ⟨m, rfl⟩ : ∃ m : Nat, n = (m : Int) := ⟨n.toNat, by omega⟩
    rw [Int.toNat_natCast] at h6 ⊢
    exact callsIn_wide.1 (ired_core Fence.wide 4 rfl (Nat.le_refl _) g h1 h2 m (by omega) k h5 h6 w)
  · rw [if_neg h, if_neg h]
    have CNT := Lib.hid (fun w => icount_any g n w)
    unfold crPost at CNT
    have B : Below w.heap.size w ((w.alloc (.cells #[.int .i64 g] 2)).alloc (.cells #[.int .i64 k] 2)) := ((Below.refl _ w).alloc (Nat.le_refl _) _).alloc (by simp) _
    have HB := Lib.hid B
    clear B
    by_cases hg : (1 ≤ g ∧ g ≤ 4) ∧ 0 ≤ n ∧ n ≤ 12
    · rw [if_pos hg, if_pos hg] at CNT
      have hkk : k < 0 ∨ (0 ≤ k ∧ ways g false n.toNat ≤ k) := by
        rcases Int.lt_or_le k 0 with h0 | h0
        · exact .inl h0
        · refine .inr ⟨h0, ?_⟩
          rcases Int.lt_or_le k (ways g false n.toNat) with h1 | h1
          · exact absurd ⟨hg.1, hg.2, h0, h1⟩ h
          · exact h1
      generalize ways g false n.toNat = cnt at CNT hkk
      clear h hg
      rcases hkk with hk | ⟨hk0, hk⟩
      · have t1 : decide (k < 0) = true := by simpa using hk
        go_enter Try.func15, Try.ntmps15
        go_wp2_with (go_at_call 46; refine (CNT.out _).mono ?_; rintro e w' ⟨rfl, rfl⟩)
        go_ret2
        exact ⟨rfl, HB.out⟩
      · have t1 : decide (k < 0) = false := by simp; omega
        have t2 : decide (cnt ≤ k) = true := by simpa using hk
        go_enter Try.func15, Try.ntmps15
        go_wp2_with (go_at_call 46; refine (CNT.out _).mono ?_; rintro e w' ⟨rfl, rfl⟩)
        go_ret2
        exact ⟨rfl, HB.out⟩
    · rw [if_neg hg, if_neg hg] at CNT
      clear h hg
      go_enter Try.func15, Try.ntmps15
      go_wp2_with (go_at_call 46; refine (CNT.out _).mono ?_; rintro e w' ⟨rfl, rfl⟩)
      go_ret2
      exact ⟨rfl, HB.out⟩
end Go.Proofs.Ytdcphheeapmjcaa
