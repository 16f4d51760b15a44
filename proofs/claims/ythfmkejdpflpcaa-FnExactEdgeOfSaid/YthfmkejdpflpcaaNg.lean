/-
  CONTRACT: inOrder, given the sort.
-/
import Derived.Test.YthfmkejdpflpcaaNf
import Derived.Test.YthfmkejdpflpcaaNc
namespace Go.Proofs.Ythfmkejdpflpcaa
open Go.ChangeShapes Go.WideShapes Go.ChangeAt Go.RowKit Go.Maps Go.WideMaps
theorem nodup_len : ∀ {K K' : List (Int × Int)}, K.Nodup → (∀ c ∈ K, c ∈ K') → K.length ≤ K'.length
  | [], K', _, _ => Nat.zero_le _
  | c :: K, K', hn, h => by
    rw [List.nodup_cons] at hn
    have hc := h c (by simp)
    have := nodup_len (K := K) (K' := K'.erase c) hn.2 fun x hx => (List.mem_erase_of_ne (fun e => hn.1 (by subst e; exact hx))).2 (h x (List.mem_cons_of_mem _ hx))
    rw [List.length_erase_of_mem hc] at this
    have hp := List.length_pos_of_mem hc
    simp only [List.length_cons]
    omega
theorem PicK.nodup {F : MF} {K : List (Int × Int)} (h : PicK F K) : K.Nodup := h.1.imp fun {a b} hab e => by subst e; unfold ltP at hab; omega
/-- the corners are all out: there are as many as the picture has blocks -/
theorem KI.all {D : DataW Value} {F : MF} {left : Lit → Bool} {K K0 : List (Int × Int)} (h : KI D F left K) (hD : ∀ p q, C32 p → C32 q → D.atKey (coKey p q) (.held (.agg (M16 zI))) = .held (.agg (M16 (F p q)))) (hl : ∀ kl, left kl = false) (h0 : PicK F K0) : K.length = K0.length := by
  have hm : ∀ c, c ∈ K ↔ c ∈ K0 := fun c => by
    rw [show c = (c.1, c.2) from rfl, h.2, h0.2]
    refine ⟨fun ⟨hc, _, e⟩ => ⟨hc, e⟩, fun ⟨hc, e⟩ => ⟨hc, ⟨?_, hl _⟩, e⟩⟩
    cases hh : Maps.has D (coKey c.1 c.2) with
    | true => rfl
    | false =>
      have e1 := hD c.1 c.2 hc.1 hc.2
      rw [atKey_of_not_has hh] at e1
      simp only [DataW.held.injEq, Value.agg.injEq] at e1
      have : emptyF (F c.1 c.2) = emptyF zI := emptyF_congr fun y hy => by
        have e2 : (M16 zI)[y]? = (M16 (F c.1 c.2))[y]? := by rw [e1]
        rw [arr_get _ _ _ _ hy, arr_get _ _ _ _ hy] at e2
        simp only [Option.some.injEq, Value.int.injEq, true_and] at e2
        exact e2.symm
      rw [this, show emptyF zI = true from rfl] at e
      cases e
  have h1 := nodup_len h.1 fun c hc => (hm c).1 hc
  have h2 := nodup_len h0.nodup fun c hc => (hm c).2 hc
  omega
theorem ranges_below {w w' : World} {b r n cnt : Nat} {D : DataW Value} {left : Lit → Bool} {row : Option Nat} (h : w.ranges Try.prog 46 RM b r n D left cnt) (hg : w.grownBy w' row) (hb : some b ≠ row) (hr : some r ≠ row) : w'.ranges Try.prog 46 RM b r n D left cnt := h.kept hg hb hr
theorem below_grown {w w' : World} (h : Below w.heap.size w w') : w.grownBy w' none := ⟨h.os, h.tape, h.output, h.size, fun k hk _ => h.block k hk⟩
def ioC (K : List (Int × Int)) : Int := if K.length ≤ 64 then 0 else 3
def ioK (K : List (Int × Int)) : List (Int × Int) := if K.length ≤ 64 then K else []
theorem ownNone (o : Option Nat) : o = none ∨ o ≠ none := by cases o <;> simp
theorem fold_off (o : Nat) : ∀ (l : List Value) (i : Nat) (Z : Array Value), o + i + l.length ≤ Z.size → ∀ j, (List.foldl (fun cs (x : Value × Nat) => cs.setIfInBounds (o + x.2) x.1) Z (l.zipIdx i))[j]? = if o + i ≤ j ∧ j < o + i + l.length then l[j - (o + i)]? else Z[j]?
  | [], i, Z, _, j => by simp; omega
  | v :: l, i, Z, h, j => by
    rw [List.zipIdx_cons, List.foldl_cons, fold_off o l (i + 1) (Z.setIfInBounds (o + i) v) (by simp at h ⊢; omega) j]
    simp only [List.length_cons] at h
    by_cases h1 : j = o + i
    · subst h1
      rw [if_neg (by omega), if_pos (by simp), Array.getElem?_setIfInBounds_self_of_lt (by omega), Nat.sub_self]
      rfl
    · by_cases h2 : o + i ≤ j ∧ j < o + i + (l.length + 1)
      · rw [if_pos (by omega), if_pos (by simpa using h2), show j - (o + i) = (j - (o + (i + 1))) + 1 by omega, List.getElem?_cons_succ]
      · rw [if_neg (by omega), if_neg (by simpa using h2), Array.getElem?_setIfInBounds_ne (by omega)]
theorem fold_arr (o : Nat) (A Z : Array Value) (h : o + A.size ≤ Z.size) (j : Nat) : (Array.foldl (fun cs (x : Value × Nat) => cs.setIfInBounds (o + x.2) x.1) Z A.zipIdx 0 A.size)[j]? = if o ≤ j ∧ j < o + A.size then A[j - o]? else Z[j]? := by
  have e : Array.foldl (fun cs (x : Value × Nat) => cs.setIfInBounds (o + x.2) x.1) Z A.zipIdx 0 A.size = List.foldl (fun cs (x : Value × Nat) => cs.setIfInBounds (o + x.2) x.1) Z (A.toList.zipIdx 0) := by
    rw [show A.size = A.zipIdx.size by simp, ← Array.foldl_toList]
    simp
  rw [e, fold_off o A.toList 0 Z (by simpa using h) j]
  simp
theorem fold_whole (A Z : Array Value) (h : A.size = Z.size) : Array.foldl (fun cs (x : Value × Nat) => cs.setIfInBounds x.2 x.1) Z A.zipIdx 0 A.size = A := by
  have e : (fun (cs : Array Value) (x : Value × Nat) => cs.setIfInBounds x.2 x.1) = fun cs x => cs.setIfInBounds (0 + x.2) x.1 := by funext cs x; rw [Nat.zero_add]
  rw [e]
  apply Array.ext_getElem?
  intro j
  rw [fold_arr 0 A Z (by omega)]
  by_cases hj : j < A.size
  · rw [if_pos ⟨Nat.zero_le _, by omega⟩, Nat.sub_zero]
  · rw [if_neg (by omega), Array.getElem?_eq_none (by omega), Array.getElem?_eq_none (by omega)]
theorem fold_bl (p q : Int) (A : Array Value) (h : A.size = 16) : Array.foldl (fun cs (x : Value × Nat) => cs.setIfInBounds (2 + x.2) x.1) #[Value.int .i32 p, Value.int .i32 q, Value.int .u16 0, Value.int .u16 0, Value.int .u16 0, Value.int .u16 0, Value.int .u16 0, Value.int .u16 0, Value.int .u16 0, Value.int .u16 0, Value.int .u16 0, Value.int .u16 0, Value.int .u16 0, Value.int .u16 0, Value.int .u16 0, Value.int .u16 0, Value.int .u16 0, Value.int .u16 0] A.zipIdx 0 A.size = #[Value.int .i32 p, Value.int .i32 q] ++ A := by
  apply Array.ext_getElem?
  intro j
  rw [fold_arr 2 A _ (by simp [h])]
  by_cases hj : j < 2
  · rw [if_neg (by omega), Array.getElem?_append_left (by simpa using hj)]
    rcases (by omega : j = 0 ∨ j = 1) with rfl | rfl <;> rfl
  · rw [Array.getElem?_append_right (by simp; omega)]
    by_cases hj2 : j < 18
    · rw [if_pos (by omega)]
      rfl
    · rw [if_neg (by omega), Array.getElem?_eq_none (by simp; omega), Array.getElem?_eq_none (by simp; omega)]
set_option maxRecDepth 100000 in
set_option maxHeartbeats 8000000 in
theorem iInOrder_any (SB : SortsB) (b n : Nat) (F : MF) (K0 : List (Int × Int)) (hK0 : PicK F K0) (w : World) (hn : n ≤ 1000000) (hm : MapM b n F w) :
    Calls Try.prog 58 #[.map (some b)] w fun e w' => ∃ v, e = .returned (.tuple #[v, .int .i64 (ioC K0)]) ∧ OB w.heap.size v F (ioK K0) w' ∧ Below w.heap.size w w' := by
  have HBL := Lib.hid hm.lt
  obtain ⟨D, hown, hD⟩ := hm
  have HO := Lib.hid hown
  have HD := Lib.hid hD
  have HS := Lib.hid (map_size_le hown)
  have HK := Lib.hid hK0
  have HN := Lib.hid hn
  have IE := Lib.hid isEmpty_any
  clear hown hD hn hK0
  go_enter Try.func58, Try.ntmps58
  go_wp2_with (at_range; refine wpList_range_own _ rfl _ 65 rfl 46 71 keyedCo Try.underlying65 RM b n D rfl HO.out ?_; intro w0 hrg0 hg0 hs0)
  go_frame
  have RG := Lib.hid hrg0
  have B0 : Hid (Below w.heap.size w w0) := Lib.hid ⟨hg0.os, hg0.tape, hg0.output, hg0.size, fun k hk => hg0.block k hk (by simp)⟩
  clear hrg0 hg0 hs0
  go_loopw [4] (fun v wr => ∃ K left cnt, Hid (wr.ranges Try.prog 46 RM b w.heap.size n D left cnt) ∧ Hid (OB (w.heap.size + 1) v F K wr) ∧ Hid (KI D F left K) ∧ Hid (K.length + cnt ≤ n) ∧ Hid (Below w.heap.size w wr)) (fun _ wr => wr.rangeLeft b w.heap.size)
  case atStart => exact ⟨[], _, _, RG, Lib.hid (World.ownsRow_nil _ _ _ _), Lib.hid (KI.start D F), Lib.hid (by simpa using HS.out), B0⟩
  case round =>
    obtain ⟨K, left, cnt, RG1, O1, KI1, LN1, B1⟩ := hrel
    clear RG B0
    go_wp2_with (at_next; refine wpList_next_ranges _ rfl _ rfl 46 keyedCo RM (fun c : Int × Int => Value.agg #[.int .i32 c.1, .int .i32 c.2]) (fun v : Value => v) (fun key kl h => by obtain ⟨c, e, _⟩ := keyCo_inv h; exact ⟨c, e⟩) (fun v y _ => ⟨v, rfl⟩) b w.heap.size n _ _ _ rfl RG1.out ?_ ?_)
    · intro hc0 hl0
      have KL := Lib.hid (KI1.out.all HD.out hl0 HK.out)
      have HL0 := Lib.hid hl0
      obtain ⟨a4, c4, rfl⟩ := O1.out.len
      have kn : K.length ≤ 1000000 := by have := LN1.out; have := HN.out; omega
      have RL := Lib.hid RG1.out.lt
      clear hl0 hc0
      by_cases h64 : K.length ≤ 64
      · have t64 : (K.length : Int) ≤ 64 := by omega
        have K64 : Hid (K0.length ≤ 64) := Lib.hid (by rw [← KL.out]; exact h64)
        have SO := Lib.hid (fun h => SB (w.heap.size + 1) _ F K wr h kn O1.out)
        have E1 : Hid (ioC K0 = 0) := Lib.hid (if_pos K64.out)
        have E2 : Hid (ioK K0 = K0) := Lib.hid (if_pos K64.out)
        obtain ⟨k, hk⟩ : ∃ k, K.length = k := ⟨_, rfl⟩
        rw [hk] at t64 SO
        rw [hk]
        have OWN : Hid (OB (w.heap.size + 1) (.slice a4 k c4) F K wr) := Lib.hid (by rw [← hk]; exact O1.out)
        clear h64 kn K64 hk
        go_wp2_with fail
        refine (SO.out RL.out).mono ?_
        rintro e w5 ⟨rfl, K', hp, hs, ho, hg⟩
        have hpk : PicK F K' := KI1.out.pic HD.out HL0.out hp hs
        obtain rfl := hpk.uniq HK.out
        have OF : Hid (OB w.heap.size (.slice a4 k c4) F K' w5) := Lib.hid (ho.mono (Nat.le_succ _))
        have BF : Hid (Below w.heap.size w w5) := Lib.hid (B1.out.trans ⟨hg.os, hg.tape, hg.output, hg.size, fun j hj => hg.block j (Nat.lt_of_lt_of_le hj B1.out.size) (Ne.symm (fun e => by
          have h1 := (World.ownsRow.lt OWN.out j e).1
          omega))⟩)
        clear hp hs ho hg
        go_wp2
        exact bodyPost_ret (v := .tuple #[.slice a4 k c4, .int .i64 0]) (by simp [results, Try.results58, go_sem]) rfl ⟨_, by rw [E1.out], by rw [E2.out]; exact OF.out, BF.out⟩
      · have t64 : (64 : Int) < (K.length : Int) := by omega
        have K64 : Hid (¬ K0.length ≤ 64) := Lib.hid (by rw [← KL.out]; exact h64)
        have E1 : Hid (ioC K0 = 3) := Lib.hid (if_neg K64.out)
        have E2 : Hid (ioK K0 = []) := Lib.hid (if_neg K64.out)
        obtain ⟨k, hk⟩ : ∃ k, K.length = k := ⟨_, rfl⟩
        rw [hk] at t64
        rw [hk]
        clear h64 kn K64 hk
        go_wp2
        exact bodyPost_ret (v := .tuple #[.slice none 0 0, .int .i64 3]) (by simp [results, Try.results58, go_sem]) rfl ⟨_, by rw [E1.out], by rw [E2.out]; exact World.ownsRow_nil _ _ _ _, B1.out⟩
    · intro p q c kl y ys w1 cnt1 hkx hlx hRc hat hrg1 hlt hg1 hs1 hen
      obtain ⟨⟨p', q'⟩, ec, wp, wq, rfl⟩ := keyCo_inv hkx
      have ep : p = p' ∧ q = q' := by simpa using ec
      obtain ⟨rfl, rfl⟩ := ep
      have hy : y = .held c := by simp [RM] at hRc; exact hRc.1.symm
      subst hy
      obtain ⟨A, hA⟩ : ∃ A, M16 (F p q) = A := ⟨_, rfl⟩
      have HA := Lib.hid hA
      have ecv : c = .agg A := by
        have := (HD.out p q wp wq).symm.trans (hat _)
        rw [← hA]
        simpa using this.symm
      subst ecv
      have hhas := Lib.hid (has_true_of_atKey hat)
      have HLX := Lib.hid hlx
      have WP := Lib.hid wp
      have WQ := Lib.hid wq
      have RL := Lib.hid RG1.out.lt
      have LE0 := Lib.hid RG1.out.left_eq
      have B2 : Hid (Below w.heap.size w w1) := Lib.hid (B1.out.trans ⟨hg1.os, hg1.tape, hg1.output, hg1.size, fun k hk => hg1.block k (Nat.lt_of_lt_of_le hk B1.out.size) (by simp; omega)⟩)
      have O2 : Hid (OB (w.heap.size + 1) u4 F K w1) := Lib.hid (O1.out.kept hg1 (.inr (O1.out.far (Nat.lt_succ_self _))))
      have RG2 := Lib.hid hrg1
      have ZL : w.heap.size < w1.heap.size := by rw [hs1]; exact RL.out
      have HLT := Lib.hid hlt
      clear hkx hlx hRc hat hrg1 hlt hg1 hs1 wp wq ec RG1 O1 B1 RL
      have MS : Hid (A.size = 16) := Lib.hid (by rw [← hA]; exact arr_size _ _ _)
      have MO : Hid (A.all (·.oneCell') = true) := Lib.hid (by rw [← hA]; exact arr_cells _ _ _)
      have LE : Hid (wr.rangeLeft b w.heap.size = cnt) := LE0
      have IEF : Hid (∀ W, Calls Try.prog 97 #[.agg A] W fun e w' => e = .returned (.bool (emptyF (F p q))) ∧ Below W.heap.size W w') := Lib.hid fun W => by rw [← hA]; exact IE.out (F p q) W
      clear hA
      obtain ⟨w2, hw2⟩ : ∃ x, (w1.alloc (.cells #[.int .i32 p, .int .i32 q] CO)).alloc (.cells #[Value.int .u16 0, Value.int .u16 0, Value.int .u16 0, Value.int .u16 0, Value.int .u16 0, Value.int .u16 0, Value.int .u16 0, Value.int .u16 0, Value.int .u16 0, Value.int .u16 0, Value.int .u16 0, Value.int .u16 0, Value.int .u16 0, Value.int .u16 0, Value.int .u16 0, Value.int .u16 0] 71) = x := ⟨_, rfl⟩
      have TA := two_allocs w1 (.cells #[.int .i32 p, .int .i32 q] CO) (.cells #[Value.int .u16 0, Value.int .u16 0, Value.int .u16 0, Value.int .u16 0, Value.int .u16 0, Value.int .u16 0, Value.int .u16 0, Value.int .u16 0, Value.int .u16 0, Value.int .u16 0, Value.int .u16 0, Value.int .u16 0, Value.int .u16 0, Value.int .u16 0, Value.int .u16 0, Value.int .u16 0] 71)
      rw [hw2] at TA
      have T6a := Lib.hid TA.2.1
      obtain ⟨w3, hw3⟩ : ∃ x, w2.setRow (w1.heap.size + 1) A = x := ⟨_, rfl⟩
      have T6 : Hid (w3.heap[w1.heap.size + 1]? = some (.cells A 71 (0, 0))) := Lib.hid (by rw [← hw3]; exact setRow_heap _ _ _ _ _ _ T6a.out)
      have T5 : Hid (w3.heap[w1.heap.size]? = some (.cells #[.int .i32 p, .int .i32 q] CO (0, 0))) := Lib.hid (by rw [← hw3]; exact (setRow_other w2 _ _ _ (by omega)).trans TA.1)
      have b3 : Below w1.heap.size w1 w3 := by rw [← hw3]; exact below_setRow TA.2.2.1 (by omega) _
      have B3 := Lib.hid (B2.out.trans (b3.mono B2.out.size))
      have b3' := Lib.hid b3
      clear TA b3
      cases he : emptyF (F p q) with
      | true =>
        rw [he] at IEF
        go_wp2_with (first | (refine wpList_store_row rfl 71 _ _ rfl (w1.heap.size + 1) A rfl rfl 71 _ T6a.out (mask_info _ MS.out) MS.out.symm MO.out ?_; rw [hw3]) | (refine wpList_load_row rfl 71 _ rfl (w1.heap.size + 1) rfl 71 _ _ _ T6.out Try.underlying71 rfl (mask_info _ MS.out) ?_))
        refine (IEF.out _).mono ?_
        rintro e w4 ⟨rfl, b⟩
        have B4 := Lib.hid (B3.out.trans (b.mono B3.out.size))
        have b4 := Lib.hid (b3'.out.trans (b.mono b3'.out.size))
        have S5 := Lib.hid ((b.block _ (Array.getElem?_eq_some_iff.1 T5.out).1).trans T5.out)
        have S6 := Lib.hid ((b.block _ (Array.getElem?_eq_some_iff.1 T6.out).1).trans T6.out)
        have RG4 := Lib.hid (RG2.out.kept (below_grown b4.out) (by simp) (by simp))
        have O4 : Hid (OB (w.heap.size + 1) u4 F K w4) := Lib.hid (O2.out.kept (below_grown b4.out) (ownNone _))
        clear b T5 T6 T6a b3'
        go_wp2
        go_roundw
        case rel => exact ⟨K, _, cnt1, RG4, O4, Lib.hid (KI1.out.skip (x := (p, q)) WP.out WQ.out he), Lib.hid (by have := LN1.out; have := HLT.out; omega), B4⟩
        case measure => rw [RG4.out.left_eq, LE.out]; exact HLT.out
      | false =>
        rw [he] at IEF
        go_wp2_with (first | (refine wpList_store_row rfl 71 _ _ rfl (w1.heap.size + 1) A rfl rfl 71 _ T6a.out (mask_info _ MS.out) MS.out.symm MO.out ?_; rw [hw3]) | (refine wpList_load_row rfl 71 _ rfl (w1.heap.size + 1) rfl 71 _ _ _ T6.out Try.underlying71 rfl (mask_info _ MS.out) ?_))
        refine (IEF.out _).mono ?_
        rintro e w4 ⟨rfl, b⟩
        have B4 := Lib.hid (B3.out.trans (b.mono B3.out.size))
        have b4 := Lib.hid (b3'.out.trans (b.mono b3'.out.size))
        have S5 := Lib.hid ((b.block _ (Array.getElem?_eq_some_iff.1 T5.out).1).trans T5.out)
        have S6 := Lib.hid ((b.block _ (Array.getElem?_eq_some_iff.1 T6.out).1).trans T6.out)
        have RG4 := Lib.hid (RG2.out.kept (below_grown b4.out) (by simp) (by simp))
        have O4 : Hid (OB (w.heap.size + 1) u4 F K w4) := Lib.hid (O2.out.kept (below_grown b4.out) (ownNone _))
        clear b T5 T6 T6a b3'
        have c0 : w4.cell? ⟨w1.heap.size, 0, none⟩ = some (.int .i32 p) := Lib.cell_of_heap S5.out 0
        have c1 : w4.cell? ⟨w1.heap.size, 1, none⟩ = some (.int .i32 q) := Lib.cell_of_heap S5.out 1
        obtain ⟨X, hX⟩ : ∃ X, #[Value.int .i32 p, Value.int .i32 q] ++ A = X := ⟨_, rfl⟩
        have XS : X.size = 18 := by rw [← hX]; simp [MS.out]
        have HX : Hid (bkA F (p, q) = X) := Lib.hid (by rw [← hX, ← HA.out]; rfl)
        have f1 : Array.foldl (fun cs (x : Value × Nat) => cs.setIfInBounds (2 + x.2) x.1) #[Value.int .i32 p, Value.int .i32 q, Value.int .u16 0, Value.int .u16 0, Value.int .u16 0, Value.int .u16 0, Value.int .u16 0, Value.int .u16 0, Value.int .u16 0, Value.int .u16 0, Value.int .u16 0, Value.int .u16 0, Value.int .u16 0, Value.int .u16 0, Value.int .u16 0, Value.int .u16 0, Value.int .u16 0, Value.int .u16 0] A.zipIdx 0 16 = X := by rw [← fold_bl p q A MS.out, MS.out] at hX; exact hX
        have f2 : Array.foldl (fun cs (x : Value × Nat) => cs.setIfInBounds x.2 x.1) #[Value.int .i32 0, Value.int .i32 0, Value.int .u16 0, Value.int .u16 0, Value.int .u16 0, Value.int .u16 0, Value.int .u16 0, Value.int .u16 0, Value.int .u16 0, Value.int .u16 0, Value.int .u16 0, Value.int .u16 0, Value.int .u16 0, Value.int .u16 0, Value.int .u16 0, Value.int .u16 0, Value.int .u16 0, Value.int .u16 0] X.zipIdx 0 18 = X := by have := fold_whole X #[Value.int .i32 0, Value.int .i32 0, Value.int .u16 0, Value.int .u16 0, Value.int .u16 0, Value.int .u16 0, Value.int .u16 0, Value.int .u16 0, Value.int .u16 0, Value.int .u16 0, Value.int .u16 0, Value.int .u16 0, Value.int .u16 0, Value.int .u16 0, Value.int .u16 0, Value.int .u16 0, Value.int .u16 0, Value.int .u16 0] (by rw [XS]; rfl); rw [XS] at this; exact this
        have asz := MS.out
        clear hX
        have Z4 : Hid (w.heap.size + 1 ≤ w4.heap.size) := Lib.hid (by have := b4.out.size; omega)
        have KN : Hid (K.length ≤ 1000000) := Lib.hid (by have := LN1.out; have := HN.out; omega)
        go_wp2_with (first | (refine wpList_append_bx rfl _ _ rfl (w.heap.size + 1) w4 w4 u4 F K (p, q) X HX.out rfl _ rfl rfl O4 (Lib.hid (Below.refl _ _)) Z4.out KN.out ?_; intro v' w6 hO6 hB6 hs6 hg6) | (refine wpList_load_row rfl 71 _ rfl (w1.heap.size + 1) rfl 71 _ _ _ S6.out Try.underlying71 rfl (mask_info _ MS.out) ?_))
        go_roundw
        case rel => exact ⟨K ++ [(p, q)], _, cnt1, Lib.hid ((RG4.out.alloc _).kept hg6 (Ne.symm (O4.out.far (Nat.lt_succ_of_lt HBL.out))) (Ne.symm (O4.out.far (Nat.lt_succ_self _)))), hO6, Lib.hid (KI1.out.take (x := (p, q)) WP.out WQ.out hhas.out HLX.out he), Lib.hid (by have := LN1.out; have := HLT.out; simp only [List.length_append, List.length_cons, List.length_nil]; omega), Lib.hid (B4.out.trans (hB6.out.mono (Nat.le_succ_of_le (Nat.le_refl _))))⟩
        case measure => rw [((RG4.out.alloc _).kept hg6 (Ne.symm (O4.out.far (Nat.lt_succ_of_lt HBL.out))) (Ne.symm (O4.out.far (Nat.lt_succ_self _)))).left_eq, LE.out]; exact HLT.out
end Go.Proofs.Ythfmkejdpflpcaa
