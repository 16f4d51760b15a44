/-
  CONTRACT: the program's PackFrames.
-/
import Derived.Test.YthfmkejdpflpcaaGpb
import Derived.Test.YthfmkejdpflpcaaGj
namespace Go.Proofs.Ythfmkejdpflpcaa
open Go.ChangeShapes Go.WideShapes Go.ChangeAt Go.RowKit Go.Shelf
attribute [local go_sem] Oper.semAt_some
/-- a piece of twelve bytes of N, zeros behind them -/
def padP (A : Nat → Int) (N c : Nat) : Nat → Int := fun j => if 12 * c + j < N then A (12 * c + j) else 0
theorem padP_by {A : Nat → Int} {N : Nat} (h : ByF N A) (c m : Nat) : ByF m (padP A N c) := fun j _ => by
  unfold padP
  split
  · exact h _ (by assumption)
  · omega
/-- the bytes of the frames of N bytes -/
def pkF (A : Nat → Int) (N : Nat) : Nat → Int := fun j => mkfF (j / 16) (padP A N (j / 16)) (j % 16)
def pkL (A : Nat → Int) (N : Nat) {m : Nat} (l : List (Cm m)) : List Value := l.zipIdx.flatMap fun x => rowU (mkfF x.2 (padP A N x.1.1)) 16
theorem pkL_snoc (A : Nat → Int) (N : Nat) {m : Nat} (l : List (Cm m)) (c : Cm m) : pkL A N (l ++ [c]) = pkL A N l ++ rowU (mkfF l.length (padP A N c.1)) 16 := by simp [pkL, List.zipIdx_append]
theorem pkL_all (A : Nat → Int) (N m : Nat) : ∀ k, k ≤ m → pkL A N (cmL m k) = rowU (pkF A N) (k * 16)
  | 0, _ => rfl
  | k + 1, h => by
    rw [cmL_succ (show k < m by omega), pkL_snoc, pkL_all A N m k (by omega), cmL_len (show k ≤ m by omega), rowU_cat, show (k + 1) * 16 = k * 16 + 16 by omega]
    refine rowU_congr fun j hj => ?_
    unfold catU
    split
    · rfl
    · unfold pkF
      rw [show j / 16 = k by omega, show j % 16 = j - k * 16 by omega]
/-- how many frames N bytes ask for -/
def pkN (n : Nat) : Nat := (12 + n + 11) / 12
theorem Q12_row (q : Nat → Int) : (Q12 q).toList = rowU q 12 := by simp [rowU, arr]
theorem Q16_row (q : Nat → Int) : (Q16 q).toList = rowU q 16 := by simp [rowU, arr]
theorem pad_row (A : Nat → Int) (N c L : Nat) (hL : L ≤ 12) (h1 : 12 * c + L ≤ N) (h2 : L < 12 → N = 12 * c + L) : (List.take 0 (Q12 zI).toList ++ (rowU (fun j => A (12 * c + j)) L ++ List.drop (0 + L) (Q12 zI).toList)).toArray = Q12 (padP A N c) := by
  apply Array.ext'
  rw [List.take_zero, List.nil_append, Nat.zero_add]
  show _ ++ List.drop L (Q12 zI).toList = (Q12 (padP A N c)).toList
  rw [Q12_row zI, Q12_row (padP A N c)]
  apply List.ext_getElem?
  intro j
  by_cases hj : j < L
  · rw [List.getElem?_append_left (by rw [rowU_len]; exact hj), rowU_get _ _ _ hj, rowU_get _ _ _ (by omega)]
    unfold padP
    rw [if_pos (by omega)]
  · rw [List.getElem?_append_right (by rw [rowU_len]; omega), rowU_len, List.getElem?_drop]
    by_cases h12 : j < 12
    · rw [show L + (j - L) = j by omega, rowU_get _ _ _ h12, rowU_get _ _ _ h12]
      unfold padP
      rw [if_neg (by omega)]
      rfl
    · rw [List.getElem?_eq_none (by rw [rowU_len]; omega), List.getElem?_eq_none (by rw [rowU_len]; omega)]
set_option maxRecDepth 100000 in
set_option maxHeartbeats 16000000 in
theorem ipack_in (F : Fence) (hF : F = Fence.wide) (N : Nat) (hn1 : 3 ≤ N) (k c n : Nat) (hk1 : 1 ≤ k) (hk : k ≤ 3) (hc : c ≤ 256) (hn : n ≤ 8192) (f : Nat → Int) (hf : ByF n f) (a : Option Addr) (cap : Nat) (w : World) (h : YrR w.heap.size w a n f) :
    CallsIn F N Try.prog 123 #[.int .i64 (k : Int), .int .i64 (c : Int), .slice a n cap] w fun e w' => ∃ v, e = .returned (.tuple #[v, .int .i64 0]) ∧ OwnFr w.heap.size v (pkN n) (pkF (catU (hdF k c n) 12 f) (12 + n)) w' ∧ Below w.heap.size w w' := by
  have h0 : F.fn 123 := by rw [hF]; trivial
  have h2 : F.fn 176 := by rw [hF]; trivial
  have h3 : F.fn 145 := by rw [hF]; trivial
  have h4 : F.fn 146 := by rw [hF]; trivial
  have h5 : F.fn 143 := by rw [hF]; trivial
  have h6 : F.fn 144 := by rw [hF]; trivial
  have h7 : F.fn 147 := by rw [hF]; trivial
  have hro : F.round = none := by rw [hF]; rfl
  have hN1 : 1 ≤ N := by omega
  obtain ⟨i0, hi, hz0, hz1, hz2⟩ := info_parts info_fr
  have hcode : hdC k c n = 0 := by
    unfold hdC
    have : hdOk k c = true := by unfold hdOk; simp; omega
    rw [if_pos this, if_neg (by omega)]
  have HC : Hid (∀ W m, CallsIn F m Try.prog 143 #[.agg #[.int .i64 (k : Int), .int .i64 (c : Int), .int .i64 (n : Int)]] W fun e w' => e = .returned (.int .i64 0) ∧ Below W.heap.size W w') := Lib.hid fun W m => by
    rw [hF, ← hcode]
    exact callsIn_wide.2 (hcode_any k c n (by omega) W)
  have HP : Hid (∀ W m, CallsIn F m Try.prog 144 #[.agg #[.int .i64 (k : Int), .int .i64 (c : Int), .int .i64 (n : Int)]] W fun e w' => e = .returned (.agg (Q12 (hdF k c n))) ∧ Below W.heap.size W w') := Lib.hid fun W m => by
    rw [hF]
    exact callsIn_wide.2 (hpay_any k c n hk hc hn W)
  have CH : Hid (∀ a len cap W m, CallsIn F m Try.prog 145 #[.slice a len cap, .int .i64 12] W fun e w' => e = .returned (.func (.func 176) #[] #[.pointer (some ⟨W.heap.size, 0, none⟩), .pointer (some ⟨W.heap.size + 1, 0, none⟩)]) ∧ w' = (W.alloc (.cells #[.slice a len cap] 95)).alloc (.cells #[.int .i64 12] 3)) := Lib.hid fun a len cap W m => by
    rw [hF]
    exact callsIn_wide.2 (chunkG_any a len cap 12 (by omega) W)
  have MK : Hid (∀ (i : Int) (p : Nat → Int), ByF 12 p → ∀ W m, CallsIn F m Try.prog 147 #[.int .i64 i, .agg (Q12 p)] W fun e w' => e = .returned (.tuple #[.agg (Q16 (mkX i p)), .int .i64 (codeX i)]) ∧ Below W.heap.size W w') := Lib.hid fun i p hp W m => by
    rw [hF]
    exact callsIn_wide.2 (iMake_any i p hp W)
  have HN : Hid (1 ≤ k ∧ k ≤ 3 ∧ c ≤ 256 ∧ n ≤ 8192) := Lib.hid ⟨hk1, hk, hc, hn⟩
  have HF := Lib.hid hF
  have HBY := Lib.hid hf
  have HY := Lib.hid h
  have hkI : (k : Int) ≤ 3 := by omega
  have hcI : (c : Int) ≤ 256 := by omega
  have hnI : (n : Int) ≤ 8192 := by omega
  have CC : Hid (∀ g a1 a2 n1 n2 c1 c2 p1 p2, n1 ≤ 2000000 → n2 ≤ 2000000 → ∀ W : World, g < W.heap.size → W.cell? ⟨g, 0, none⟩ = some (.slice a1 n1 c1) → W.cell? ⟨g, 1, none⟩ = some (.slice a2 n2 c2) → YrR W.heap.size W a1 n1 p1 → YrR W.heap.size W a2 n2 p2 → ∀ m, CallsIn F m Try.prog 146 #[.slice (some ⟨g, 0, none⟩) 2 2] W fun e w' => ∃ v, e = .returned v ∧ OwnU W.heap.size v (n1 + n2) (catU p1 n1 p2) w' ∧ Below W.heap.size W w') := Lib.hid fun g a1 a2 n1 n2 c1 c2 p1 p2 e1 e2 W e3 e4 e5 e6 e7 m => by
    rw [hF]
    exact callsIn_wide.2 (uconcat_any g a1 a2 n1 n2 c1 c2 p1 p2 e1 e2 W e3 e4 e5 e6 e7)
  clear hF hk1 hk hc hn hf h hcode
  refine callsIn_of_wp_marks Try.func123 rfl h0 ?_ hro
  simp only [Try.ntmps123, List.size_toArray, List.length_cons, List.length_nil, Nat.reduceAdd, Nat.reduceSub, Array.replicate_succ, Array.replicate_zero, List.push_toArray, List.append_toArray, List.nil_append, List.cons_append]
  obtain ⟨wa, hwa⟩ : ∃ wa, w.alloc (.cells #[.int .i64 (k : Int), .int .i64 (c : Int), .int .i64 (n : Int)] 175) = wa := ⟨_, rfl⟩
  have BA : Hid (Below w.heap.size w wa) := Lib.hid (by rw [← hwa]; exact (Below.refl _ w).alloc (Nat.le_refl _) _)
  have HA : Hid (wa.heap[w.heap.size]? = some (.cells #[.int .i64 (k : Int), .int .i64 (c : Int), .int .i64 (n : Int)] 175 (0, 0))) := Lib.hid (by rw [← hwa]; exact World.alloc_heap_new w _)
  have ZA : Hid (wa.heap.size = w.heap.size + 1) := Lib.hid (by rw [← hwa]; simp)
  have HL : Hid (∀ W, Below wa.heap.size wa W → W.cell? ⟨w.heap.size, 0, none⟩ = some (.int .i64 (k : Int)) ∧ W.cell? ⟨w.heap.size, 1, none⟩ = some (.int .i64 (c : Int)) ∧ W.cell? ⟨w.heap.size, 2, none⟩ = some (.int .i64 (n : Int))) := Lib.hid fun W hW => by
    have e := (hW.block w.heap.size (by have := ZA.out; omega)).trans HA.out
    exact ⟨Lib.cell_of_heap e 0, Lib.cell_of_heap e 1, Lib.cell_of_heap e 2⟩
  have l0 := (HL.out wa (Below.refl _ _)).1
  have l1 := (HL.out wa (Below.refl _ _)).2.1
  have l2 := (HL.out wa (Below.refl _ _)).2.2
  gi_wp2_with fail
  refine (HC.out wa _).mono ?_
  rintro e w1 ⟨rfl, hb⟩
  have B1 := Lib.hid hb
  clear hb l0 l1 l2 hwa
  have l0 := (HL.out w1 B1.out).1
  have l1 := (HL.out w1 B1.out).2.1
  have l2 := (HL.out w1 B1.out).2.2
  gi_wp2_with fail
  refine (HP.out w1 _).mono ?_
  rintro e w2 ⟨rfl, hb⟩
  have B2 : Hid (Below w.heap.size w w2) := Lib.hid (BA.out.trans ((B1.out.trans (hb.mono B1.out.size)).mono BA.out.size))
  clear hb l0 l1 l2
  obtain ⟨w3, hw3⟩ : ∃ w3, w2.alloc (.cells #[Value.int .u8 0, Value.int .u8 0, Value.int .u8 0, Value.int .u8 0, Value.int .u8 0, Value.int .u8 0, Value.int .u8 0, Value.int .u8 0, Value.int .u8 0, Value.int .u8 0, Value.int .u8 0, Value.int .u8 0] 145) = w3 := ⟨_, rfl⟩
  have K3 : Hid (w3.heap[w2.heap.size]? = some (.cells #[Value.int .u8 0, Value.int .u8 0, Value.int .u8 0, Value.int .u8 0, Value.int .u8 0, Value.int .u8 0, Value.int .u8 0, Value.int .u8 0, Value.int .u8 0, Value.int .u8 0, Value.int .u8 0, Value.int .u8 0] 145 (0, 0))) := Lib.hid (by rw [← hw3]; exact World.alloc_heap_new w2 _)
  obtain ⟨w4, hw4⟩ : ∃ w4, (w3.setRow w2.heap.size (Q12 (hdF k c n))) = w4 := ⟨_, rfl⟩
  have K4 : Hid (w4.heap[w2.heap.size]? = some (.cells (Q12 (hdF k c n)) 145 (0, 0))) := Lib.hid (by rw [← hw4]; exact setRow_heap _ _ _ _ _ _ K3.out)
  have Z4 : Hid (w4.heap.size = w2.heap.size + 1) := Lib.hid (by rw [← hw4, ← hw3]; simp)
  have B4 : Hid (Below w.heap.size w w4) := Lib.hid (by rw [← hw4, ← hw3]; exact below_setRow (B2.out.alloc B2.out.size _) B2.out.size _)
  gi_wp2_with (refine wpListIn_store_rowF rfl 145 _ _ rfl w2.heap.size (Q12 (hdF k c n)) rfl rfl 145 _ K3.out (p12_info _ rfl) rfl (arr_cells _ _ _) ?_; rw [hw4])
  obtain ⟨w5, hw5⟩ : ∃ w5, (w4.alloc (.cells #[.slice none 0 0] 51)).alloc (.cells #[.slice (some ⟨w2.heap.size, 0, none⟩) 12 12, .slice a n cap] 95) = w5 := ⟨_, rfl⟩
  have B45 : Hid (Below w4.heap.size w4 w5) := Lib.hid (by rw [← hw5]; exact ((Below.refl _ w4).alloc (Nat.le_refl _) _).alloc (by simp) _)
  have B5 : Hid (Below w.heap.size w w5) := Lib.hid (B4.out.trans (B45.out.mono B4.out.size))
  have Z5 : Hid (w5.heap.size = w4.heap.size + 1 + 1) := Lib.hid (by rw [← hw5]; simp)
  have X5 : Hid (Boxed w5 w4.heap.size 51 (.slice none 0 0)) := Lib.hid (by
    rw [← hw5]
    exact (show Boxed (w4.alloc (.cells #[.slice none 0 0] 51)) w4.heap.size 51 (.slice none 0 0) from World.alloc_heap_new w4 _).alloc _)
  have C5 : Hid (w5.heap[w4.heap.size + 1]? = some (.cells #[.slice (some ⟨w2.heap.size, 0, none⟩) 12 12, .slice a n cap] 95 (0, 0))) := Lib.hid (by
    have := World.alloc_heap_new (w4.alloc (.cells #[.slice none 0 0] 51)) (.cells #[.slice (some ⟨w2.heap.size, 0, none⟩) 12 12, .slice a n cap] 95)
    rw [World.size_alloc, hw5] at this
    exact this)
  have hz5 := Z5.out
  have hz4 := Z4.out
  rw [hw5]
  refine (CC.out (w4.heap.size + 1) (some ⟨w2.heap.size, 0, none⟩) a 12 n 12 cap (hdF k c n) f (by omega) (by have := HN.out; omega) w5 (by omega) (Lib.cell_of_heap C5.out 0) (Lib.cell_of_heap C5.out 1) (.inr ⟨w2.heap.size, 0, rfl, by omega, fun j hj => by
    rw [Nat.zero_add, B45.out.cell (p := ⟨w2.heap.size, j, none⟩) (by show w2.heap.size < _; omega)]
    exact (Lib.cell_of_heap K4.out j).trans (arr_get _ _ _ _ hj)⟩) ((HY.out.below B5.out (Nat.le_refl _)).mono' B5.out.size) _).mono ?_
  rintro e w6 ⟨v, rfl, ho, hb⟩
  have B6 : Hid (Below w.heap.size w w6) := Lib.hid (B5.out.trans (hb.mono B5.out.size))
  have B56 := Lib.hid hb
  have AB : Hid (ByF (12 + n) (catU (hdF k c n) 12 f)) := Lib.hid fun j hj => by
    unfold catU
    split
    · exact hdF_by k c n 12 j (by assumption)
    · exact HBY.out _ (by omega)
  have X6 : Hid (Boxed w6 w4.heap.size 51 (.slice none 0 0)) := Lib.hid ((hb.block _ (by omega)).trans X5.out)
  obtain ⟨g, dcap, cur, rfl, hgr⟩ : ∃ g dcap cur, v = .slice (some ⟨g, 0, none⟩) (12 + n) dcap ∧ (12 + n ≤ dcap ∧ dcap ≤ maxLen ∧ w5.heap.size ≤ g ∧ w6.heap[g]? = some (.cells cur 5 (0, 0)) ∧ ∀ j, j < 12 + n → cur[j]? = some (.int .u8 (catU (hdF k c n) 12 f j))) := by
    have ho' := ho
    rcases ho.2 with ⟨_, h0⟩ | ⟨g, dcap, cur, rfl, h1, h2, h3, h4, h5, h6⟩
    · omega
    · refine ⟨g, dcap, cur, rfl, h3, h4, h1, h2, fun j hj => ?_⟩
      refine (Lib.cell_of_heap h2 j).symm.trans ((ho.cellAt j (by omega)).trans ?_)
      rw [← rowU_get (catU (hdF k c n) 12 f) (12 + n) j hj, List.getElem?_eq_getElem (by rw [rowU_len]; exact hj)]
  have GR := Lib.hid hgr
  clear ho hb hgr
  have ZZ : Hid (w4.heap.size + 1 < w6.heap.size ∧ w.heap.size ≤ w4.heap.size ∧ g < w6.heap.size ∧ w4.heap.size + 1 < g) := Lib.hid ⟨by have := B56.out.size; omega, by have := B2.out.size; omega, (Array.getElem?_eq_some_iff.1 GR.out.2.2.2.1).1, by have := GR.out.2.2.1; omega⟩
  obtain ⟨A, hA⟩ : ∃ A, catU (hdF k c n) 12 f = A := ⟨_, rfl⟩
  rw [hA] at AB GR
  have AE := Lib.hid hA
  clear hA
  clear hw5 hw4 hw3 B45 B5 Z5 X5 C5 hz5 hz4 B4 Z4 K4 K3 BA HA ZA HL B1 B56 HP HC CC
  gi_wp2_with fail
  refine (CH.out _ _ _ _ _).mono ?_
  rintro e w7 ⟨rfl, rfl⟩
  gi_wp2
  have HCAP : Hid (12 + n ≤ dcap ∧ dcap ≤ 9223372036854775807) := Lib.hid ⟨GR.out.1, by have := GR.out.2.1; unfold maxLen at this; omega⟩
  have GG : Hid (∀ W : World, W.heap[g]? = some (.cells cur 5 (0, 0)) → ∀ j, j < 12 + n → W.cell? ⟨g, j, none⟩ = some (.int .u8 (A j))) := Lib.hid fun W hW j hj => (Lib.cell_of_heap hW j).trans (GR.out.2.2.2.2 j hj)
  have QN : Hid (pkN n ≤ 684 ∧ 12 + n ≤ 12 * pkN n ∧ 12 * pkN n < 12 + n + 12) := Lib.hid (by have := HN.out; unfold pkN; omega)
  have g6 := GR.out.2.2.2.1
  have G0 : Hid (Boxed ((w6.alloc (.cells #[.slice (some ⟨g, 0, none⟩) (12 + n) dcap] 95)).alloc (.cells #[.int .i64 12] 3)) w4.heap.size 51 (.slice none 0 0)) := Lib.hid ((X6.out.alloc _).alloc _)
  have G1 : Hid (((w6.alloc (.cells #[.slice (some ⟨g, 0, none⟩) (12 + n) dcap] 95)).alloc (.cells #[.int .i64 12] 3)).heap[w6.heap.size]? = some (.cells #[.slice (some ⟨g, 0, none⟩) (12 + n) dcap] 95 (0, 0))) := Lib.hid ((Below.heap_alloc _ _ _ (by simp)).trans (World.alloc_heap_new w6 _))
  have G2 : Hid (((w6.alloc (.cells #[.slice (some ⟨g, 0, none⟩) (12 + n) dcap] 95)).alloc (.cells #[.int .i64 12] 3)).heap[w6.heap.size + 1]? = some (.cells #[.int .i64 12] 3 (0, 0))) := Lib.hid (by
    have := World.alloc_heap_new (w6.alloc (.cells #[.slice (some ⟨g, 0, none⟩) (12 + n) dcap] 95)) (.cells #[.int .i64 12] 3)
    rw [World.size_alloc] at this
    exact this)
  have G3 : Hid (((w6.alloc (.cells #[.slice (some ⟨g, 0, none⟩) (12 + n) dcap] 95)).alloc (.cells #[.int .i64 12] 3)).heap[g]? = some (.cells cur 5 (0, 0))) := Lib.hid ((Below.heap_alloc _ _ _ (by have := ZZ.out; simp; omega)).trans ((Below.heap_alloc _ _ _ (by have := ZZ.out; omega)).trans g6))
  have GB : Hid (Below w.heap.size w ((w6.alloc (.cells #[.slice (some ⟨g, 0, none⟩) (12 + n) dcap] 95)).alloc (.cells #[.int .i64 12] 3))) := Lib.hid ((B6.out.alloc (by have := B6.out.size; omega) _).alloc (by have := B6.out.size; simp; omega) _)
  have GZ : Hid (((w6.alloc (.cells #[.slice (some ⟨g, 0, none⟩) (12 + n) dcap] 95)).alloc (.cells #[.int .i64 12] 3)).heap.size = w6.heap.size + 1 + 1) := Lib.hid (by simp)
  generalize ((w6.alloc (.cells #[.slice (some ⟨g, 0, none⟩) (12 + n) dcap] 95)).alloc (.cells #[.int .i64 12] 3)) = w7 at G0 G1 G2 G3 GB GZ ⊢
  clear X6 GR g6 CH B6 B2
  have ZL : Hid (w4.heap.size < w6.heap.size ∧ w.heap.size ≤ w4.heap.size ∧ g < w6.heap.size ∧ w.heap.size ≤ w6.heap.size ∧ w.heap.size ≤ w7.heap.size) := Lib.hid (by have := ZZ.out; have := GZ.out; omega)
  clear ZZ
  generalize w6.heap.size = s6 at G1 G2 GZ ZL ⊢
  generalize w4.heap.size = D at G0 ZL ⊢
  generalize w2.heap.size = s2
  clear w6 w5 w4 w3 w2 w1 wa
  refine wpIn_rangeFunc_ownG hro hN1 (gf := 176) (lb := #[.pointer (some ⟨s6, 0, none⟩), .pointer (some ⟨s6 + 1, 0, none⟩)]) rfl h2 (enters_of Try.func176 (by kernel_rfl) rfl)
    (chunkG_stops F HF.out (N - 1) (by omega) s6 (s6 + 1) 12 (pkN n) (12 + n) dcap (some ⟨g, 0, none⟩) g 0 (by omega) (by omega) (by have := HN.out; omega) HCAP.out.1 HCAP.out.2 (by have := QN.out; omega) (by have := QN.out; omega) (fun _ => rfl) w7 G1.out G2.out) KpD.trans (KpD.put (by have := GZ.out; omega) (by have := GZ.out; omega)) (Below.refl _ _) (fun _ => rfl)
    (fun pre W => (∃ v, Boxed W D 51 v ∧ W.ownsRow w.heap.size 104 16 v pre.length (pkL A (12 + n) pre) ∧ True) ∧ W.heap[s6]? = some (.cells #[.slice (some ⟨g, 0, none⟩) (12 + n) dcap] 95 (0, 0)) ∧ W.heap[s6 + 1]? = some (.cells #[.int .i64 12] 3 (0, 0)) ∧ W.heap[g]? = some (.cells cur 5 (0, 0)) ∧ Below w.heap.size w W)
    (fun _ _ _ => False)
    (OwnFrom.and (Own.from (holdsRow_own w.heap.size D 51 104 16 (fun pre => pre.length) (fun pre => pkL A (12 + n) pre) (fun pre v => True)) _) (OwnFrom.and (Own.from (heap_ownG _ _ _ _) _) (OwnFrom.and (Own.from (heap_ownG _ _ _ _) _) (OwnFrom.and (Own.from (heap_ownG _ _ _ _) _) (ownFrom_below (Nat.le_refl _) (ZL.out.2.2.2.2))))))
    (fun c => Own.from (own_pureF (fun _ => False)) _)
    ⟨⟨_, G0.out, World.ownsRow_nil _ _ _ _, trivial⟩, G1.out, G2.out, G3.out, GB.out⟩
    (fun cc => { tmps := #[.int .i64 (k : Int), .int .i64 (c : Int), .slice a n cap, undef, undef, undef, .slice none 0 0, .int .i64 0, .pointer (some ⟨w.heap.size, 0, none⟩), .int .i64 0, .pointer (some ⟨s2, 0, none⟩), .pointer (some ⟨D, 0, none⟩), .slice (some ⟨g, 12 * cc.1, none⟩) (pcL 12 (12 + n) (12 * cc.1)) (pcL 12 (12 + n) (12 * cc.1)), undef, undef, undef, .int .i64 (k : Int), .int .i64 (c : Int), .slice a n cap, .int .i64 (n : Int), .agg #[.int .i64 (k : Int), .int .i64 (c : Int), .int .i64 (n : Int)], .agg #[.int .i64 (k : Int), .int .i64 (c : Int), .int .i64 (n : Int)], .int .i64 0, .int .i64 0, .bool false, undef, .agg #[.int .i64 (k : Int), .int .i64 (c : Int), .int .i64 (n : Int)], .agg (Q12 (hdF k c n)), .slice (some ⟨s2, 0, none⟩) 12 12, .slice a n cap, .slice (some ⟨D + 1, 0, none⟩) 2 2, .slice (some ⟨g, 0, none⟩) (12 + n) dcap, .func (.func 176) #[] #[.pointer (some ⟨s6, 0, none⟩), .pointer (some ⟨s6 + 1, 0, none⟩)], .slice (some ⟨g, 12 * cc.1, none⟩) (pcL 12 (12 + n) (12 * cc.1)) (pcL 12 (12 + n) (12 * cc.1)), undef, undef, undef, undef, undef, undef, undef, undef, undef, undef, undef, undef, undef, undef, undef], defers := [] }) ?assign ?body ?done ?stop
  case assign =>
    intro ll x W K hK
    gi_wp2
    exact hK
  case stop =>
    rintro D c pre W _ _ h _
    exact h.elim
  case done =>
    rintro DD ys W hD hys ⟨⟨v, hv, hrow, -⟩, hP1, hP2, hGW, hB⟩ hK
    rw [hys, cmL_len (Nat.le_refl _), pkL_all A (12 + n) (pkN n) (pkN n) (Nat.le_refl _)] at hrow
    have hcv := hv.cell
    have HR := Lib.hid hrow
    have HB := Lib.hid hB
    have HK := Lib.hid hK
    have HD := Lib.hid hD
    clear hrow hB hK hys hP1 hP2 hD hGW
    gi_wp2
    refine ⟨by simp, .inl ⟨_, _, rfl, run_takeDeferred HK.out, ?_⟩⟩
    refine ⟨.tuple #[v, .int .i64 0], ?rs, v, rfl, ?_, ?_⟩
    case rs => simp [results, Try.results123, go_sem]
    · rw [AE.out]
      refine HR.out.kept (putObj_grown W DD _) ?_
      rcases HR.out.2 with ⟨rfl, _⟩ | ⟨g', cap', cur', rfl, _, hg', _⟩
      · exact .inl rfl
      · refine .inr fun e => ?_
        obtain rfl : g' = DD := by simpa [Value.ownBlock] using e
        have := HK.out
        rw [hg'] at this; cases this
    · exact HB.out.trans (belowK_b (w := w) (Nat.le_refl _) _ DD _ _ (by have := HD.out; have := ZL.out; omega) HK.out rfl rfl)
  case body =>
    rintro ll pre ⟨cc, hcc⟩ W0 ⟨⟨v, hv, hrow, -⟩, hP1, hP2, hGW, hB⟩ hlen
    obtain ⟨i, hi⟩ : ∃ i, 12 * cc = i := ⟨_, rfl⟩
    obtain ⟨L, hL⟩ : ∃ L, pcL 12 (12 + n) i = L := ⟨_, rfl⟩
    have hLs : L ≤ 12 ∧ i + L ≤ 12 + n ∧ (L < 12 → 12 + n = i + L) ∧ 1 ≤ L := by have := QN.out; rw [← hL]; unfold pcL; omega
    have LS := Lib.hid hLs
    obtain ⟨kn, hkn⟩ : ∃ kn, pre.length = kn := ⟨_, rfl⟩
    have KN : Hid (kn < 684) := Lib.hid (by have := QN.out; omega)
    obtain ⟨p, hp⟩ : ∃ p, padP A (12 + n) cc = p := ⟨_, rfl⟩
    have PB : Hid (ByF 12 p) := Lib.hid (by rw [← hp]; exact padP_by AB.out _ _)
    have PR0 : Hid ((List.take 0 (#[Value.int .u8 0, Value.int .u8 0, Value.int .u8 0, Value.int .u8 0, Value.int .u8 0, Value.int .u8 0, Value.int .u8 0, Value.int .u8 0, Value.int .u8 0, Value.int .u8 0, Value.int .u8 0, Value.int .u8 0] : Array Value).toList ++ (rowU (fun j => A (i + j)) L ++ List.drop (0 + L) (#[Value.int .u8 0, Value.int .u8 0, Value.int .u8 0, Value.int .u8 0, Value.int .u8 0, Value.int .u8 0, Value.int .u8 0, Value.int .u8 0, Value.int .u8 0, Value.int .u8 0, Value.int .u8 0, Value.int .u8 0] : Array Value).toList)).toArray = Q12 p) := Lib.hid (by
      have := pad_row A (12 + n) cc L hLs.1 (by omega) (fun h => by have := hLs.2.2.1 h; omega)
      rw [hi, hp] at this
      exact this)
    have NX : Hid (pkL A (12 + n) (pre ++ [(⟨cc, hcc⟩ : Cm (pkN n))]) = pkL A (12 + n) pre ++ (Q16 (mkfF kn p)).toList) := Lib.hid (by rw [pkL_snoc, Q16_row, hkn, hp])
    have NL : Hid ((pre ++ [(⟨cc, hcc⟩ : Cm (pkN n))]).length = kn + 1) := Lib.hid (by simp [hkn])
    have MM : Hid (mkX (kn : Int) p = mkfF kn p) := Lib.hid (by
      unfold mkX
      have := KN.out
      have : inX (kn : Int) = true := by unfold inX; simp; omega
      rw [if_pos this]
      rfl)
    rw [hkn] at hrow
    obtain ⟨xs, hxs⟩ : ∃ xs, pkL A (12 + n) pre = xs := ⟨_, rfl⟩
    rw [hxs] at NX hrow
    have BX := Lib.hid hv
    have RW := Lib.hid hrow
    have Q1 := Lib.hid hP1
    have Q2 := Lib.hid hP2
    have Q3 := Lib.hid hGW
    have QB := Lib.hid hB
    obtain ⟨va, vc, hvv⟩ : ∃ va vc, v = .slice va kn vc := by
      rcases hrow.2 with ⟨rfl, h0⟩ | ⟨g', cap', cur', rfl, _⟩
      · exact ⟨none, 0, by rw [h0]⟩
      · exact ⟨_, _, rfl⟩
    subst hvv
    simp only [hi, hL]
    have DL : Hid (D < W0.heap.size) := Lib.hid (lt_heap hv)
    obtain ⟨b, hb⟩ : ∃ b, W0.heap.size = b := ⟨_, rfl⟩
    obtain ⟨W1, hW1⟩ : ∃ W1, W0.alloc (.cells #[Value.int .u8 0, Value.int .u8 0, Value.int .u8 0, Value.int .u8 0, Value.int .u8 0, Value.int .u8 0, Value.int .u8 0, Value.int .u8 0, Value.int .u8 0, Value.int .u8 0, Value.int .u8 0, Value.int .u8 0] 145) = W1 := ⟨_, rfl⟩
    have T1 : Hid (W1.heap[b]? = some (.cells #[Value.int .u8 0, Value.int .u8 0, Value.int .u8 0, Value.int .u8 0, Value.int .u8 0, Value.int .u8 0, Value.int .u8 0, Value.int .u8 0, Value.int .u8 0, Value.int .u8 0, Value.int .u8 0, Value.int .u8 0] 145 (0, 0))) := Lib.hid (by rw [← hW1, ← hb]; exact World.alloc_heap_new W0 _)
    have U1 : Hid (Below W0.heap.size W0 W1) := Lib.hid (by rw [← hW1]; exact (Below.refl _ _).alloc (Nat.le_refl _) _)
    obtain ⟨W2, hW2⟩ : ∃ W2, W1.setRow b (Q12 p) = W2 := ⟨_, rfl⟩
    have T2 : Hid (W2.heap[b]? = some (.cells (Q12 p) 145 (0, 0))) := Lib.hid (by rw [← hW2]; exact setRow_heap _ _ _ _ _ _ T1.out)
    have U2 : Hid (Below W0.heap.size W0 W2) := Lib.hid (by rw [← hW2]; exact below_setRow U1.out (by omega) _)
    have CL : Hid (∀ j u, (rowU (fun j => A (i + j)) L)[j]? = some u → W1.cell? ((⟨g, i, none⟩ : Addr).add j) = some u) := Lib.hid (fun j u e => by
      have hj : j < L := by
        rcases Nat.lt_or_ge j L with h | h
        · exact h
        · rw [List.getElem?_eq_none (by rw [rowU_len]; exact h)] at e; cases e
      rw [rowU_get _ _ _ hj] at e
      rw [Go.WideShapes.add_plain, ← e]
      exact (U1.out.cell (p := ⟨g, i + j, none⟩) (lt_heap Q3.out)).trans (GG.out W0 Q3.out (i + j) (by have := LS.out; omega)))
    have hd : 1 ≤ N - 1 - 1 := by omega
    have F7 : (F.inRound ll).fn 147 := h7
    have DG : Hid (g ≠ D) := Lib.hid (fun e => by have h1 := Q3.out; rw [e, show W0.heap[D]? = _ from BX.out] at h1; cases h1)
    have ZF : Hid ((#[Value.int .u8 0, Value.int .u8 0, Value.int .u8 0, Value.int .u8 0, Value.int .u8 0, Value.int .u8 0, Value.int .u8 0, Value.int .u8 0, Value.int .u8 0, Value.int .u8 0, Value.int .u8 0, Value.int .u8 0, Value.int .u8 0, Value.int .u8 0, Value.int .u8 0, Value.int .u8 0] : Array Value) = Q16 zI) := Lib.hid rfl
    have CL2 := Lib.hid (rowU_one (fun j => A (i + j)) L)
    have CN : Hid ((rowU (fun j => A (i + j)) L).length = Nat.min L 12) := Lib.hid (by rw [rowU_len]; show L = min L 12; omega)
    have CF : Hid (0 + (rowU (fun j => A (i + j)) L).length ≤ (#[Value.int .u8 0, Value.int .u8 0, Value.int .u8 0, Value.int .u8 0, Value.int .u8 0, Value.int .u8 0, Value.int .u8 0, Value.int .u8 0, Value.int .u8 0, Value.int .u8 0, Value.int .u8 0, Value.int .u8 0] : Array Value).size) := Lib.hid (by rw [rowU_len]; show 0 + L ≤ 12; omega)
    have CI : Hid ((rowU (fun j => A (i + j)) L).length = L) := Lib.hid (rowU_len _ _)
    obtain ⟨R, hR⟩ : ∃ R, rowU (fun j => A (i + j)) L = R := ⟨_, rfl⟩
    rw [hR] at PR0 CL CL2 CN CF CI
    have PR1 : Hid ((List.take 0 (#[Value.int .u8 0, Value.int .u8 0, Value.int .u8 0, Value.int .u8 0, Value.int .u8 0, Value.int .u8 0, Value.int .u8 0, Value.int .u8 0, Value.int .u8 0, Value.int .u8 0, Value.int .u8 0, Value.int .u8 0] : Array Value).toList ++ (R ++ List.drop (0 + R.length) (#[Value.int .u8 0, Value.int .u8 0, Value.int .u8 0, Value.int .u8 0, Value.int .u8 0, Value.int .u8 0, Value.int .u8 0, Value.int .u8 0, Value.int .u8 0, Value.int .u8 0, Value.int .u8 0, Value.int .u8 0] : Array Value).toList)).toArray = Q12 p) := Lib.hid (by rw [CI.out]; exact PR0.out)
    have cb2 : W2.cell? ⟨D, 0, none⟩ = some (.slice va kn vc) := (U2.out.cell (p := ⟨D, 0, none⟩) DL.out).trans BX.out.cell
    clear hi hL hLs hkn hp hxs hv hrow hP1 hP2 hGW hB hlen hR
    gi_wp2_with (first | (refine wpListIn_copy_rowF rfl (.tmp 34) (.tmp 35) 95 95 rfl 5 Try.underlying95 (by kernel_rfl) b 0 12 12 ⟨g, i, none⟩ L L rfl rfl #[Value.int .u8 0, Value.int .u8 0, Value.int .u8 0, Value.int .u8 0, Value.int .u8 0, Value.int .u8 0, Value.int .u8 0, Value.int .u8 0, Value.int .u8 0, Value.int .u8 0, Value.int .u8 0, Value.int .u8 0] 145 T1.out R CN.out CL.out CF.out CL2.out ?_; rw [PR1.out, hW2]) | (refine wpListIn_load_rowF rfl 145 _ rfl b rfl 145 (Q12 p) (0, 0) _ T2.out Try.underlying145 rfl (p12_info _ (arr_size _ _ _)) ?_))
    refine (CallsIn.inRound ll (MK.out (kn : Int) p PB.out W2 _)).mono ?_
    rintro e W3 ⟨rfl, hb3⟩
    rw [MM.out]
    have U3 : Hid (Below W0.heap.size W0 W3) := Lib.hid (U2.out.trans (hb3.mono U2.out.size))
    have A16 : Hid ((Q16 (mkfF kn p)).size = 16) := Lib.hid (arr_size _ _ _)
    have AO : Hid ((Q16 (mkfF kn p)).all (·.oneCell') = true) := Lib.hid (arr_cells _ _ _)
    clear cb2 hb3 hW1 hW2 T1 T2 U1 U2 MM PR0 PR1 CL CL2 CN CF CI hb
    obtain ⟨AA, hAA⟩ : ∃ AA, Q16 (mkfF kn p) = AA := ⟨_, rfl⟩
    rw [hAA] at A16 AO NX ⊢
    obtain ⟨W4, hW4⟩ : ∃ W4, W3.alloc (.cells #[Value.int .u8 0, Value.int .u8 0, Value.int .u8 0, Value.int .u8 0, Value.int .u8 0, Value.int .u8 0, Value.int .u8 0, Value.int .u8 0, Value.int .u8 0, Value.int .u8 0, Value.int .u8 0, Value.int .u8 0, Value.int .u8 0, Value.int .u8 0, Value.int .u8 0, Value.int .u8 0] 104) = W4 := ⟨_, rfl⟩
    have T4 : Hid (W4.heap[W3.heap.size]? = some (.cells #[Value.int .u8 0, Value.int .u8 0, Value.int .u8 0, Value.int .u8 0, Value.int .u8 0, Value.int .u8 0, Value.int .u8 0, Value.int .u8 0, Value.int .u8 0, Value.int .u8 0, Value.int .u8 0, Value.int .u8 0, Value.int .u8 0, Value.int .u8 0, Value.int .u8 0, Value.int .u8 0] 104 (0, 0))) := Lib.hid (by rw [← hW4]; exact World.alloc_heap_new W3 _)
    have U4 : Hid (Below W0.heap.size W0 W4) := Lib.hid (by rw [← hW4]; exact U3.out.alloc U3.out.size _)
    obtain ⟨W5, hW5⟩ : ∃ W5, W4.setRow W3.heap.size AA = W5 := ⟨_, rfl⟩
    have T5 : Hid (W5.heap[W3.heap.size]? = some (.cells AA 104 (0, 0))) := Lib.hid (by rw [← hW5]; exact setRow_heap _ _ _ _ _ _ T4.out)
    have U5 : Hid (Below W0.heap.size W0 W5) := Lib.hid (by rw [← hW5]; exact below_setRow U4.out U3.out.size _)
    have cb5 : W5.cell? ⟨D, 0, none⟩ = some (.slice va kn vc) := (U5.out.cell (p := ⟨D, 0, none⟩) DL.out).trans BX.out.cell
    have sA := A16.out
    have ZO : Hid ((#[Value.int .u8 0, Value.int .u8 0, Value.int .u8 0, Value.int .u8 0, Value.int .u8 0, Value.int .u8 0, Value.int .u8 0, Value.int .u8 0, Value.int .u8 0, Value.int .u8 0, Value.int .u8 0, Value.int .u8 0, Value.int .u8 0, Value.int .u8 0, Value.int .u8 0, Value.int .u8 0] : Array Value).all (·.oneCell') = true) := Lib.hid (by rw [ZF.out]; exact arr_cells _ _ _)
    have U6 : Hid (Below W0.heap.size W0 (W5.alloc (.cells AA 104))) := Lib.hid (U5.out.alloc U5.out.size _)
    have HRW : Hid ((W5.alloc (.cells AA 104)).ownsRow w.heap.size 104 16 (.slice va kn vc) kn xs) := Lib.hid (ownsRow_below RW.out U6.out)
    have HBX : Hid (Boxed (W5.alloc (.cells AA 104)) D 51 (.slice va kn vc)) := Lib.hid ((U6.out.block _ DL.out).trans BX.out)
    have TC : Hid (∀ (j : Nat) (u : Value), AA[j]? = some u → (W5.alloc (.cells AA 104)).cell? ⟨W5.heap.size, j, none⟩ = some u) := Lib.hid (fun j u e => (World.cell?_alloc_new W5 AA 104 j).trans e)
    have HL : Hid (w.heap.size ≤ (W5.alloc (.cells AA 104)).heap.size) := Lib.hid (Nat.le_trans QB.out.size U6.out.size)
    clear hAA
    gi_wp2_with (first | (refine wpListIn_store_rowF rfl 104 _ _ rfl W3.heap.size AA rfl rfl 104 _ T4.out (fr_info _ A16.out) (by rw [A16.out]; rfl) AO.out ?_; rw [hW5]) | (refine wpListIn_load_rowF rfl 104 _ rfl W3.heap.size rfl 104 AA (0, 0) _ T5.out Try.underlying104 rfl (fr_info _ A16.out) ?_) | (gi_at_builtin; rw [fold16 AA A16.out]; refine wpListIn_append_own _ rfl (.tmp 44) (.tmp 46) 51 rfl w.heap.size 104 i0 _ 16 16 Try.underlying51 hi hz0 hz1 hz2 rfl (by decide) (.slice va kn vc) kn xs rfl HRW.out ⟨W5.heap.size, 0, none⟩ 1 1 AA.toList rfl (by simp [A16.out]) (fun j u e => by rw [Go.WideShapes.add_plain, Nat.zero_add]; exact TC.out j u (by simpa using e)) (fun u hu => (Array.all_eq_true_iff_forall_mem.1 AO.out) u (by simpa using hu)) (by unfold maxLen; have := KN.out; omega) (by have := KN.out; omega) HL.out ?_; intro v5 W7 hown hgrow _; obtain ⟨g5, cap5, rfl⟩ := ownsRow_succ hown; have HO7 := Lib.hid hown; have HG7 := Lib.hid hgrow; clear hown hgrow; have HB7 := Lib.hid (HBX.out.kept HG7.out (HBX.out.not_row (by decide) HRW.out)); have cb7 := HB7.out.cell; have cf7 := HB7.out.frozen))
    have W6a : Hid (∀ (k : Nat) (o : Obj), W0.heap[k]? = some o → (W5.alloc (.cells AA 104)).heap[k]? = some o) := Lib.hid (fun k o hk => (U6.out.block k (lt_heap hk)).trans hk)
    have KO : Hid (KeepsOthers W0 (W5.alloc (.cells AA 104))) := Lib.hid ⟨U6.out.size, fun k o hk _ => W6a.out k o hk⟩
    have KF : Hid (KeepsOthers W0 (W7.setCell ⟨D, 0, none⟩ (.slice (some ⟨g5, 0, none⟩) (kn + 1) cap5))) := Lib.hid ((KO.out.trans (KeepsOthers.of_grownBy HG7.out (own_cells HRW.out))).trans (KeepsOthers.setCell _ _ _))
    have P1 := (fset_far (g := D) (k := s6) (x := 0) (by have := ZL.out; omega) (.slice (some ⟨g5, 0, none⟩) (kn + 1) cap5)).trans (keep_row HRW.out (W6a.out _ _ Q1.out) (by decide) HG7.out)
    have P2 := (fset_far (g := D) (k := s6 + 1) (x := 0) (by have := ZL.out; omega) (.slice (some ⟨g5, 0, none⟩) (kn + 1) cap5)).trans (keep_row HRW.out (W6a.out _ _ Q2.out) (by decide) HG7.out)
    have P3 := (fset_far (g := D) (k := g) (x := 0) (DG.out) (.slice (some ⟨g5, 0, none⟩) (kn + 1) cap5)).trans (keep_row HRW.out (W6a.out _ _ Q3.out) (by decide) HG7.out)
    refine ⟨KF.out.from _, ⟨KF.out.size, P1.trans Q1.out.symm, P2.trans Q2.out.symm⟩, ⟨_, fset_at HB7.out 0 _, ?_, trivial⟩, P1, P2, P3, ?_⟩
    · rw [NL.out, NX.out]
      exact HO7.out.kept (grownBy_setCellF _ D _) (.inr (HB7.out.not_row (by decide) HO7.out).symm)
    · exact (((QB.out.trans (U6.out.mono QB.out.size)).grown HG7.out HL.out (fun k hk => (HRW.out.lt k hk).1))).setCell (p := ⟨D, 0, none⟩) (ZL.out.2.1) _
end Go.Proofs.Ythfmkejdpflpcaa
