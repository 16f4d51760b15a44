/-
  CONTRACTS: WordFile by the specification.
-/
import Derived.Test.YtkijgadkgfapgaaZe
namespace Go.Proofs.Ytkijgadkgfapgaa
open Go.ChangeShapes Go.WideShapes Go.ChangeAt Go.RowKit
open Wd
def wfV (f : Nat → List UInt8) (n : Nat) : Bool := (List.range n).all fun i => wordB (f i)
def wfC (f : Nat → List UInt8) (n : Nat) : Int := if wfV f n = true then (if 256 < n then 3 else 0) else 1
def wfD (f : Nat → List UInt8) : Nat → Int := fun j => codeF (f (j / 16)) (j % 16)
def wfN (f : Nat → List UInt8) (n : Nat) : Nat := if wfC f n = 0 then pkM 3 n (16 * n) else 0
def wfW (f : Nat → List UInt8) (n : Nat) : Nat → Int := pkW 3 n (16 * n) (wfD f)
theorem wfV_bad {f : Nat → List UInt8} {n k : Nat} (hk : k < n) (h : wordB (f k) = false) : wfV f n = false := by
  unfold wfV
  rw [List.all_eq_false]
  exact ⟨k, by simpa using hk, by simp [h]⟩
theorem wfV_all {f : Nat → List UInt8} {n : Nat} (h : ∀ k, k < n → wordB (f k) = true) : wfV f n = true := by
  unfold wfV
  rw [List.all_eq_true]
  intro k hk
  exact h k (by simpa using hk)
theorem hdC_words {n : Nat} (h : n ≤ 256) : hdC 3 (n : Int) (16 * n) = 0 := by
  unfold hdC
  rw [if_pos (by unfold hdOk; simp; omega), if_neg (by omega)]
theorem wfN_le (f : Nat → List UInt8) (n : Nat) : wfN f n ≤ 1048576 := by
  unfold wfN
  split
  · rename_i h
    have hn : n ≤ 256 := by
      unfold wfC at h
      split at h
      · split at h
        · cases h
        · omega
      · cases h
    exact pkM_le _ _ _ (by omega)
  · omega
def WfPost (f : Nat → List UInt8) (n : Nat) (w : World) : Ending → World → Prop := fun e w' => ∃ v, e = .returned (.tuple #[v, .int .i64 (wfC f n)]) ∧ PR 16 w.heap.size w'.heap.size w' v (wfN f n) (FF (wfW f n)) ∧ Below w.heap.size w w'
theorem WfPost.bad {f : Nat → List UInt8} {n : Nat} {w w' : World} {a : Option Addr} {c : Nat} {C : Int} (h : wfC f n = C) (h0 : C ≠ 0) (hb : Below w.heap.size w w') : WfPost f n w (.returned (.tuple #[.slice a 0 c, .int .i64 C])) w' := by
  refine ⟨.slice a 0 c, by rw [h], ?_, hb⟩
  unfold wfN
  rw [h, if_neg h0]
  exact ⟨a, c, rfl, .inl rfl⟩
theorem codeF_ok (l : List UInt8) (i : Nat) : 0 ≤ codeF l i ∧ codeF l i ≤ 255 := by
  unfold codeF
  split
  · rename_i h
    exact cdF_ok (by unfold wordB at h; simp only [Bool.and_eq_true, decide_eq_true_eq] at h; omega) _ _
  · exact ⟨Int.le_refl (0 : Int), (by decide : (0 : Int) ≤ 255)⟩
theorem CwPost.ok {l : List UInt8} {w : World} {e : Ending} {w' : World} (hok : wordB l = true) (h : CwPost l w e w') : e = .returned (.tuple #[.agg (arr .u8 16 (codeF l)), .int .i64 0]) ∧ Below w.heap.size w w' := by
  unfold CwPost at h
  rw [if_pos hok] at h
  exact h
theorem CwPost.no {l : List UInt8} {w : World} {e : Ending} {w' : World} (hok : wordB l = false) (h : CwPost l w e w') : e = .returned (.tuple #[.agg (arr .u8 16 (codeF l)), .int .i64 1]) ∧ Below w.heap.size w w' := by
  unfold CwPost at h
  rw [if_neg (by rw [hok]; decide)] at h
  exact h
theorem wpList_append_ug {ops : Array Oper} {rest : List Oper} {o : Oper} {a : Act} {W : World} {Q : Exit → Act → World → Prop} (hgd : o.guard = none) (s x : Operand)
    (ho : o.op = .call { callee := .builtin .append, args := #[s, x], argTypes := #[45, 45] })
    (base : Nat) (v : Value) (n : Nat) (q : Nat → Int) (hs : a.eval s = v) (hown : OwnU base v n q W) (g off m c : Nat) (p : Nat → Int) (hx : a.eval x = .slice (some ⟨g, off, none⟩) m c)
    (hc : ∀ j, j < m → W.cell? ⟨g, off + j, none⟩ = some (.int .u8 (p j))) (hl : n + m ≤ 100000000) (hbase : base ≤ W.heap.size)
    (w0 : World) (hb : Below base w0 W)
    (h : ∀ v' w', OwnU base v' (n + m) (catU q n p) w' → Below base w0 w' → W.grownBy w' v.ownBlock → wpList Try.prog ops Q rest (a.put o.dst v') w') : wpList Try.prog ops Q (o :: rest) a W := by
  obtain ⟨i0, hi, hz0, hz1, hz2⟩ := info_parts info_u8'
  refine wpList_append_own W hgd s x 45 ho base 5 i0 (.int .u8 0) 1 1 Try.underlying45 hi hz0 hz1 hz2 rfl (by decide) v n (rowU q n) hs hown ⟨g, off, none⟩ m c (rowU p m) hx (by rw [rowU_len, Nat.mul_one]) ?_ (rowU_one p m) (by unfold maxLen; omega) (by omega) hbase ?_
  · intro j u hj
    have hlt : j < m := by
      rcases Nat.lt_or_ge j m with h | h
      · exact h
      · rw [List.getElem?_eq_none (by rw [rowU_len]; exact h)] at hj; cases hj
    rw [rowU_get _ _ _ hlt] at hj
    rw [Go.WideShapes.add_plain, hc j hlt]; exact hj
  · intro v' w' h1 h2 _
    refine h v' w' ?_ ?_ h2
    · unfold OwnU
      rw [← rowU_cat]
      exact h1
    · exact hb.grown h2 hbase (fun k hk => (World.ownsRow.lt hown k hk).1)
set_option maxRecDepth 20000 in
set_option maxHeartbeats 8000000 in
theorem sWordF_any (n : Nat) (hn : n ≤ 1048576) (f : Nat → List UInt8) (hf : ∀ i, i < n → (f i).length ≤ 1048576) (a : Option Addr) (cap : Nat) (w : World) (h : StR w.heap.size w a n f) :
    Calls Try.prog 40 #[.slice a n cap] w (WfPost f n w) := by
  have nI : (n : Int) ≤ 1048576 := by omega
  have HROW := Lib.hid h
  have SC : Hid (∀ k, k < n → ∀ W, Calls Try.prog 76 #[.string (txt (f k))] W (CwPost (f k) W)) := Lib.hid fun k hk W => scode_any (f k) (by have := hf k hk; omega) W
  have G1 : Hid ((∀ k, k < n → wordB (f k) = true) → n ≤ 256 → wfC f n = 0) := Lib.hid fun hv h2 => by unfold wfC; rw [wfV_all hv, if_pos rfl, if_neg (by omega)]
  have G3 : Hid ((∀ k, k < n → wordB (f k) = true) → 256 < n → wfC f n = 3) := Lib.hid fun hv h2 => by unfold wfC; rw [wfV_all hv, if_pos rfl, if_pos h2]
  have GB : Hid (∀ k, k < n → wordB (f k) = false → wfC f n = 1) := Lib.hid fun k hk hb => by unfold wfC; rw [wfV_bad hk hb]; exact if_neg (by decide)
  have DE : Hid (∀ k j, j < 16 → wfD f (16 * k + j) = codeF (f k) j) := Lib.hid fun k j hj => by
    unfold wfD
    rw [show (16 * k + j) / 16 = k by omega, show (16 * k + j) % 16 = j by omega]
  have DB : Hid (∀ j, 0 ≤ wfD f j ∧ wfD f j ≤ 255) := Lib.hid fun j => codeF_ok _ _
  have PK : Hid (n ≤ 256 → ∀ aD cD W, YrR W.heap.size W aD (16 * n) (wfD f) → Calls Try.prog 77 #[.int .i64 3, .int .i64 (n : Int), .slice aD (16 * n) cD] W fun e w' => ∃ v, e = .returned v ∧ OwnFr W.heap.size v (pkN (16 * n)) (wfW f n) w' ∧ Below W.heap.size W w') := Lib.hid fun h2 aD cD W hY => lpack_any 3 n (16 * n) (by omega) (by omega) h2 (by omega) (wfD f) (fun j _ => DB.out j) aD cD W hY
  have GO : Hid (∀ v w', wfC f n = 0 → n ≤ 256 → PR 16 w.heap.size w'.heap.size w' v (pkN (16 * n)) (FF (wfW f n)) → Below w.heap.size w w' → WfPost f n w (.returned (.tuple #[v, .int .i64 0])) w') := Lib.hid fun v w' hc h2 hp hb => ⟨v, by rw [hc], by unfold wfN pkM; rw [if_pos hc, hdC_words h2, if_pos rfl]; exact hp, hb⟩
  have ZZ : Hid (#[Value.int .u8 0, Value.int .u8 0, Value.int .u8 0, Value.int .u8 0, Value.int .u8 0, Value.int .u8 0, Value.int .u8 0, Value.int .u8 0, Value.int .u8 0, Value.int .u8 0, Value.int .u8 0, Value.int .u8 0, Value.int .u8 0, Value.int .u8 0, Value.int .u8 0, Value.int .u8 0] = Q16 zI) := Lib.hid rfl
  generalize wfW f n = FW at PK GO
  have B0 : Hid (Below w.heap.size w (w.alloc (.cells #[] 5))) := Lib.hid ((Below.refl _ w).alloc (Nat.le_refl _) _)
  have O0 : Hid (OwnU w.heap.size (.slice (some ⟨w.heap.size, 0, none⟩) 0 0) (16 * min 0 256) (wfD f) (w.alloc (.cells #[] 5))) := Lib.hid (World.ownsRow_made (size := 1) w #[] 0 (Nat.le_refl _) (by unfold maxLen; omega) rfl)
  clear h hf hn
  go_enter Try.func40, Try.ntmps40
  go_wp2_with fail
  generalize w.alloc (.cells #[] 5) = w1 at O0 B0 ⊢
  go_loopw [4, 5] (fun d vi wr => ∃ k : Nat, k ≤ n ∧ vi = .int .i64 (k : Int) ∧ Hid (OwnU w.heap.size d (16 * min k 256) (wfD f) wr) ∧ Hid (Below w.heap.size w wr) ∧ Hid (∀ i, i < k → wordB (f i) = true)) (fun _ vi _ => n - (intOf vi).toNat)
  case atStart => exact ⟨0, by omega, rfl, O0, B0, Lib.hid fun i h => absurd h (by omega)⟩
  case round =>
    rename World => wq
    obtain ⟨k, hk, rfl, ho, hb, hs⟩ := hrel
    have WZ : Hid (w.heap.size ≤ wq.heap.size) := Lib.hid hb.out.size
    by_cases hlt : k < n
    · have tk : (k : Int) < (n : Int) := by omega
      obtain ⟨g, off, rfl, hg, hc⟩ : ∃ g off, a = some ⟨g, off, none⟩ ∧ g < w.heap.size ∧ ∀ j, j < n → w.cell? ⟨g, off + j, none⟩ = some (.string (txt (f j))) := by
        rcases HROW.out with h | h
        · omega
        · exact h
      have cx : wq.cell? ⟨g, off + k, none⟩ = some (.string (txt (f k))) := (Below.cell (p := ⟨g, off + k, none⟩) hb.out hg).trans (hc k hlt)
      have HK := Lib.hid hlt
      have CW := Lib.hid (SC.out k hlt wq)
      have GBk := Lib.hid (GB.out k hlt)
      have DEk := Lib.hid (DE.out k)
      clear hc hg hk hlt
      cases hok : wordB (f k) with
      | false =>
        have Q := Lib.hid (GBk.out hok)
        have CW2 : Hid (Calls Try.prog 76 #[.string (txt (f k))] wq fun e w' => e = .returned (.tuple #[.agg (Q16 (codeF (f k))), .int .i64 1]) ∧ Below wq.heap.size wq w') := Lib.hid (CW.out.mono fun e w' h => CwPost.no hok h)
        have A16 : Hid ((Q16 (codeF (f k))).size = 16) := Lib.hid (arr_size _ _ _)
        have AO : Hid ((Q16 (codeF (f k))).all (·.oneCell') = true) := Lib.hid (arr_cells _ _ _)
        have ASZ : Hid ((Q16 (codeF (f k))).size = (#[Value.int .u8 0, Value.int .u8 0, Value.int .u8 0, Value.int .u8 0, Value.int .u8 0, Value.int .u8 0, Value.int .u8 0, Value.int .u8 0, Value.int .u8 0, Value.int .u8 0, Value.int .u8 0, Value.int .u8 0, Value.int .u8 0, Value.int .u8 0, Value.int .u8 0, Value.int .u8 0] : Array Value).size) := Lib.hid (A16.out.trans rfl)
        generalize Q16 (codeF (f k)) = A at CW2 A16 AO ASZ
        generalize txt (f k) = tx at CW2 cx
        clear CW hok
        go_wp2_with fail
        refine CW2.out.mono ?_
        rintro e w2 ⟨rfl, b⟩
        have B2 := Lib.hid (hb.out.trans (b.mono hb.out.size))
        clear b CW2
        obtain ⟨w3, hw3⟩ : ∃ x, w2.alloc (.cells #[Value.int .u8 0, Value.int .u8 0, Value.int .u8 0, Value.int .u8 0, Value.int .u8 0, Value.int .u8 0, Value.int .u8 0, Value.int .u8 0, Value.int .u8 0, Value.int .u8 0, Value.int .u8 0, Value.int .u8 0, Value.int .u8 0, Value.int .u8 0, Value.int .u8 0, Value.int .u8 0] 117) = x := ⟨_, rfl⟩
        have T3 : Hid (w3.heap[w2.heap.size]? = some (.cells #[Value.int .u8 0, Value.int .u8 0, Value.int .u8 0, Value.int .u8 0, Value.int .u8 0, Value.int .u8 0, Value.int .u8 0, Value.int .u8 0, Value.int .u8 0, Value.int .u8 0, Value.int .u8 0, Value.int .u8 0, Value.int .u8 0, Value.int .u8 0, Value.int .u8 0, Value.int .u8 0] 117 (0, 0))) := Lib.hid (by rw [← hw3]; exact World.alloc_heap_new w2 _)
        have B3 : Hid (Below w.heap.size w w3) := Lib.hid (by rw [← hw3]; exact B2.out.alloc B2.out.size _)
        obtain ⟨w4, hw4⟩ : ∃ x, w3.setRow w2.heap.size A = x := ⟨_, rfl⟩
        have B4 : Hid (Below w.heap.size w w4) := Lib.hid (by rw [← hw4]; exact below_setRow B3.out B2.out.size _)
        go_wp2_with (refine wpList_store_row rfl 117 _ _ rfl w2.heap.size A rfl rfl 117 _ T3.out (wc_info _ A16.out) ASZ.out.symm AO.out ?_; rw [hw4])
        exact bodyPost_ret (v := .tuple #[.slice (some ⟨w4.heap.size, 0, none⟩) 0 0, .int .i64 1]) (by simp [results, Try.results40, go_sem]) rfl (WfPost.bad Q.out (by decide) (B4.out.alloc B4.out.size _))
      | true =>
        have HOK := Lib.hid hok
        have CW2 : Hid (Calls Try.prog 76 #[.string (txt (f k))] wq fun e w' => e = .returned (.tuple #[.agg (Q16 (codeF (f k))), .int .i64 0]) ∧ Below wq.heap.size wq w') := Lib.hid (CW.out.mono fun e w' h => CwPost.ok hok h)
        have A16 : Hid ((Q16 (codeF (f k))).size = 16) := Lib.hid (arr_size _ _ _)
        have AO : Hid ((Q16 (codeF (f k))).all (·.oneCell') = true) := Lib.hid (arr_cells _ _ _)
        have ASZ : Hid ((Q16 (codeF (f k))).size = (#[Value.int .u8 0, Value.int .u8 0, Value.int .u8 0, Value.int .u8 0, Value.int .u8 0, Value.int .u8 0, Value.int .u8 0, Value.int .u8 0, Value.int .u8 0, Value.int .u8 0, Value.int .u8 0, Value.int .u8 0, Value.int .u8 0, Value.int .u8 0, Value.int .u8 0, Value.int .u8 0] : Array Value).size) := Lib.hid (A16.out.trans rfl)
        have AG : Hid (∀ j, j < 16 → (Q16 (codeF (f k)))[j]? = some (.int .u8 (wfD f (16 * k + j)))) := Lib.hid fun j hj => by rw [DEk.out j hj]; exact arr_get _ _ _ _ hj
        generalize Q16 (codeF (f k)) = A at CW2 A16 AO ASZ AG
        generalize txt (f k) = tx at CW2 cx
        clear CW hok
        go_wp2_with fail
        refine CW2.out.mono ?_
        rintro e w2 ⟨rfl, b⟩
        have B2 := Lib.hid (hb.out.trans (b.mono hb.out.size))
        have O2 : Hid (OwnU w.heap.size u4 (16 * min k 256) (wfD f) w2) := Lib.hid (ownsRow_belowB ho.out b)
        clear b CW2
        obtain ⟨w3, hw3⟩ : ∃ x, w2.alloc (.cells #[Value.int .u8 0, Value.int .u8 0, Value.int .u8 0, Value.int .u8 0, Value.int .u8 0, Value.int .u8 0, Value.int .u8 0, Value.int .u8 0, Value.int .u8 0, Value.int .u8 0, Value.int .u8 0, Value.int .u8 0, Value.int .u8 0, Value.int .u8 0, Value.int .u8 0, Value.int .u8 0] 117) = x := ⟨_, rfl⟩
        have T3 : Hid (w3.heap[w2.heap.size]? = some (.cells #[Value.int .u8 0, Value.int .u8 0, Value.int .u8 0, Value.int .u8 0, Value.int .u8 0, Value.int .u8 0, Value.int .u8 0, Value.int .u8 0, Value.int .u8 0, Value.int .u8 0, Value.int .u8 0, Value.int .u8 0, Value.int .u8 0, Value.int .u8 0, Value.int .u8 0, Value.int .u8 0] 117 (0, 0))) := Lib.hid (by rw [← hw3]; exact World.alloc_heap_new w2 _)
        have B23 : Hid (Below w2.heap.size w2 w3) := Lib.hid (by rw [← hw3]; exact (Below.refl _ _).alloc (Nat.le_refl _) _)
        obtain ⟨w4, hw4⟩ : ∃ x, w3.setRow w2.heap.size A = x := ⟨_, rfl⟩
        have B24 : Hid (Below w2.heap.size w2 w4) := Lib.hid (by rw [← hw4]; exact below_setRow B23.out (Nat.le_refl _) _)
        have R4 : Hid (w4.heap[w2.heap.size]? = some (.cells A 117 (0, 0))) := Lib.hid (by rw [← hw4]; exact setRow_heap _ _ _ _ _ _ T3.out)
        have O4 : Hid (OwnU w.heap.size u4 (16 * min k 256) (wfD f) w4) := Lib.hid (ownsRow_belowB O2.out B24.out)
        have B4 := Lib.hid (B2.out.trans (B24.out.mono B2.out.size))
        go_wp2_with (refine wpList_store_row rfl 117 _ _ rfl w2.heap.size A rfl rfl 117 _ T3.out (wc_info _ A16.out) ASZ.out.symm AO.out ?_; rw [hw4])
        clear hw3 hw4 T3 B23 O2 cx
        have L2 : Hid (w2.heap.size < w4.heap.size) := Lib.hid (Array.getElem?_eq_some_iff.1 R4.out).1
        by_cases hsm : k < 256
        · have t256 : (k : Int) < 256 := by omega
          have HS := Lib.hid hsm
          have O5 : Hid (OwnU w.heap.size u4 (16 * k + 0) (wfD f) w4) := Lib.hid (by have := O4.out; rwa [show min k 256 = k by omega] at this)
          clear hsm
          go_loopw [4, 8] (fun d vj wx => ∃ j : Nat, j ≤ 16 ∧ vj = .int .i64 (j : Int) ∧ Hid (OwnU w.heap.size d (16 * k + j) (wfD f) wx) ∧ Hid (Below w.heap.size w wx) ∧ Hid (wx.heap[w2.heap.size]? = some (.cells A 117 (0, 0)))) (fun _ vj _ => 16 - (intOf vj).toNat)
          case atStart => exact ⟨0, by omega, rfl, O5, B4, R4⟩
          case round =>
            obtain ⟨j, hj, rfl, ho2, hb2, hr2⟩ := hrel
            by_cases hjl : j < 16
            · have tj : (j : Int) < 16 := by omega
              have HJ := Lib.hid hjl
              have cb : wr.cell? ⟨w2.heap.size, j, none⟩ = some (.int .u8 (wfD f (16 * k + j))) := (Lib.cell_of_heap hr2.out j).trans (AG.out j hjl)
              obtain ⟨y, hy⟩ : ∃ y, wfD f (16 * k + j) = y := ⟨_, rfl⟩
              rw [hy] at cb
              have NXT : Hid (∀ x, x < 16 * k + j + 1 → catU (wfD f) (16 * k + j) (fun _ => y) x = wfD f x) := Lib.hid fun x hx => by
                by_cases hx2 : x < 16 * k + j
                · exact catU_lo hx2
                · have e : x = 16 * k + j := by omega
                  unfold catU
                  rw [if_neg hx2, ← hy, e]
              have RA : Hid ((wr.alloc (.cells #[.int .u8 y] 5)).heap[w2.heap.size]? = some (.cells A 117 (0, 0))) := Lib.hid ((Below.heap_alloc _ _ _ (lt_heap hr2.out)).trans hr2.out)
              have RO := Lib.hid (OwnU.alloc ho2.out (.cells #[.int .u8 y] 5))
              have KR : Hid (∀ (w9 : World), (wr.alloc (.cells #[.int .u8 y] 5)).grownBy w9 (Value.ownBlock u4) → w9.heap[w2.heap.size]? = some (.cells A 117 (0, 0))) := Lib.hid fun w9 hg => keep_row RO.out RA.out (by decide) hg
              have BN : Hid (16 * k + j + 1 ≤ 100000000) := Lib.hid (by have := HS.out; omega)
              have BS : Hid (w.heap.size ≤ (wr.alloc (.cells #[.int .u8 y] 5)).heap.size) := Lib.hid (by have := hb2.out.size; rw [World.size_alloc]; omega)
              have BB := Lib.hid (hb2.out.alloc hb2.out.size (.cells #[.int .u8 y] 5))
              have CN : Hid (∀ j0, j0 < 1 → (wr.alloc (.cells #[.int .u8 y] 5)).cell? ⟨wr.heap.size, 0 + j0, none⟩ = some (.int .u8 ((fun _ => y) j0))) := Lib.hid fun j0 hj0 => by
                obtain rfl : j0 = 0 := by omega
                exact (World.cell?_alloc_new _ _ _ _).trans rfl
              clear hy hjl hj
              go_wp2_with (at_builtin; refine wpList_append_ug rfl _ _ rfl w.heap.size _ (16 * k + j) (wfD f) rfl RO.out wr.heap.size 0 1 1 (fun _ => y) rfl CN.out BN.out BS.out w BB.out ?_; intro v9 w9 h1 h2 h3; have H1 := Lib.hid h1; have H2 := Lib.hid h2; have H3 := Lib.hid (KR.out _ h3); clear h1 h2 h3)
              go_roundw
              case rel => exact ⟨j + 1, by have := HJ.out; omega, by go_num, Lib.hid (OwnU.congr H1.out NXT.out), H2, H3⟩
              case measure => have := HJ.out; simp [intOf]; omega
            · obtain rfl : j = 16 := by omega
              have O6 : Hid (OwnU w.heap.size _ (16 * min (k + 1) 256) (wfD f) wr) := Lib.hid (by rw [show 16 * min (k + 1) 256 = 16 * k + 16 from by have := HS.out; omega]; exact ho2.out)
              have S6 : Hid (∀ i2, i2 < k + 1 → wordB (f i2) = true) := Lib.hid fun i2 h2 => by
                rcases Nat.lt_or_ge i2 k with h | h
                · exact hs.out i2 h
                · obtain rfl : i2 = k := by omega
                  exact HOK.out
              clear ho2 hjl hj
              go_wp2
              go_roundw
              case rel => exact ⟨k + 1, HK.out, by go_num, O6, hb2, S6⟩
              case measure => have := HK.out; simp [intOf]; omega
        · have t256 : ¬ ((k : Int) < 256) := by omega
          have t257 : (256 : Int) ≤ (k : Int) := by omega
          have O6 : Hid (OwnU w.heap.size u4 (16 * min (k + 1) 256) (wfD f) w4) := Lib.hid (by have := O4.out; rwa [show min k 256 = min (k + 1) 256 by omega] at this)
          have S6 : Hid (∀ i2, i2 < k + 1 → wordB (f i2) = true) := Lib.hid fun i2 h2 => by
            rcases Nat.lt_or_ge i2 k with h | h
            · exact hs.out i2 h
            · obtain rfl : i2 = k := by omega
              exact HOK.out
          refine wp_loop_rounds 1 ?_
          rw [rounds_succ]
          go_wp2
          go_roundw
          case rel => exact ⟨k + 1, HK.out, by go_num, O6, B4, S6⟩
          case measure => have := HK.out; simp [intOf]; omega
    · obtain rfl : k = n := by omega
      by_cases hbig : 256 < k
      · have tb : (256 : Int) < (k : Int) := by omega
        have Q := Lib.hid (G3.out (fun i h => hs.out i h) hbig)
        clear hlt hk hbig
        go_wp2
        exact bodyPost_ret (v := .tuple #[.slice (some ⟨wq.heap.size, 0, none⟩) 0 0, .int .i64 3]) (by simp [results, Try.results40, go_sem]) rfl (WfPost.bad Q.out (by decide) (hb.out.alloc hb.out.size _))
      · have tb : (k : Int) ≤ 256 := by omega
        have H256 : Hid (k ≤ 256) := Lib.hid (by omega)
        have Q := Lib.hid (G1.out (fun i h => hs.out i h) H256.out)
        have ON : OwnU w.heap.size u4 (16 * k) (wfD f) wq := by have := ho.out; rwa [show min k 256 = k by omega] at this
        obtain ⟨aD, cD, rfl, hcD, hcM, haD, hyD, hpD⟩ := ON.gen
        have PC := Lib.hid (PK.out H256.out aD cD wq hyD)
        clear hlt hk hbig hcD hcM haD hyD hpD ON ho
        generalize 16 * k = M at PC GO ⊢
        go_wp2_with fail
        refine PC.out.mono ?_
        rintro e w3 ⟨v, rfl, hp, b⟩
        have B3 := Lib.hid (hb.out.trans (b.mono hb.out.size))
        have R := Lib.hid (GO.out v w3 Q.out H256.out (OwnFr.pr (OwnFr.base WZ.out hp)) B3.out)
        clear hp b
        go_wp2
        exact bodyPost_ret (v := .tuple #[v, .int .i64 0]) (by simp [results, Try.results40, go_sem]) rfl R.out
end Go.Proofs.Ytkijgadkgfapgaa
