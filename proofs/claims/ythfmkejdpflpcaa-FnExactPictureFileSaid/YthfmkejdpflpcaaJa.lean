/-
  CONTRACT: the program's readPicture: the blocks, and a map of their masks.
-/
import Derived.Test.YthfmkejdpflpcaaVe
import Derived.Test.YthfmkejdpflpcaaMa
import Derived.Maps.Own
import Derived.Carry
namespace Go.Proofs.Ythfmkejdpflpcaa
open Go.ChangeShapes Go.WideShapes Go.ChangeAt Go.RowKit Go.Maps Go.WideMaps
/-- the masks of the first blocks, by their corners -/
def shF (f : Nat → Int) : Nat → Int → Int → Nat → Int
  | 0 => fun _ _ => zI
  | k + 1 => putM (shF f k) (f (k * 18)) (f (k * 18 + 1)) (mkF f k)
theorem pic_info (A : Array Value) (h : A.size = 2) : (Try.prog.info? 82).map (·.size) = some A.size := by rw [h]; kernel_rfl
theorem results_cell_tmp_rowJ {P : Program} {fn : Func} {p u : Tmp} {ty : TypeId} (h : fn.results = #[.cell p ty, .tmp u]) (tmps : Array Value) (w : World) (g : Nat) (t : TypeId) (cs : Array Value) (fr : Nat × Nat) (d : TypeDesc)
    (hp : tmps.getD p undef = .pointer (some ⟨g, 0, none⟩)) (hg : w.heap[g]? = some (.cells cs t fr))
    (hu : P.underlying ty = some d) (hd : (match d with | .struct _ | .array _ _ => true | _ => false) = true) (hi : (P.info? ty).map (·.size) = some cs.size) :
    (results fn tmps).run P w = .ok (.tuple #[.agg cs, tmps.getD u undef]) w := by
  rw [results_cell_tmp h, hp]
  simp [asAddr, run_loadVar_row w g t ty cs fr d hg hu hd hi]
theorem MapM.row {b n g : Nat} {F : Int → Int → Nat → Int} {w : World} (h : MapM b n F w) (hne : b ≠ g) (cs : Array Value) : MapM b n F (w.setRow g cs) :=
  h.kept (row := some g) ⟨rfl, rfl, rfl, (below_setRow (B := 0) (Below.refl _ w) (Nat.zero_le _) cs).size, fun k _ hk => setRow_other w g k cs (fun e => hk (by rw [e]))⟩ (by simp [hne])
theorem row2_one (a : Option Addr) (n cap : Nat) (m : Option Nat) : (#[Value.slice a n cap, .map m] : Array Value).all (·.oneCell') = true := by simp [Value.oneCell']
set_option maxRecDepth 20000 in
set_option maxHeartbeats 8000000 in
theorem readP_yes (a : Option Addr) (n cap : Nat) (f : Nat → Int) (w : World) (hn : n ≤ 1048576) (h : BlR w.heap.size w a n f) (hf : BlF n f) (hv : validP f n = true) :
    Calls Try.prog 64 #[.slice a n cap] w fun e w' => ∃ b, e = .returned (.tuple #[.agg #[.slice a n cap, .map (some b)], .int .i64 0]) ∧ MapM b n (shF f n) w' ∧ Below w.heap.size w w' := by
  have hI := isPic_any a n cap f
  have HR := Lib.hid h
  have HBF := Lib.hid hf
  have nI : (n : Int) ≤ 1048576 := by omega
  have HN := Lib.hid hn
  have IP : Hid (∀ W, Below w.heap.size w W → Calls Try.prog 108 #[.slice a n cap] W fun e w' => e = .returned (.bool true) ∧ Below W.heap.size W w') := Lib.hid fun W hW => by
    have := hI W.heap.size W (Nat.le_refl _) hn (h.below hW hW.size) hf
    rwa [hv] at this
  clear hI h hf hv hn
  obtain ⟨w1, hw1⟩ : ∃ x, w.alloc (.cells #[.slice none 0 0, .map none] 82) = x := ⟨_, rfl⟩
  obtain ⟨w2, hw2⟩ : ∃ x, w1.alloc (.map #[] 0) = x := ⟨_, rfl⟩
  obtain ⟨w3, hw3⟩ : ∃ x, w2.alloc (.cells #[.slice none 0 0, .map none] 82) = x := ⟨_, rfl⟩
  have S1 : w1.heap.size = w.heap.size + 1 := by rw [← hw1]; simp
  have S2 : w2.heap.size = w.heap.size + 1 + 1 := by rw [← hw2]; simp [S1]
  have M2 : MapM (w.heap.size + 1) 0 (fun _ _ => zI) w2 := by rw [← hw2, ← S1]; exact MapM.made w1
  have P1 : w1.heap[w.heap.size]? = some (.cells #[.slice none 0 0, .map none] 82 (0, 0)) := by rw [← hw1]; exact World.alloc_heap_new w _
  have P3 : Hid (w3.heap[w.heap.size + 1 + 1]? = some (.cells #[.slice none 0 0, .map none] 82 (0, 0))) := Lib.hid (by rw [← hw3, ← S2]; exact World.alloc_heap_new w2 _)
  obtain ⟨w4, hw4⟩ : ∃ x, w3.setRow (w.heap.size + 1 + 1) #[.slice a n cap, .map (some (w.heap.size + 1))] = x := ⟨_, rfl⟩
  have b12 : Below w1.heap.size w1 w2 := by rw [← hw2]; exact (Below.refl _ _).alloc (Nat.le_refl _) _
  have b24 : Below w2.heap.size w2 w4 := by rw [← hw4, ← hw3]; exact below_setRow ((Below.refl _ _).alloc (Nat.le_refl _) _) (by rw [S2]; exact Nat.le_refl _) _
  have B4 : Hid (Below w.heap.size w w4) := Lib.hid (((by rw [← hw1]; exact (Below.refl _ _).alloc (Nat.le_refl _) _ : Below w.heap.size w w1).trans (b12.mono (by omega))).trans (b24.mono (by omega)))
  have P2 : Hid (w4.heap[w.heap.size]? = some (.cells #[.slice none 0 0, .map none] 82 (0, 0))) := Lib.hid ((b24.block _ (by omega)).trans ((b12.block _ (by omega)).trans P1))
  have P4 : Hid (w4.heap[w.heap.size + 1 + 1]? = some (.cells #[.slice a n cap, .map (some (w.heap.size + 1))] 82 (0, 0))) := Lib.hid (by rw [← hw4]; exact setRow_heap _ _ _ _ _ _ P3.out)
  have M4 : Hid (MapM (w.heap.size + 1) 0 (shF f 0) w4) := Lib.hid (M2.later b24)
  clear M2 P1 b12 b24
  have hmm := @run_makeMap Try.prog
  go_enter Try.func64, Try.ntmps64
  have c0 : w4.cell? ⟨w.heap.size + 1 + 1, 0, none⟩ = some (.slice a n cap) := Lib.cell_of_heap P4.out 0
  go_wp2_with (refine wpList_store_row rfl 82 _ _ rfl (w.heap.size + 1 + 1) #[.slice a n cap, .map (some (w.heap.size + 1))] rfl rfl 82 _ P3.out (pic_info _ rfl) rfl (row2_one _ _ _ _) ?_; rw [hw4])
  refine (IP.out _ B4.out).mono ?_
  rintro e w5 ⟨rfl, b⟩
  have B5 := Lib.hid (B4.out.trans (b.mono B4.out.size))
  have Q2 : Hid (w5.heap[w.heap.size]? = some (.cells #[.slice none 0 0, .map none] 82 (0, 0))) := Lib.hid ((b.block _ (Array.getElem?_eq_some_iff.1 P2.out).1).trans P2.out)
  have Q4 : Hid (w5.heap[w.heap.size + 1 + 1]? = some (.cells #[.slice a n cap, .map (some (w.heap.size + 1))] 82 (0, 0))) := Lib.hid ((b.block _ (Array.getElem?_eq_some_iff.1 P4.out).1).trans P4.out)
  have M5 := Lib.hid (M4.out.later b)
  clear b P2 P3 P4 M4 B4 hw1 hw2 hw3 hw4 S1 S2 IP hmm
  go_wp2
  go_loopw [17] (fun vi wr => ∃ k : Nat, k ≤ n ∧ vi = .int .i64 (k : Int) ∧ Hid (wr.heap[w.heap.size]? = some (.cells #[.slice none 0 0, .map none] 82 (0, 0))) ∧ Hid (wr.heap[w.heap.size + 1 + 1]? = some (.cells #[.slice a n cap, .map (some (w.heap.size + 1))] 82 (0, 0))) ∧ Hid (MapM (w.heap.size + 1) k (shF f k) wr) ∧ Hid (Below w.heap.size w wr)) (fun vi _ => n - (intOf vi).toNat)
  case atStart => exact ⟨0, by omega, rfl, Q2, Q4, M5, B5⟩
  case round =>
    rename World => wq
    obtain ⟨k, hk, rfl, R2, R4, MM, hb⟩ := hrel
    by_cases hlt : k < n
    · have tk : (k : Int) < (n : Int) := by omega
      obtain ⟨g, off, rfl, hg, hc⟩ : ∃ g off, a = some ⟨g, off, none⟩ ∧ g < w.heap.size ∧ ∀ j, j < 18 * n → w.cell? ⟨g, off + j, none⟩ = some (bcell f j) := by
        rcases HR.out with h | h
        · omega
        · exact h
      have HCB : Hid (∀ j v, (blk f k)[j]? = some v → wq.cell? ⟨g, off + k * 18 + j, none⟩ = some v) := Lib.hid fun j v e => by
        have hj : j < 18 := by
          have := (Array.getElem?_eq_some_iff.1 e).1
          rwa [blk_size] at this
        rw [hb.out.cell (p := ⟨g, off + k * 18 + j, none⟩) hg, Nat.add_assoc, hc (k * 18 + j) (by omega), ← blk_get f k j hj]
        exact e
      have CO := blf_co HBF.out hlt
      have CP := Lib.hid CO.1
      have CQ := Lib.hid CO.2
      have HK := Lib.hid hlt
      have A18 : Hid ((blk f k).size = 18) := Lib.hid (blk_size f k)
      have AO : Hid ((blk f k).all (·.oneCell') = true) := Lib.hid (bl_one _ _ _)
      have AC : Hid (∀ j v, (#[Value.int .i32 (f (k * 18)), .int .i32 (f (k * 18 + 1))] : Array Value)[j]? = some v → (blk f k)[0 + j]? = some v) := Lib.hid fun j v e => bl_co _ _ _ j v e
      have AM : Hid (∀ j v, (M16 (mkF f k))[j]? = some v → (blk f k)[2 + j]? = some v) := Lib.hid fun j v e => bl_mask _ _ (mkF f k) j v e
      have SE : Hid (shF f (k + 1) = putM (shF f k) (f (k * 18)) (f (k * 18 + 1)) (mkF f k)) := Lib.hid rfl
      have M16S : Hid ((M16 (mkF f k)).size = 16) := Lib.hid (arr_size _ _ _)
      have ASZ : Hid ((blk f k).size = (#[Value.int .i32 0, Value.int .i32 0, Value.int .u16 0, Value.int .u16 0, Value.int .u16 0, Value.int .u16 0, Value.int .u16 0, Value.int .u16 0, Value.int .u16 0, Value.int .u16 0, Value.int .u16 0, Value.int .u16 0, Value.int .u16 0, Value.int .u16 0, Value.int .u16 0, Value.int .u16 0, Value.int .u16 0, Value.int .u16 0] : Array Value).size) := Lib.hid (A18.out.trans rfl)
      obtain ⟨A, hA⟩ : ∃ A, blk f k = A := ⟨_, rfl⟩
      rw [hA] at HCB A18 AO AC AM ASZ
      obtain ⟨p, hp⟩ : ∃ p, f (k * 18) = p := ⟨_, rfl⟩
      obtain ⟨q, hq⟩ : ∃ p, f (k * 18 + 1) = p := ⟨_, rfl⟩
      rw [hp] at CP AC SE
      rw [hq] at CQ AC SE
      obtain ⟨m, hm⟩ : ∃ m, mkF f k = m := ⟨_, rfl⟩
      rw [hm] at AM SE M16S
      clear hc hg CO hA hp hq hm hlt hk
      obtain ⟨w2, hw2⟩ : ∃ x, wq.alloc (.cells #[Value.int .i32 0, Value.int .i32 0, Value.int .u16 0, Value.int .u16 0, Value.int .u16 0, Value.int .u16 0, Value.int .u16 0, Value.int .u16 0, Value.int .u16 0, Value.int .u16 0, Value.int .u16 0, Value.int .u16 0, Value.int .u16 0, Value.int .u16 0, Value.int .u16 0, Value.int .u16 0, Value.int .u16 0, Value.int .u16 0] 73) = x := ⟨_, rfl⟩
      have T2 : Hid (w2.heap[wq.heap.size]? = some (.cells #[Value.int .i32 0, Value.int .i32 0, Value.int .u16 0, Value.int .u16 0, Value.int .u16 0, Value.int .u16 0, Value.int .u16 0, Value.int .u16 0, Value.int .u16 0, Value.int .u16 0, Value.int .u16 0, Value.int .u16 0, Value.int .u16 0, Value.int .u16 0, Value.int .u16 0, Value.int .u16 0, Value.int .u16 0, Value.int .u16 0] 73 (0, 0))) := Lib.hid (by rw [← hw2]; exact World.alloc_heap_new wq _)
      obtain ⟨w3, hw3⟩ : ∃ x, w2.setRow wq.heap.size A = x := ⟨_, rfl⟩
      have b3 : Below wq.heap.size wq w3 := by rw [← hw3, ← hw2]; exact below_setRow ((Below.refl _ _).alloc (Nat.le_refl _) _) (Nat.le_refl _) _
      have R3 : Hid (w3.heap[wq.heap.size]? = some (.cells A 73 (0, 0))) := Lib.hid (by rw [← hw3]; exact setRow_heap _ _ _ _ _ _ T2.out)
      have B3 := Lib.hid (hb.out.trans (b3.mono hb.out.size))
      have U2 : Hid (w3.heap[w.heap.size]? = some (.cells #[.slice none 0 0, .map none] 82 (0, 0))) := Lib.hid ((b3.block _ (Array.getElem?_eq_some_iff.1 R2.out).1).trans R2.out)
      have U4 : Hid (w3.heap[w.heap.size + 1 + 1]? = some (.cells #[.slice (some ⟨g, off, none⟩) n cap, .map (some (w.heap.size + 1))] 82 (0, 0))) := Lib.hid ((b3.block _ (Array.getElem?_eq_some_iff.1 R4.out).1).trans R4.out)
      have M3 := Lib.hid (MM.out.later b3)
      have c1 : w3.cell? ⟨w.heap.size + 1 + 1, 1, none⟩ = some (.map (some (w.heap.size + 1))) := Lib.cell_of_heap U4.out 1
      have HCC : Hid (∀ j v, (#[Value.int .i32 p, .int .i32 q] : Array Value)[j]? = some v → w3.cell? ⟨wq.heap.size, 0 + j, none⟩ = some v) := Lib.hid fun j v e => (Lib.cell_of_heap R3.out _).trans (AC.out j v e)
      have HCM : Hid (∀ j v, (M16 m)[j]? = some v → w3.cell? ⟨wq.heap.size, 2 + j, none⟩ = some v) := Lib.hid fun j v e => (Lib.cell_of_heap R3.out _).trans (AM.out j v e)
      have KN : Hid (k < maxLen) := Lib.hid (by unfold maxLen; have := HK.out; have := HN.out; omega)
      go_wp2_with (first | (refine wpList_load_part rfl 73 _ rfl g (off + k * 18) rfl A _ HCB.out Try.underlying73 rfl (ib_info _ A18.out) ?_) | (refine wpList_store_row rfl 73 _ _ rfl wq.heap.size A rfl rfl 73 _ T2.out (ib_info _ A18.out) ASZ.out.symm AO.out ?_; rw [hw3]) | (refine wpList_load_part rfl 46 _ rfl wq.heap.size 0 rfl #[.int .i32 p, .int .i32 q] _ HCC.out Try.underlying46 rfl (co_info _ rfl) ?_) | (refine wpList_load_part rfl 71 _ rfl wq.heap.size 2 rfl (M16 m) _ HCM.out Try.underlying71 rfl (mask_info _ M16S.out) ?_) | (at_mapUpdate; refine wpList_mapUpdate_m rfl _ _ _ 65 rfl Try.underlying65 (w.heap.size + 1) k (shF f k) rfl M3.out KN.out p q CP.out CQ.out m rfl rfl ?_; intro w5 h1 h2; have M6 := Lib.hid h1; have G6 := Lib.hid h2; clear h1 h2))
      rw [← SE.out] at M6
      have L6 : Hid (w.heap.size + 1 + 1 < w3.heap.size) := Lib.hid (Array.getElem?_eq_some_iff.1 U4.out).1
      have X2 : Hid (w5.heap[w.heap.size]? = some (.cells #[.slice none 0 0, .map none] 82 (0, 0))) := Lib.hid ((G6.out.block _ (by have := L6.out; omega) (by simp)).trans U2.out)
      have X4 : Hid (w5.heap[w.heap.size + 1 + 1]? = some (.cells #[.slice (some ⟨g, off, none⟩) n cap, .map (some (w.heap.size + 1))] 82 (0, 0))) := Lib.hid ((G6.out.block _ L6.out (by simp)).trans U4.out)
      have B6 : Hid (Below w.heap.size w w5) := Lib.hid (B3.out.grown G6.out (by have := L6.out; omega) (fun k hk => by cases hk; omega))
      go_roundw
      case rel => exact ⟨k + 1, HK.out, by go_num, X2, X4, M6, B6⟩
      case measure => have := HK.out; simp [intOf]; omega
    · obtain rfl : k = n := by omega
      have PSZ : Hid ((#[Value.slice none 0 0, .map none] : Array Value).size = (#[Value.slice a k cap, .map (some (w.heap.size + 1))] : Array Value).size) := Lib.hid rfl
      obtain ⟨w6, hw6⟩ : ∃ x, wq.setRow w.heap.size #[.slice a k cap, .map (some (w.heap.size + 1))] = x := ⟨_, rfl⟩
      have R6 : Hid (w6.heap[w.heap.size]? = some (.cells #[.slice a k cap, .map (some (w.heap.size + 1))] 82 (0, 0))) := Lib.hid (by rw [← hw6]; exact setRow_heap _ _ _ _ _ _ R2.out)
      have B6 : Hid (Below w.heap.size w w6) := Lib.hid (by rw [← hw6]; exact below_setRow hb.out (Nat.le_refl _) _)
      have M6 : Hid (MapM (w.heap.size + 1) k (shF f k) w6) := Lib.hid (by rw [← hw6]; exact MM.out.row (by omega) _)
      have G := Lib.hid (show ∃ b, (Ending.returned (.tuple #[.agg #[.slice a k cap, .map (some (w.heap.size + 1))], .int .i64 0]) : Ending) = .returned (.tuple #[.agg #[.slice a k cap, .map (some b)], .int .i64 0]) ∧ MapM b k (shF f k) w6 ∧ Below w.heap.size w w6 from ⟨_, rfl, M6.out, B6.out⟩)
      clear hlt hk MM hb
      go_wp2_with (first | (refine wpList_load_row rfl 82 _ rfl (w.heap.size + 1 + 1) rfl 82 _ _ _ R4.out Try.underlying82 rfl (pic_info _ rfl) ?_) | (refine wpList_store_row rfl 82 _ _ rfl w.heap.size #[.slice a k cap, .map (some (w.heap.size + 1))] rfl rfl 82 _ R2.out (pic_info _ rfl) PSZ.out (row2_one _ _ _ _) ?_; rw [hw6]))
      exact bodyPost_ret (results_cell_tmp_rowJ Try.results64 _ _ w.heap.size _ _ _ _ rfl R6.out Try.underlying82 rfl (pic_info _ rfl)) rfl G.out
set_option maxRecDepth 20000 in
set_option maxHeartbeats 8000000 in
theorem readP_no (a : Option Addr) (n cap : Nat) (f : Nat → Int) (w : World) (hn : n ≤ 1048576) (h : BlR w.heap.size w a n f) (hf : BlF n f) (hv : validP f n = false) :
    Calls Try.prog 64 #[.slice a n cap] w fun e w' => e = .returned (.tuple #[.agg #[.slice none 0 0, .map none], .int .i64 1]) ∧ Below w.heap.size w w' := by
  have hI := isPic_any a n cap f
  have HR := Lib.hid h
  have HBF := Lib.hid hf
  have nI : (n : Int) ≤ 1048576 := by omega
  have HN := Lib.hid hn
  have IP : Hid (∀ W, Below w.heap.size w W → Calls Try.prog 108 #[.slice a n cap] W fun e w' => e = .returned (.bool false) ∧ Below W.heap.size W w') := Lib.hid fun W hW => by
    have := hI W.heap.size W (Nat.le_refl _) hn (h.below hW hW.size) hf
    rwa [hv] at this
  clear hI h hf hv hn
  obtain ⟨w1, hw1⟩ : ∃ x, w.alloc (.cells #[.slice none 0 0, .map none] 82) = x := ⟨_, rfl⟩
  obtain ⟨w2, hw2⟩ : ∃ x, w1.alloc (.map #[] 0) = x := ⟨_, rfl⟩
  obtain ⟨w3, hw3⟩ : ∃ x, w2.alloc (.cells #[.slice none 0 0, .map none] 82) = x := ⟨_, rfl⟩
  have S1 : w1.heap.size = w.heap.size + 1 := by rw [← hw1]; simp
  have S2 : w2.heap.size = w.heap.size + 1 + 1 := by rw [← hw2]; simp [S1]
  have M2 : MapM (w.heap.size + 1) 0 (fun _ _ => zI) w2 := by rw [← hw2, ← S1]; exact MapM.made w1
  have P1 : w1.heap[w.heap.size]? = some (.cells #[.slice none 0 0, .map none] 82 (0, 0)) := by rw [← hw1]; exact World.alloc_heap_new w _
  have P3 : Hid (w3.heap[w.heap.size + 1 + 1]? = some (.cells #[.slice none 0 0, .map none] 82 (0, 0))) := Lib.hid (by rw [← hw3, ← S2]; exact World.alloc_heap_new w2 _)
  obtain ⟨w4, hw4⟩ : ∃ x, w3.setRow (w.heap.size + 1 + 1) #[.slice a n cap, .map (some (w.heap.size + 1))] = x := ⟨_, rfl⟩
  have b12 : Below w1.heap.size w1 w2 := by rw [← hw2]; exact (Below.refl _ _).alloc (Nat.le_refl _) _
  have b24 : Below w2.heap.size w2 w4 := by rw [← hw4, ← hw3]; exact below_setRow ((Below.refl _ _).alloc (Nat.le_refl _) _) (by rw [S2]; exact Nat.le_refl _) _
  have B4 : Hid (Below w.heap.size w w4) := Lib.hid (((by rw [← hw1]; exact (Below.refl _ _).alloc (Nat.le_refl _) _ : Below w.heap.size w w1).trans (b12.mono (by omega))).trans (b24.mono (by omega)))
  have P2 : Hid (w4.heap[w.heap.size]? = some (.cells #[.slice none 0 0, .map none] 82 (0, 0))) := Lib.hid ((b24.block _ (by omega)).trans ((b12.block _ (by omega)).trans P1))
  have P4 : Hid (w4.heap[w.heap.size + 1 + 1]? = some (.cells #[.slice a n cap, .map (some (w.heap.size + 1))] 82 (0, 0))) := Lib.hid (by rw [← hw4]; exact setRow_heap _ _ _ _ _ _ P3.out)
  have M4 : Hid (MapM (w.heap.size + 1) 0 (shF f 0) w4) := Lib.hid (M2.later b24)
  clear M2 P1 b12 b24
  have hmm := @run_makeMap Try.prog
  go_enter Try.func64, Try.ntmps64
  have c0 : w4.cell? ⟨w.heap.size + 1 + 1, 0, none⟩ = some (.slice a n cap) := Lib.cell_of_heap P4.out 0
  go_wp2_with (refine wpList_store_row rfl 82 _ _ rfl (w.heap.size + 1 + 1) #[.slice a n cap, .map (some (w.heap.size + 1))] rfl rfl 82 _ P3.out (pic_info _ rfl) rfl (row2_one _ _ _ _) ?_; rw [hw4])
  refine (IP.out _ B4.out).mono ?_
  rintro e w5 ⟨rfl, b⟩
  have B5 := Lib.hid (B4.out.trans (b.mono B4.out.size))
  have Q2 : Hid (w5.heap[w.heap.size]? = some (.cells #[.slice none 0 0, .map none] 82 (0, 0))) := Lib.hid ((b.block _ (Array.getElem?_eq_some_iff.1 P2.out).1).trans P2.out)
  have Q2S : Hid ((#[Value.slice none 0 0, .map none] : Array Value).size = (#[Value.slice none 0 0, .map none] : Array Value).size) := Lib.hid rfl
  have SR : Hid (w5.setRow w.heap.size #[.slice none 0 0, .map none] = w5) := Lib.hid (setRow_self _ _ _ _ _ Q2.out)
  have Q4 : Hid (w5.heap[w.heap.size + 1 + 1]? = some (.cells #[.slice a n cap, .map (some (w.heap.size + 1))] 82 (0, 0))) := Lib.hid ((b.block _ (Array.getElem?_eq_some_iff.1 P4.out).1).trans P4.out)
  have M5 := Lib.hid (M4.out.later b)
  clear b P2 P3 P4 M4 B4 hw1 hw2 hw3 hw4 S1 S2 IP hmm
  go_wp2_with (refine wpList_store_row rfl 82 _ _ rfl w.heap.size #[.slice none 0 0, .map none] rfl rfl 82 _ Q2.out (pic_info _ rfl) rfl (row2_one _ _ _ _) ?_; rw [SR.out])
  exact bodyPost_ret (results_cell_tmp_rowJ Try.results64 _ _ w.heap.size _ _ _ _ rfl Q2.out Try.underlying82 rfl (pic_info _ rfl)) rfl ⟨rfl, B5.out⟩
end Go.Proofs.Ythfmkejdpflpcaa
