/-
  CONTRACTS: MaskOf on both sides.
-/
import Derived.Test.YtandgjjfiniboaaDp
import Derived.Test.YtandgjjfiniboaaMs
import Derived.BigQuiet
namespace Go.Proofs.Ytandgjjfiniboaa
open Go.ChangeShapes Go.WideShapes Go.ChangeAt Go.RowKit
def inC (f : Nat → Int) (k : Nat) : Bool := inB (f (k * 2)) (f (k * 2 + 1))
def moF (f : Nat → Int) : Nat → Nat → Int
  | 0 => zI
  | k + 1 => setF (moF f k) (f (k * 2)).toNat (f (k * 2 + 1)).toNat
def moW (f : Nat → Int) : Nat → Nat → Int
  | 0 => zI
  | k + 1 => withF (moW f k) (f (k * 2)).toNat (f (k * 2 + 1)).toNat true
theorem moF_MB (f : Nat → Int) (k : Nat) : MB (moF f k) := by
  induction k with
  | zero => exact zero_MB
  | succ k ih => exact setF_MB ih _ _
theorem moW_MB (f : Nat → Int) (k : Nat) : MB (moW f k) := by
  induction k with
  | zero => exact zero_MB
  | succ k ih => exact withF_MB ih _ _ _
theorem mo_both (f : Nat → Int) (n : Nat) (h : ∀ k, k < n → inC f k = true) : M16 (moW f n) = M16 (moF f n) := by
  have key : ∀ k, k ≤ n → ∀ x y, x < 16 → y < 16 → hasF (moW f k) x y = hasF (moF f k) x y := by
    intro k
    induction k with
    | zero => intro _ x y _ _; rfl
    | succ k ih =>
      intro hk x y hx hy
      obtain ⟨a, b, ha, hb, ha', hb'⟩ := inB_nat (h k (by omega))
      show hasF (withF (moW f k) (f (k * 2)).toNat (f (k * 2 + 1)).toNat true) x y = hasF (setF (moF f k) (f (k * 2)).toNat (f (k * 2 + 1)).toNat) x y
      rw [ha, hb, Int.toNat_natCast, Int.toNat_natCast, hasF_with (moW_MB f k) ha' hb' true x y hx, hasF_set (moF_MB f k) ha' hb', ih (by omega) x y hx hy]
      by_cases h1 : x = a ∧ y = b
      · rw [if_pos h1, h1.1, h1.2]; simp
      · rw [if_neg h1]
        have : (decide (x = a) && decide (y = b)) = false := by
          rw [Bool.and_eq_false_iff]
          by_cases h2 : x = a
          · right; simp; exact fun h3 => h1 ⟨h2, h3⟩
          · left; simpa using h2
        rw [this, Bool.or_false]
  exact mask_ext (moW_MB f n) (moF_MB f n) (fun x y hx hy => key n (Nat.le_refl _) x y hx hy)
def MoOk (f : Nat → Int) (n : Nat) : Prop := n ≤ 1024 ∧ ∀ k, k < n → inC f k = true
open Classical in
noncomputable def maF (f : Nat → Int) (n : Nat) : Nat → Int := if MoOk f n then moF f n else zI
open Classical in
noncomputable def maC (f : Nat → Int) (n : Nat) : Int := if n > 1024 then 3 else if MoOk f n then 0 else 2
theorem ma_yes {f : Nat → Int} {n : Nat} (h : MoOk f n) : maF f n = moF f n ∧ maC f n = 0 := by
  unfold maF maC; rw [if_pos h, if_pos h, if_neg (by have := h.1; omega)]; exact ⟨rfl, rfl⟩
theorem ma_bad {f : Nat → Int} {n k : Nat} (hn : n ≤ 1024) (hk : k < n) (h : inC f k = false) : maF f n = zI ∧ maC f n = 2 := by
  have h2 : ¬ MoOk f n := fun h' => by have := h'.2 k hk; rw [h] at this; cases this
  unfold maF maC; rw [if_neg h2, if_neg h2, if_neg (by omega)]; exact ⟨rfl, rfl⟩
theorem ma_long {f : Nat → Int} {n : Nat} (hn : 1024 < n) : maF f n = zI ∧ maC f n = 3 := by
  have h2 : ¬ MoOk f n := fun h' => by have := h'.1; omega
  unfold maF maC; rw [if_neg h2, if_pos hn]; exact ⟨rfl, rfl⟩
def MoPost (f : Nat → Int) (n : Nat) (w : World) (e : Ending) (w' : World) : Prop := e = .returned (.tuple #[.agg (M16 (maF f n)), .int .i64 (maC f n)]) ∧ Below w.heap.size w w'
set_option maxRecDepth 20000 in
set_option maxHeartbeats 4000000 in
theorem smaskOf_any (n : Nat) (f : Nat → Int) (hf : P32 n f) (hn : n ≤ 1048576) (av : Option Addr) (cap : Nat) (w : World) (hR : PtR w.heap.size w av n f) : Calls Try.prog 16 #[.slice av n cap] w (MoPost f n w) := by
  unfold MoPost
  have S1 : ((w.alloc (.cells (M16 zI) 26)).alloc (.cells (M16 zI) 26)).heap[w.heap.size + 1]? = some (.cells (M16 zI) 26 (0, 0)) := by
    have := World.alloc_heap_new (w.alloc (.cells (M16 zI) 26)) (.cells (M16 zI) 26)
    rw [World.size_alloc] at this
    exact this
  have S0 : ((w.alloc (.cells (M16 zI) 26)).alloc (.cells (M16 zI) 26)).heap[w.heap.size]? = some (.cells (M16 zI) 26 (0, 0)) := (Below.heap_alloc _ _ _ (by simp)).trans (World.alloc_heap_new w _)
  have SB : Below w.heap.size w ((w.alloc (.cells (M16 zI) 26)).alloc (.cells (M16 zI) 26)) := ((Below.refl _ w).alloc (Nat.le_refl _) _).alloc (by simp) _
  have Z : M16 zI = #[Value.int .u16 0, Value.int .u16 0, Value.int .u16 0, Value.int .u16 0, Value.int .u16 0, Value.int .u16 0, Value.int .u16 0, Value.int .u16 0, Value.int .u16 0, Value.int .u16 0, Value.int .u16 0, Value.int .u16 0, Value.int .u16 0, Value.int .u16 0, Value.int .u16 0, Value.int .u16 0] := rfl
  have H1 := Lib.hid S1
  have H0 := Lib.hid S0
  have HB := Lib.hid SB
  clear S1 S0 SB
  rw [Z] at H1 H0 HB
  obtain ⟨W1, hW1⟩ : ∃ W1, ((w.alloc (.cells #[Value.int .u16 0, Value.int .u16 0, Value.int .u16 0, Value.int .u16 0, Value.int .u16 0, Value.int .u16 0, Value.int .u16 0, Value.int .u16 0, Value.int .u16 0, Value.int .u16 0, Value.int .u16 0, Value.int .u16 0, Value.int .u16 0, Value.int .u16 0, Value.int .u16 0, Value.int .u16 0] 26)).alloc (.cells #[Value.int .u16 0, Value.int .u16 0, Value.int .u16 0, Value.int .u16 0, Value.int .u16 0, Value.int .u16 0, Value.int .u16 0, Value.int .u16 0, Value.int .u16 0, Value.int .u16 0, Value.int .u16 0, Value.int .u16 0, Value.int .u16 0, Value.int .u16 0, Value.int .u16 0, Value.int .u16 0] 26)).setRow (w.heap.size + 1) (M16 zI) = W1 := ⟨_, rfl⟩
  have K1 : Hid (W1.heap[w.heap.size + 1]? = some (.cells (M16 zI) 26 (0, 0))) := Lib.hid (by rw [← hW1]; exact setRow_heap _ _ _ _ _ _ H1.out)
  have K0 : Hid (W1.heap[w.heap.size]? = some (.cells #[Value.int .u16 0, Value.int .u16 0, Value.int .u16 0, Value.int .u16 0, Value.int .u16 0, Value.int .u16 0, Value.int .u16 0, Value.int .u16 0, Value.int .u16 0, Value.int .u16 0, Value.int .u16 0, Value.int .u16 0, Value.int .u16 0, Value.int .u16 0, Value.int .u16 0, Value.int .u16 0] 26 (0, 0))) := Lib.hid (by rw [← hW1, setRow_other _ _ _ _ (by omega)]; exact H0.out)
  have KB : Hid (Below w.heap.size w W1) := Lib.hid (by rw [← hW1]; exact below_setRow HB.out (by omega) _)
  clear Z H0 HB
  have HR := Lib.hid hR
  have HF := Lib.hid hf
  clear hR hf
  by_cases hT : 1024 < n
  · have tT : (1024 : Int) < (n : Int) := by omega
    have RN := ma_long (f := f) hT
    clear hT
    go_enter Try.func16, Try.ntmps16
    go_wp2_with (first | (refine wpList_store_row rfl 26 _ _ rfl (w.heap.size + 1) (M16 zI) rfl rfl 26 _ H1.out (mask_info _ rfl) rfl (arr_cells _ _ _) ?_; rw [hW1]) | (refine wpList_load_row rfl 26 _ rfl (w.heap.size + 1) rfl 26 _ _ _ K1.out Try.underlying26 rfl (mask_info _ (arr_size _ _ _)) ?_) | (refine wpList_store_row rfl 26 _ _ rfl w.heap.size (M16 zI) rfl rfl 26 _ K0.out (mask_info _ rfl) rfl (arr_cells _ _ _) ?_))
    refine bodyPost_ret (v := .tuple #[.agg (M16 zI), .int .i64 3]) ?_ rfl ⟨by rw [RN.1, RN.2], ?_⟩
    · exact results_cell_tmp_row Try.results16 _ _ w.heap.size _ _ _ _ rfl (setRow_heap _ _ _ _ _ _ K0.out) Try.underlying26 rfl (mask_info _ (arr_size _ _ _))
    · exact below_setRow KB.out (Nat.le_refl _) _
  · have tT : (n : Int) ≤ 1024 := by omega
    have HN := Lib.hid (show n ≤ 1024 by omega)
    clear hT hn
    go_enter Try.func16, Try.ntmps16
    go_wp2_with (refine wpList_store_row rfl 26 _ _ rfl (w.heap.size + 1) (M16 zI) rfl rfl 26 _ H1.out (mask_info _ rfl) rfl (arr_cells _ _ _) ?_; rw [hW1])
    clear hW1 H1
    go_loopw [5] (fun i wr => ∃ k : Nat, k ≤ n ∧ i = .int .i64 (k : Int) ∧ (∀ j, j < k → inC f j = true) ∧ wr.heap[w.heap.size + 1]? = some (.cells (M16 (moF f k)) 26 (0, 0)) ∧ wr.heap[w.heap.size]? = some (.cells #[Value.int .u16 0, Value.int .u16 0, Value.int .u16 0, Value.int .u16 0, Value.int .u16 0, Value.int .u16 0, Value.int .u16 0, Value.int .u16 0, Value.int .u16 0, Value.int .u16 0, Value.int .u16 0, Value.int .u16 0, Value.int .u16 0, Value.int .u16 0, Value.int .u16 0, Value.int .u16 0] 26 (0, 0)) ∧ Below w.heap.size w wr) (fun i _ => n - (intOf i).toNat)
    case atStart => exact ⟨0, by omega, rfl, (fun j h => absurd h (Nat.not_lt_zero _)), K1.out, K0.out, KB.out⟩
    case round =>
      obtain ⟨k, hk, rfl, hall, h1, h0, hB⟩ := hrel
      have L1 := Lib.hid h1
      have L0 := Lib.hid h0
      have LB := Lib.hid hB
      have HA := Lib.hid hall
      clear h1 h0 hB hall K0 K1 KB
      by_cases hlt : k < n
      · have tk : (k : Int) < (n : Int) := by omega
        have HK := Lib.hid hlt
        obtain ⟨g, off, rfl, hg, hcs⟩ : ∃ g off, av = some ⟨g, off, none⟩ ∧ g < w.heap.size ∧ ∀ j, j < 2 * n → w.cell? ⟨g, off + j, none⟩ = some (.int .i32 (f j)) := by
          rcases HR.out with h | h
          · omega
          · exact h
        have g0 : wr.cell? ⟨g, off + k * 2, none⟩ = some (.int .i32 (f (k * 2))) := (LB.out.cell (p := ⟨g, off + k * 2, none⟩) hg).trans (hcs _ (by omega))
        have g1 : wr.cell? ⟨g, off + k * 2 + 1, none⟩ = some (.int .i32 (f (k * 2 + 1))) := (LB.out.cell (p := ⟨g, off + k * 2 + 1, none⟩) hg).trans (hcs (k * 2 + 1) (by omega))
        have r0 := HF.out (k * 2) (by omega)
        have r1 := HF.out (k * 2 + 1) (by omega)
        have BAD := Lib.hid (fun h : inB (f (k * 2)) (f (k * 2 + 1)) = false => ma_bad (f := f) HN.out hlt h)
        have NX : Hid (moF f (k + 1) = setF (moF f k) (f (k * 2)).toNat (f (k * 2 + 1)).toNat) := Lib.hid rfl
        have NA : Hid (inB (f (k * 2)) (f (k * 2 + 1)) = true → ∀ j, j < k + 1 → inC f j = true) := Lib.hid fun h j hj => by
          rcases Nat.lt_or_ge j k with h' | h'
          · exact HA.out j h'
          · rw [show j = k by omega]; exact h
        clear hcs hlt hk hg HA
        generalize f (k * 2) = p at g0 r0 BAD NX NA
        generalize f (k * 2 + 1) = q at g1 r1 BAD NX NA
        obtain ⟨p0, p1⟩ := r0
        obtain ⟨q0, q1⟩ := r1
        have IN := l07In_any p q
        have w0 : IntKind.i64.wrap p = p := by rw [IntKind.wrap_i64]; omega
        have w1' : IntKind.i64.wrap q = q := by rw [IntKind.wrap_i64]; omega
        cases hb : inB p q
        · rw [hb] at IN
          have RN := BAD.out hb
          have hoq : Hid (∀ m, Calls Try.prog 46 #[.int .i64 p, .int .i64 q] (wr.drewN m) fun e w'' => e = .returned (.bool false) ∧ ∃ q, w'' = wr.drewN q) := Lib.hid fun m => (IN _).mono fun e w' ⟨h1, h2⟩ => ⟨h1, m, h2.symm⟩
          clear BAD NX NA hb IN
          go_wp2
          go_quiet ((go_at_call 46; exact hoq.out _))
          go_wp2_with (refine wpList_store_row rfl 26 _ _ rfl w.heap.size (M16 zI) rfl rfl 26 _ L0.out (mask_info _ rfl) rfl (arr_cells _ _ _) ?_)
          refine bodyPost_ret (v := .tuple #[.agg (M16 zI), .int .i64 2]) ?_ rfl ⟨by rw [RN.1, RN.2], ?_⟩
          · exact results_cell_tmp_row Try.results16 _ _ w.heap.size _ _ _ _ rfl (setRow_heap _ _ _ _ _ _ L0.out) Try.underlying26 rfl (mask_info _ (arr_size _ _ _))
          · exact below_setRow (mdrewN LB.out _) (Nat.le_refl _) _
        · rw [hb] at IN
          have hoq : Hid (∀ m, Calls Try.prog 46 #[.int .i64 p, .int .i64 q] (wr.drewN m) fun e w'' => e = .returned (.bool true) ∧ ∃ q, w'' = wr.drewN q) := Lib.hid fun m => (IN _).mono fun e w' ⟨h1, h2⟩ => ⟨h1, m, h2.symm⟩
          have NB := Lib.hid (NA.out hb)
          obtain ⟨x, y, rfl, rfl, hx, hy⟩ := inB_nat hb
          simp only [Int.toNat_natCast] at NX
          have hx' : (x : Int) < 16 := by omega
          have hy' : (y : Int) < 16 := by omega
          have MS := shl1 hx
          have HY := Lib.hid hy
          clear BAD NA hb IN hx hy
          go_wp2
          go_quiet ((go_at_call 46; exact hoq.out _))
          have D1 : Hid ((wr.drewN nq).heap[w.heap.size + 1]? = some (.cells (M16 (moF f k)) 26 (0, 0))) := L1
          have D0 : Hid ((wr.drewN nq).heap[w.heap.size]? = some (.cells #[Value.int .u16 0, Value.int .u16 0, Value.int .u16 0, Value.int .u16 0, Value.int .u16 0, Value.int .u16 0, Value.int .u16 0, Value.int .u16 0, Value.int .u16 0, Value.int .u16 0, Value.int .u16 0, Value.int .u16 0, Value.int .u16 0, Value.int .u16 0, Value.int .u16 0, Value.int .u16 0] 26 (0, 0))) := L0
          have DB : Hid (Below w.heap.size w (wr.drewN nq)) := Lib.hid (mdrewN LB.out _)
          have d0 : (wr.drewN nq).cell? ⟨g, off + k * 2, none⟩ = some (.int .i32 (x : Int)) := g0
          have d1 : (wr.drewN nq).cell? ⟨g, off + k * 2 + 1, none⟩ = some (.int .i32 (y : Int)) := g1
          have hcy : (wr.drewN nq).cell? ⟨w.heap.size + 1, y, none⟩ = some (.int .u16 (moF f k y)) := (Lib.cell_of_heap L1.out y).trans (arr_get _ _ _ _ HY.out)
          have hfy : (wr.drewN nq).frozen? ⟨w.heap.size + 1, y, none⟩ = false := Lib.frozen_of_heap L1.out y
          clear g0 g1 L1 L0 LB hoq
          generalize wr.drewN nq = w5 at D1 D0 DB d0 d1 hcy hfy ⊢
          have wu : IntKind.u64.wrap (x : Int) = (x : Int) := by rw [IntKind.wrap_u64]; omega
          go_wp2
          go_still_tail 16, (by kernel_rfl)
          change wpList _ _ _ _ _ w5.drew
          have E1 : Hid (w5.drew.heap[w.heap.size + 1]? = some (.cells (M16 (moF f k)) 26 (0, 0))) := D1
          have E0 : Hid (w5.drew.heap[w.heap.size]? = some (.cells #[Value.int .u16 0, Value.int .u16 0, Value.int .u16 0, Value.int .u16 0, Value.int .u16 0, Value.int .u16 0, Value.int .u16 0, Value.int .u16 0, Value.int .u16 0, Value.int .u16 0, Value.int .u16 0, Value.int .u16 0, Value.int .u16 0, Value.int .u16 0, Value.int .u16 0, Value.int .u16 0] 26 (0, 0))) := D0
          have EB : Hid (Below w.heap.size w w5.drew) := Lib.hid DB.out.drew
          have ey : w5.drew.cell? ⟨w.heap.size + 1, y, none⟩ = some (.int .u16 (moF f k y)) := hcy
          have ef : w5.drew.frozen? ⟨w.heap.size + 1, y, none⟩ = false := hfy
          clear D1 D0 DB d0 d1 hcy hfy
          generalize w5.drew = w6 at E1 E0 EB ey ef ⊢
          go_wp2
          go_roundw
          case rel => exact ⟨k + 1, HK.out, by go_num, NB.out, by rw [NX.out]; exact (mset_at E1.out y _).trans (by rw [arr_set _ _ _ _ _ HY.out]; rfl), (mset_far (by omega) _).trans E0.out, EB.out.setCell (p := ⟨w.heap.size + 1, y, none⟩) (by simp) _⟩
          case measure => have := HK.out; simp [intOf]; omega
      · obtain rfl : k = n := by omega
        have RN := ma_yes (f := f) (n := k) ⟨HN.out, HA.out⟩
        clear hlt hk HA
        go_wp2_with (first | (refine wpList_load_row rfl 26 _ rfl (w.heap.size + 1) rfl 26 _ _ _ L1.out Try.underlying26 rfl (mask_info _ (arr_size _ _ _)) ?_) | (refine wpList_store_row rfl 26 _ _ rfl w.heap.size (M16 (moF f k)) rfl rfl 26 _ L0.out (mask_info _ rfl) rfl (arr_cells _ _ _) ?_))
        refine bodyPost_ret (v := .tuple #[.agg (M16 (moF f k)), .int .i64 0]) ?_ rfl ⟨by rw [RN.1, RN.2], ?_⟩
        · exact results_cell_tmp_row Try.results16 _ _ w.heap.size _ _ _ _ rfl (setRow_heap _ _ _ _ _ _ L0.out) Try.underlying26 rfl (mask_info _ (arr_size _ _ _))
        · exact below_setRow LB.out (Nat.le_refl _) _
end Go.Proofs.Ytandgjjfiniboaa
