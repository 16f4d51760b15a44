/-
  CONTRACTS: PictureFile by the program.
-/
import Derived.Test.YthfmkejdpflpcaaPfb
namespace Go.Proofs.Ythfmkejdpflpcaa
open Go.ChangeShapes Go.WideShapes Go.ChangeAt Go.RowKit
theorem keep_rowP {base : Nat} {v : Value} {n : Nat} {q : Nat → Int} {w w' : World} (h : OwnU base v n q w) {g : Nat} {A : Array Value} {T : TypeId} {fr : Nat × Nat} (hA : w.heap[g]? = some (.cells A T fr)) (hT : T ≠ 5) (hg : w.grownBy w' v.ownBlock) : w'.heap[g]? = some (.cells A T fr) := by
  refine (hg.block g (Array.getElem?_eq_some_iff.1 hA).1 (fun e => ?_)).trans hA
  rcases h.2 with ⟨rfl, _⟩ | ⟨g2, cap, cur, rfl, _, hq, _⟩
  · cases e
  · simp [Value.ownBlock] at e
    subst e
    rw [hA] at hq
    simp at hq
    exact hT hq.2.1
set_option maxRecDepth 8000 in
theorem appendWord_g (v : Value) (n : Nat) (q : Nat → Int) (base r : Nat) (w : World) (hn : n ≤ 10000000) (hb : base ≤ w.heap.size) (ho : OwnU base v n q w) :
    Calls Try.prog 175 #[v, .int .u32 (r : Int)] w fun e w' => ∃ v', e = .returned v' ∧ OwnU base v' (n + 4) (catU q n (byW r)) w' ∧ Below base w w' ∧ ∀ (g : Nat) (A : Array Value) (T : TypeId) (fr : Nat × Nat), w.heap[g]? = some (.cells A T fr) → T ≠ 5 → w'.heap[g]? = some (.cells A T fr) := by
  have HO := Lib.hid ho
  have HB := Lib.hid hb
  have KP : Hid (∀ w', (w.alloc (.cells #[.int .u8 ((r : Int) / 16777216 % 256), .int .u8 ((r : Int) / 65536 % 256), .int .u8 ((r : Int) / 256 % 256), .int .u8 ((r : Int) % 256)] 5)).grownBy w' v.ownBlock → ∀ (g : Nat) (A : Array Value) (T : TypeId) (fr : Nat × Nat), w.heap[g]? = some (.cells A T fr) → T ≠ 5 → w'.heap[g]? = some (.cells A T fr)) := Lib.hid fun w' hg g A T fr hA hT => keep_rowP (ho.alloc _) ((Below.heap_alloc _ _ _ (Array.getElem?_eq_some_iff.1 hA).1).trans hA) hT hg
  clear ho hb
  go_enter Try.func175, Try.ntmps175
  go_wp2_with (at_builtin; refine wpList_append_uP rfl (.tmp 5) (.tmp 17) rfl base v n q rfl (HO.out.alloc _) w.heap.size 0 4 4 (byW r) rfl (fun j hj => by rw [Nat.zero_add]; have := cells4_at w r j _ (rowU_get _ _ _ hj); rwa [Go.WideShapes.add_plain, Nat.zero_add] at this) (by omega) (by have := HB.out; simp; omega) w ((Below.refl base w).alloc HB.out _) ?_; intro v' w' h1 h2 h3; have H1 := Lib.hid h1; have H2 := Lib.hid h2; have H3 := Lib.hid (KP.out _ h3); clear h1 h2 h3)
  go_ret
  exact ⟨_, rfl, H1.out, H2.out, H3.out⟩
set_option maxRecDepth 100000 in
set_option maxHeartbeats 8000000 in
theorem packedP_any (a : Option Addr) (n cap : Nat) (f : Nat → Int) (w : World) (hn : n ≤ 64) (h : BlR w.heap.size w a n f) (hf : BlF n f) :
    Calls Try.prog 212 #[.slice a n cap] w fun e w' => ∃ v, e = .returned (.tuple #[.int .i64 (n : Int), v]) ∧ OwnU w.heap.size v (pfN f n) (pfB f n) w' ∧ Below w.heap.size w w' := by
  have nI : (n : Int) ≤ 64 := by omega
  have N64 := Lib.hid hn
  have HR := Lib.hid h
  have FU := Lib.hid (fun v n q base r w hn hb ho => appendWord_g v n q base r w hn hb ho)
  have PM : Hid (∀ k, k < n → ∀ W, Calls Try.prog 155 #[.agg (M16 (mkF f k))] W fun e w' => ∃ a cap, e = .returned (.slice a (mpN (mkF f k)) cap) ∧ YrL W.heap.size w' a (mpN (mkF f k)) (mpB (mkF f k)) ∧ Below W.heap.size W w') := Lib.hid fun k hk W => (ipack_any (mkF f k) (blf_mk hf hk) W).mono fun e w' h => PmPost.own h
  have PL := Lib.hid (pfN_le f)
  have ST := Lib.hid (pfB_step f)
  have SN := Lib.hid (pfN_step f)
  have O0 : Hid (OwnU w.heap.size (.slice none 0 0) (pfN f 0) (pfB f 0) w) := Lib.hid (OwnU.nil _ _ _)
  clear h hf hn
  go_enter Try.func212, Try.ntmps212
  go_wp2_with fail
  go_loopw [4, 12] (fun v vi wr => ∃ i : Nat, i ≤ n ∧ vi = .int .i64 (i : Int) ∧ Hid (OwnU w.heap.size v (pfN f i) (pfB f i) wr) ∧ Hid (Below w.heap.size w wr)) (fun _ vi _ => n - (intOf vi).toNat)
  case atStart => exact ⟨0, Nat.zero_le _, rfl, O0, Lib.hid (Below.refl _ _)⟩
  case round =>
    rename World => wq
    obtain ⟨i, hi, rfl, O6, B6⟩ := hrel
    clear O0
    by_cases hlt : i < n
    · have ti : (i : Int) < (n : Int) := by omega
      have HI := Lib.hid hlt
      obtain ⟨g, off, rfl, hg, hc⟩ : ∃ g off, a = some ⟨g, off, none⟩ ∧ g < w.heap.size ∧ ∀ j, j < 18 * n → w.cell? ⟨g, off + j, none⟩ = some (bcell f j) := by
        rcases HR.out with h | h
        · omega
        · exact h
      have HCB : Hid (∀ j v, (blk f i)[j]? = some v → wq.cell? ⟨g, off + i * 18 + j, none⟩ = some v) := Lib.hid fun j v e => by
        have hj : j < 18 := by
          have := (Array.getElem?_eq_some_iff.1 e).1
          rwa [blk_size] at this
        rw [B6.out.cell (p := ⟨g, off + i * 18 + j, none⟩) hg, Nat.add_assoc, hc (i * 18 + j) (by omega), ← blk_get f i j hj]
        exact e
      have A18 : Hid ((blk f i).size = 18) := Lib.hid (blk_size f i)
      have AO : Hid ((blk f i).all (·.oneCell') = true) := Lib.hid (bl_one _ _ _)
      have AC : Hid (∀ j v, (#[Value.int .i32 (f (i * 18)), .int .i32 (f (i * 18 + 1))] : Array Value)[j]? = some v → (blk f i)[0 + j]? = some v) := Lib.hid fun j v e => bl_co _ _ (mkF f i) j v e
      have AM : Hid (∀ j v, (M16 (mkF f i))[j]? = some v → (blk f i)[2 + j]? = some v) := Lib.hid fun j v e => bl_mask _ _ (mkF f i) j v e
      have M16S : Hid ((M16 (mkF f i)).size = 16) := Lib.hid (arr_size _ _ _)
      have ASZ : Hid ((blk f i).size = (#[Value.int .i32 0, Value.int .i32 0, Value.int .u16 0, Value.int .u16 0, Value.int .u16 0, Value.int .u16 0, Value.int .u16 0, Value.int .u16 0, Value.int .u16 0, Value.int .u16 0, Value.int .u16 0, Value.int .u16 0, Value.int .u16 0, Value.int .u16 0, Value.int .u16 0, Value.int .u16 0, Value.int .u16 0, Value.int .u16 0] : Array Value).size) := Lib.hid (A18.out.trans rfl)
      have PMI := Lib.hid (PM.out i hlt)
      have SNI := Lib.hid (SN.out i)
      have STI := Lib.hid (ST.out i)
      have LI : Hid (pfN f i ≤ 20000) := Lib.hid (by have := PL.out i; have := N64.out; omega)
      have ML : Hid (mpN (mkF f i) ≤ 256) := Lib.hid (mpN_le _)
      obtain ⟨A, hA⟩ : ∃ A, blk f i = A := ⟨_, rfl⟩
      rw [hA] at HCB A18 AO AC AM ASZ
      obtain ⟨M, hM⟩ : ∃ z, M16 (mkF f i) = z := ⟨_, rfl⟩
      obtain ⟨L, hL⟩ : ∃ z, mpN (mkF f i) = z := ⟨_, rfl⟩
      obtain ⟨D, hD⟩ : ∃ z, mpB (mkF f i) = z := ⟨_, rfl⟩
      rw [hM] at AM PMI M16S
      rw [hL] at PMI SNI STI ML
      rw [hD] at PMI STI
      obtain ⟨x0, hx0⟩ : ∃ z, f (i * 18) = z := ⟨_, rfl⟩
      obtain ⟨x1, hx1⟩ : ∃ z, f (i * 18 + 1) = z := ⟨_, rfl⟩
      rw [hx0] at AC STI
      rw [hx1] at AC STI
      obtain ⟨u0, hu0⟩ : ∃ z, u32N x0 = z := ⟨_, rfl⟩
      obtain ⟨u1, hu1⟩ : ∃ z, u32N x1 = z := ⟨_, rfl⟩
      have W0 : IntKind.u32.wrap x0 = (u0 : Int) := by rw [u32N_wrap, hu0]
      have W1 : IntKind.u32.wrap x1 = (u1 : Int) := by rw [u32N_wrap, hu1]
      rw [hu0, hu1] at STI
      obtain ⟨Q, hQ⟩ : ∃ z, pfB f i = z := ⟨_, rfl⟩
      obtain ⟨P, hP⟩ : ∃ z, pfN f i = z := ⟨_, rfl⟩
      rw [hQ] at STI O6
      rw [hP] at STI SNI O6 LI
      clear hA hM hL hD hx0 hx1 hu0 hu1 hQ hP hc hg hlt hi PM SN ST
      obtain ⟨w2, hw2⟩ : ∃ x, wq.alloc (.cells #[Value.int .i32 0, Value.int .i32 0, Value.int .u16 0, Value.int .u16 0, Value.int .u16 0, Value.int .u16 0, Value.int .u16 0, Value.int .u16 0, Value.int .u16 0, Value.int .u16 0, Value.int .u16 0, Value.int .u16 0, Value.int .u16 0, Value.int .u16 0, Value.int .u16 0, Value.int .u16 0, Value.int .u16 0, Value.int .u16 0] 73) = x := ⟨_, rfl⟩
      have T2 : Hid (w2.heap[wq.heap.size]? = some (.cells #[Value.int .i32 0, Value.int .i32 0, Value.int .u16 0, Value.int .u16 0, Value.int .u16 0, Value.int .u16 0, Value.int .u16 0, Value.int .u16 0, Value.int .u16 0, Value.int .u16 0, Value.int .u16 0, Value.int .u16 0, Value.int .u16 0, Value.int .u16 0, Value.int .u16 0, Value.int .u16 0, Value.int .u16 0, Value.int .u16 0] 73 (0, 0))) := Lib.hid (by rw [← hw2]; exact World.alloc_heap_new wq _)
      obtain ⟨w3, hw3⟩ : ∃ x, w2.setRow wq.heap.size A = x := ⟨_, rfl⟩
      have b3 : Below wq.heap.size wq w3 := by rw [← hw3, ← hw2]; exact below_setRow ((Below.refl _ _).alloc (Nat.le_refl _) _) (Nat.le_refl _) _
      have R3 : Hid (w3.heap[wq.heap.size]? = some (.cells A 73 (0, 0))) := Lib.hid (by rw [← hw3]; exact setRow_heap _ _ _ _ _ _ T2.out)
      have B3 : Hid (Below w.heap.size w w3) := Lib.hid (B6.out.trans (b3.mono B6.out.size))
      have O3 : Hid (OwnU w.heap.size u4 P Q w3) := Lib.hid (ownsRow_below O6.out b3)
      have OL3 := Lib.hid (World.ownsRow.lt O6.out)
      have HCC : Hid (∀ j v, (#[Value.int .i32 x0, .int .i32 x1] : Array Value)[j]? = some v → w3.cell? ⟨wq.heap.size, 0 + j, none⟩ = some v) := Lib.hid fun j v e => (Lib.cell_of_heap R3.out _).trans (AC.out j v e)
      go_wp2_with (first | (refine wpList_load_part rfl 73 _ rfl g (off + i * 18) rfl A _ HCB.out Try.underlying73 rfl (ib_info _ A18.out) ?_) | (refine wpList_store_row rfl 73 _ _ rfl wq.heap.size A rfl rfl 73 _ T2.out (ib_info _ A18.out) ASZ.out.symm AO.out ?_; rw [hw3]) | (refine wpList_load_part rfl 46 _ rfl wq.heap.size 0 rfl #[.int .i32 x0, .int .i32 x1] _ HCC.out Try.underlying46 rfl (co_info _ rfl) ?_))
      have al0 : ∀ W, (Instr.index 46 (.agg #[.int .i32 x0, .int .i32 x1]) (.int .i64 0)).run Try.prog W = .ok (.int .i32 x0) W := fun W => run_index_arr .i64 (fun j => if j = 0 then x0 else x1) 0 Try.underlying46 Try.underlying21 (by kernel_rfl) (by omega) W
      have al1 : ∀ W, (Instr.index 46 (.agg #[.int .i32 x0, .int .i32 x1]) (.int .i64 1)).run Try.prog W = .ok (.int .i32 x1) W := fun W => run_index_arr .i64 (fun j => if j = 0 then x0 else x1) 1 Try.underlying46 Try.underlying21 (by kernel_rfl) (by omega) W
      refine wp_loop_rounds 3 ?_
      rw [rounds_succ]
      go_wp2_with fail
      refine (FU.out _ P Q w.heap.size u0 w3 (by have := LI.out; omega) B3.out.size O3.out).mono ?_
      rintro e w7 ⟨v7, rfl, h7, b7, kr7⟩
      have O7 := Lib.hid h7
      have B7 := Lib.hid (B3.out.trans b7)
      have R7 := Lib.hid (kr7 _ _ _ _ R3.out (by decide))
      clear h7 b7 kr7
      go_wp2
      rw [rounds_succ]
      go_wp2_with fail
      refine (FU.out _ (P + 4) _ w.heap.size u1 w7 (by have := LI.out; omega) B7.out.size O7.out).mono ?_
      rintro e w8 ⟨v8, rfl, h7, b7, kr7⟩
      have O8 := Lib.hid h7
      have B8 := Lib.hid (B7.out.trans b7)
      have R8 := Lib.hid (kr7 _ _ _ _ R7.out (by decide))
      clear h7 b7 kr7 O7 B7 R7
      have HCM : Hid (∀ j v, M[j]? = some v → w8.cell? ⟨wq.heap.size, 2 + j, none⟩ = some v) := Lib.hid fun j v e => (Lib.cell_of_heap R8.out _).trans (AM.out j v e)
      go_wp2
      rw [rounds_succ]
      go_wp2_with (refine wpList_load_part rfl 71 _ rfl wq.heap.size 2 rfl M _ HCM.out Try.underlying71 rfl (mask_info _ M16S.out) ?_)
      refine (PMI.out w8).mono ?_
      rintro e wb ⟨ab, cb, rfl, hy, b7⟩
      have Ob : Hid (OwnU w.heap.size v8 (P + 4 + 4) (catU (catU Q P (byW u0)) (P + 4) (byW u1)) wb) := Lib.hid (ownsRow_below O8.out b7)
      have Bb : Hid (Below w.heap.size w wb) := Lib.hid (B8.out.trans (b7.mono B8.out.size))
      have Yb := Lib.hid hy
      have OL := Lib.hid (World.ownsRow.lt O8.out)
      clear hy b7 O8
      obtain ⟨l8, hl8⟩ : ∃ z, (L : Int) % 256 = z := ⟨_, rfl⟩
      have WL : IntKind.u8.wrap (L : Int) = l8 := by rw [u8_wrap_nat, hl8]
      rw [hl8] at STI
      obtain ⟨wc, hwc⟩ : ∃ x, wb.alloc (.cells #[.int .u8 l8] 5) = x := ⟨_, rfl⟩
      have bc : Below wb.heap.size wb wc := by rw [← hwc]; exact (Below.refl _ _).alloc (Nat.le_refl _) _
      have Oc : Hid (OwnU w.heap.size v8 (P + 4 + 4) (catU (catU Q P (byW u0)) (P + 4) (byW u1)) wc) := Lib.hid (ownsRow_below Ob.out bc)
      have Bc : Hid (Below w.heap.size w wc) := Lib.hid (Bb.out.trans (bc.mono Bb.out.size))
      have Cc : Hid (∀ j, j < 1 → wc.cell? ⟨wb.heap.size, 0 + j, none⟩ = some (.int .u8 ((fun _ => l8) j))) := Lib.hid fun j hj => by
        obtain rfl : j = 0 := by omega
        rw [← hwc]
        exact Lib.cell_of_heap (World.alloc_heap_new wb _) 0
      have Zc := Lib.hid Bc.out.size
      have Yc := Lib.hid (Yb.out.below bc)
      clear bc hl8 Ob
      go_wp2_with (first | (at_builtin; refine wpList_append_uP rfl _ _ rfl w.heap.size _ (P + 4 + 4) (catU (catU Q P (byW u0)) (P + 4) (byW u1)) rfl Oc.out wb.heap.size 0 1 1 (fun _ => l8) rfl Cc.out (by have := LI.out; omega) Zc.out w Bc.out ?_; intro vd wd h1 h2 h3; have Od := Lib.hid h1; have Bd := Lib.hid h2; have Yd : Hid (YrR wd.heap.size wd ab L D) := Lib.hid (Yc.out.grown h3 (fun k hk => (OL.out k hk).2)).yr; clear h1 h2 h3; obtain ⟨ve, we, hr6, O6x, G6⟩ := run_append_y 95 vd (P + 4 + 4 + 1) _ Od.out ab L cb D Yd.out (by have := LI.out; have := ML.out; omega) Bd.out.size; have Be := Lib.hid (Bd.out.trans (grown_belowU Od.out G6 Bd.out.size)); have Oe := Lib.hid O6x; clear O6x G6) | (at_builtin; refine Lib.wpList_append_run _ rfl _ _ _ _ rfl _ _ rfl rfl _ _ hr6 ?_; clear hr6))
      have Of : Hid (OwnU w.heap.size ve (pfN f (i + 1)) (pfB f (i + 1)) we) := Lib.hid (by rw [SNI.out, STI.out]; exact Oe.out)
      clear SNI STI Oe
      go_roundw
      case rel => exact ⟨i + 1, HI.out, by go_num, Of, Be⟩
      case measure => have := HI.out; simp [intOf]; omega
    · obtain rfl : i = n := by omega
      have R : Hid (OwnU w.heap.size u4 (pfN f i) (pfB f i) wq ∧ Below w.heap.size w wq) := Lib.hid ⟨O6.out, B6.out⟩
      have ti : ¬ (i : Int) < (i : Int) := by omega
      clear hlt hi
      go_wp2
      exact bodyPost_ret (v := .tuple #[.int .i64 (i : Int), u4]) (by simp [results, Try.results212, go_sem]) rfl ⟨u4, rfl, R.out⟩
end Go.Proofs.Ythfmkejdpflpcaa
