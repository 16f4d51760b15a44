/-
  CONTRACTS: CellsOf of the specification and of the program.
-/
import Derived.Test.YtandgjjfiniboaaPts
import Derived.Test.YtandgjjfiniboaaMm
import Derived.Laws.OwnMore
namespace Go.Proofs.Ytandgjjfiniboaa
open Go.ChangeShapes Go.WideShapes Go.ChangeAt Go.RowKit Go.Shelf
attribute [local go_sem] Oper.semAt_some
abbrev PT : TypeId := 48
abbrev PS : TypeId := 22
/-- the numbers of cells -/
def cellsV (l : List Cl) : List Value := l.flatMap fun c => two (c.1.1 : Int) (c.1.2 : Int)
theorem cellsV_snoc (l : List Cl) (c : Cl) : cellsV (l ++ [c]) = cellsV l ++ two (c.1.1 : Int) (c.1.2 : Int) := by simp [cellsV]
theorem info_pt : (Try.prog.info? PT).map (fun i => (i.zero, i.size, i.bytes)) = some (some (.agg #[.int .i32 0, .int .i32 0]), 2, 8) := by kernel_rfl
def CellsPost (f : Nat → Int) (w : World) (e : Ending) (w' : World) : Prop := ∃ v, e = .returned v ∧ w'.ownsRow w.heap.size PT 2 v (cellL f).length (cellsV (cellL f)) ∧ Below w.heap.size w w'
theorem own_mono {w : World} {base base' : Nat} {e : TypeId} {size : Nat} {v : Value} {n : Nat} {xs : List Value} (hb : base' ≤ base) (h : w.ownsRow base e size v n xs) : w.ownsRow base' e size v n xs := by
  obtain ⟨h1, h2⟩ := h
  refine ⟨h1, ?_⟩
  rcases h2 with h | ⟨g, cap, cur, hv, hg, h⟩
  · exact .inl h
  · exact .inr ⟨g, cap, cur, hv, Nat.le_trans hb hg, h⟩
theorem i32_nat {x : Nat} (h : x < 16) : IntKind.i32.wrap (x : Int) = (x : Int) := by simp [IntKind.wrap, IntKind.bits, IntKind.signed]; omega
set_option maxRecDepth 20000 in
set_option maxHeartbeats 2000000 in
theorem scellsOf_any (f : Nat → Int) (hf : MB f) (w : World) : Calls Try.prog 21 #[.agg (M16 f)] w (CellsPost f w) := by
  unfold CellsPost
  have CZ0 : Hid (cellsV (cellK f 0) = []) := Lib.hid rfl
  have CZ1 : Hid ((cellK f 0).length = 0) := Lib.hid rfl
  have S0 : ((w.alloc (.cells (M16 f) 26)).alloc (.cells #[] PT)).heap[w.heap.size]? = some (.cells (M16 f) 26 (0, 0)) := (Below.heap_alloc _ _ _ (by simp)).trans (World.alloc_heap_new w _)
  have SB : Below w.heap.size w ((w.alloc (.cells (M16 f) 26)).alloc (.cells #[] PT)) := ((Below.refl _ w).alloc (Nat.le_refl _) _).alloc (by simp) _
  have SO : ((w.alloc (.cells (M16 f) 26)).alloc (.cells #[] PT)).ownsRow (w.heap.size + 1) PT 2 (.slice (some ⟨w.heap.size + 1, 0, none⟩) 0 0) 0 [] := by
    have := World.ownsRow_made (base := w.heap.size + 1) (size := 2) (e := PT) (w.alloc (.cells (M16 f) 26)) #[] 0 (by simp) (by unfold maxLen; omega) rfl
    rwa [World.size_alloc] at this
  have H0 := Lib.hid S0
  have HB := Lib.hid SB
  have HO := Lib.hid SO
  have HF := Lib.hid hf
  clear S0 SB SO hf
  go_enter Try.func21, Try.ntmps21
  go_wp2
  generalize (w.alloc (.cells (M16 f) 26)).alloc (.cells #[] PT) = w1 at H0 HB HO ⊢
  go_loopw [3, 4] (fun v i wr => ∃ y : Nat, y ≤ 16 ∧ i = .int .i64 (y : Int) ∧ wr.ownsRow (w.heap.size + 1) PT 2 v (cellK f (16 * y)).length (cellsV (cellK f (16 * y))) ∧ Below w.heap.size w wr ∧ wr.heap[w.heap.size]? = some (.cells (M16 f) 26 (0, 0))) (fun _ i _ => 16 - (intOf i).toNat)
  case atStart => exact ⟨0, by omega, rfl, by rw [CZ0.out, CZ1.out]; exact HO.out, HB.out, H0.out⟩
  case round =>
    obtain ⟨y, hy, rfl, hO, hB, h0⟩ := hrel
    have KO := Lib.hid hO
    have KB := Lib.hid hB
    have K0 := Lib.hid h0
    clear hO hB h0 HO HB H0
    by_cases hlt : y < 16
    · have ty : (y : Int) < 16 := by omega
      have HY := Lib.hid hlt
      clear hlt hy
      go_wp2
      go_loopw [3, 5] (fun v i w2 => ∃ x : Nat, x ≤ 16 ∧ i = .int .i64 (x : Int) ∧ w2.ownsRow (w.heap.size + 1) PT 2 v (cellK f (16 * y + x)).length (cellsV (cellK f (16 * y + x))) ∧ Below w.heap.size w w2 ∧ w2.heap[w.heap.size]? = some (.cells (M16 f) 26 (0, 0))) (fun _ i _ => 16 - (intOf i).toNat)
      case atStart => exact ⟨0, by omega, rfl, KO.out, KB.out, K0.out⟩
      case round =>
        obtain ⟨x, hx, rfl, hO, hB, h0⟩ := hrel
        have LO := Lib.hid hO
        have LB := Lib.hid hB
        have L0 := Lib.hid h0
        clear hO hB h0 KO KB K0
        by_cases hlx : x < 16
        · have tx : (x : Int) < 16 := by omega
          have HX := Lib.hid hlx
          have MH := Lib.hid (l07Has_any w.heap.size f HF.out x y hlx HY.out wr ((Lib.cell_of_heap L0.out y).trans (arr_get _ _ _ _ HY.out)))
          cases hc : hasF f x y
          · have NX := Lib.hid (cellK_no hlx HY.out hc)
            rw [hc] at MH
            clear hc hlx hx
            go_wp2_with ((with_reducible refine MH.out.mono ?_); rintro e w' ⟨rfl, rfl⟩)
            go_roundw
            case rel => exact ⟨x + 1, HX.out, by go_num, by rw [← Nat.add_assoc, NX.out]; exact LO.out, LB.out, L0.out⟩
            case measure => have := HX.out; simp [intOf]; omega
          · have NX := Lib.hid (cellK_yes hlx HY.out hc)
            have NV : Hid (cellsV (cellK f (16 * y + x + 1)) = cellsV (cellK f (16 * y + x)) ++ two (x : Int) (y : Int)) := Lib.hid (by rw [NX.out, cellsV_snoc])
            have NL : Hid ((cellK f (16 * y + x + 1)).length = (cellK f (16 * y + x)).length + 1) := Lib.hid (by rw [NX.out]; simp)
            have LL : Hid ((cellK f (16 * y + x)).length ≤ 1000000) := Lib.hid (by have := cellK_len f (16 * y + x); have := HY.out; omega)
            have wx := i32_nat hlx
            have wy := i32_nat HY.out
            rw [hc] at MH
            clear hc hlx hx NX
            have LZ : Hid (w.heap.size < wr.heap.size) := Lib.hid (Array.getElem?_eq_some_iff.1 L0.out).1
            generalize (cellK f (16 * y + x)).length = kn at LO NL LL
            generalize cellsV (cellK f (16 * y + x)) = xs at LO NV
            go_wp2_with (first | ((with_reducible refine MH.out.mono ?_); rintro e w' ⟨rfl, rfl⟩) | (at_builtin; refine wpList_append_pt rfl (.tmp 18) (.tmp 24) rfl (w.heap.size + 1) wr wr _ kn xs (x : Int) (y : Int) rfl _ rfl rfl LO (Lib.hid (Below.refl _ _)) LZ.out LL.out ?_; intro v' w3 hown' hbel'))
            have B3 := Lib.hid (LB.out.trans (hbel'.out.mono (by omega)))
            have G3 := Lib.hid ((hbel'.out.block w.heap.size (by omega)).trans L0.out)
            go_roundw
            case rel => exact ⟨x + 1, HX.out, by go_num, by rw [← Nat.add_assoc, NV.out, NL.out]; exact hown'.out, B3.out, G3.out⟩
            case measure => have := HX.out; simp [intOf]; omega
        · obtain rfl : x = 16 := by omega
          clear hlx hx
          go_wp2
          go_roundw
          case rel => exact ⟨y + 1, HY.out, by go_num, by rw [show 16 * (y + 1) = 16 * y + 16 by omega]; exact LO.out, LB.out, L0.out⟩
          case measure => have := HY.out; simp [intOf]; omega
    · obtain rfl : y = 16 := by omega
      clear hlt hy
      go_wp2
      go_ret
      exact ⟨_, rfl, own_mono (by omega) KO.out, KB.out⟩
theorem kpm_append {W w1 : World} {n₀ B bm : Nat} {t e T : TypeId} {size : Nat} {v : Value} {k : Nat} {xs : List Value} {tmp : Obj} {A : Array Value}
    (hv : Boxed W B t v) (hrow : W.ownsRow n₀ e size v k xs) (hP : W.heap[bm]? = some (.cells A T (0, 0))) (hTe : T ≠ e) (hB : bm ≠ B) (hgrow : (W.alloc tmp).grownBy w1 v.ownBlock) (u : Value) : KpM bm W (w1.setCell ⟨B, 0, none⟩ u) := by
  have hlt := (Array.getElem?_eq_some_iff.1 hP).1
  refine ⟨?_, ?_⟩
  · have := hgrow.size
    simp at this ⊢
    omega
  · refine (mset_far hB u).trans ((hgrow.block bm (by simp; omega) ?_).trans (Below.heap_alloc _ _ _ hlt))
    intro h
    rcases hrow.2 with ⟨rfl, _⟩ | ⟨g, cap, cur, rfl, _, hgb, _⟩
    · simp [Value.ownBlock] at h
    · obtain rfl : bm = g := by simpa [Value.ownBlock] using h
      rw [hP] at hgb
      cases hgb
      exact hTe rfl
set_option maxRecDepth 100000 in
set_option maxHeartbeats 8000000 in
theorem icellsOf_in (F : Fence) (hF : F = Fence.wide) (n : Nat) (hn : 3 ≤ n) (f : Nat → Int) (hf : MB f) (w : World) :
    CallsIn F n Try.prog 23 #[.agg (M16 f)] w (CellsPost f w) := by
  unfold CellsPost
  have h0 : F.fn 23 := by rw [hF]; trivial
  have h2 : F.fn 70 := by rw [hF]; trivial
  have hro : F.round = none := by rw [hF]; rfl
  have hn1 : 1 ≤ n := by omega
  obtain ⟨i0, hi, hz0, hz1, hz2⟩ := info_parts info_pt
  have MC : Hid (∀ W m, CallsIn F m Try.prog 52 #[.agg (M16 f)] W fun e w' => e = .returned (.func (.func 70) #[] #[.pointer (some ⟨W.heap.size, 0, none⟩)]) ∧ w' = W.alloc (.cells (M16 f) 26)) := Lib.hid fun W m => by rw [hF]; exact callsIn_wide.2 (mcells_any f W)
  have H1' : F.fn 52 := by rw [hF]; trivial
  have S0 : ((w.alloc (.cells (M16 f) 26)).alloc (.cells #[.slice none 0 0] PS)).heap[w.heap.size]? = some (.cells (M16 f) 26 (0, 0)) := (Below.heap_alloc _ _ _ (by simp)).trans (World.alloc_heap_new w _)
  have S1 : Boxed ((w.alloc (.cells (M16 f) 26)).alloc (.cells #[.slice none 0 0] PS)) (w.heap.size + 1) PS (.slice none 0 0) := by
    have := World.alloc_heap_new (w.alloc (.cells (M16 f) 26)) (.cells #[.slice none 0 0] PS)
    rw [World.size_alloc] at this
    exact this
  have SB : Below w.heap.size w ((w.alloc (.cells (M16 f) 26)).alloc (.cells #[.slice none 0 0] PS)) := ((Below.refl _ w).alloc (Nat.le_refl _) _).alloc (by simp) _
  have SZ : ((w.alloc (.cells (M16 f) 26)).alloc (.cells #[.slice none 0 0] PS)).heap.size = w.heap.size + 1 + 1 := by simp
  have H0 := Lib.hid S0
  have H1 := Lib.hid S1
  have HB := Lib.hid SB
  have HZ := Lib.hid SZ
  have HF := Lib.hid hF
  have HMF := Lib.hid hf
  clear S0 S1 SB SZ hf hF
  refine callsIn_of_wp_marks Try.func23 rfl h0 ?_ hro
  simp only [Try.ntmps23, List.size_toArray, List.length_cons, List.length_nil, Nat.reduceAdd, Nat.reduceSub, Array.replicate_succ, Array.replicate_zero, List.push_toArray, List.append_toArray, List.nil_append, List.cons_append]
  gi_wp2_with (refine wpListIn_load_row rfl 26 _ rfl w.heap.size rfl 26 _ _ _ H0.out Try.underlying26 rfl (mask_info _ (arr_size _ _ _)) ?_)
  generalize (w.alloc (.cells (M16 f) 26)).alloc (.cells #[.slice none 0 0] PS) = w1 at H0 H1 HB HZ ⊢
  refine (MC.out _ _).mono ?_
  rintro e w2 ⟨rfl, rfl⟩
  gi_wp2
  have G0 : Hid ((w1.alloc (.cells (M16 f) 26)).heap[w1.heap.size]? = some (.cells (M16 f) 26 (0, 0))) := Lib.hid (World.alloc_heap_new w1 _)
  have G1 : Hid (Boxed (w1.alloc (.cells (M16 f) 26)) (w.heap.size + 1) PS (.slice none 0 0)) := Lib.hid (H1.out.alloc _)
  have GB : Hid (Below w.heap.size w (w1.alloc (.cells (M16 f) 26))) := Lib.hid (HB.out.alloc (by have := HZ.out; omega) _)
  have GZ : Hid ((w1.alloc (.cells (M16 f) 26)).heap.size = w.heap.size + 1 + 1 + 1) := Lib.hid (by have := HZ.out; simp; omega)
  have GE := Lib.hid HZ.out
  generalize w1.alloc (.cells (M16 f) 26) = w2 at G0 G1 GB GZ ⊢
  generalize w1.heap.size = bm at G0 GE ⊢
  clear H0 H1 HB HZ MC w1
  refine wpIn_rangeFunc_ownG hro hn1 (gf := 70) (lb := #[.pointer (some ⟨bm, 0, none⟩)]) rfl h2 (enters_of Try.func70 (by kernel_rfl) rfl)
    (mcells_stops F HF.out (n - 1) (by omega) bm f HMF.out w2 G0.out) KpM.trans (KpM.put (by have := GZ.out; have := GE.out; omega)) (Below.refl _ _) (fun _ => rfl)
    (fun pre W => (∃ v, Boxed W (w.heap.size + 1) PS v ∧ W.ownsRow w.heap.size PT 2 v pre.length (cellsV pre) ∧ True) ∧ W.heap[bm]? = some (.cells (M16 f) 26 (0, 0)) ∧ Below w.heap.size w W)
    (fun _ _ _ => False)
    (OwnFrom.and (Own.from (holdsRow_own w.heap.size (w.heap.size + 1) PS PT 2 (fun pre => pre.length) (fun pre => cellsV pre) (fun pre v => True)) _) (OwnFrom.and (Own.from (heap_own bm 26 (fun _ => M16 f)) _) (ownFrom_below (Nat.le_refl _) (by have := GZ.out; omega))))
    (fun c => Own.from (own_pure (fun _ => False)) _)
    ⟨⟨_, G1.out, World.ownsRow_nil _ _ _ _, trivial⟩, G0.out, GB.out⟩
    (fun c => { tmps := #[.agg (M16 f), .pointer (some ⟨w.heap.size, 0, none⟩), .slice none 0 0, .pointer (some ⟨w.heap.size + 1, 0, none⟩), .int .i64 (c.1.1 : Int), .int .i64 (c.1.2 : Int), .agg (M16 f), .func (.func 70) #[] #[.pointer (some ⟨bm, 0, none⟩)], .int .i64 (c.1.1 : Int), .int .i64 (c.1.2 : Int), undef, undef, undef, undef, undef, undef, undef, undef, undef], defers := [] }) ?assign ?body ?done ?stop
  case assign =>
    intro ll x W K hK
    gi_wp2
    exact hK
  case body =>
    rintro ll pre ⟨⟨x, y⟩, hx, hy⟩ W ⟨⟨v, hv, hrow, -⟩, hP, hB⟩ hlen
    have hc := hv.cell
    have hf := hv.frozen
    have wx := i32_nat hx
    have wy := i32_nat hy
    have HP := Lib.hid hP
    have HB := Lib.hid hB
    have HLE : Hid (pre.length ≤ 1000000) := Lib.hid (by omega)
    have BE := Lib.hid GE.out
    have SN : Hid (cellsV (pre ++ [⟨(x, y), hx, hy⟩]) = cellsV pre ++ two (x : Int) (y : Int)) := Lib.hid (cellsV_snoc _ _)
    have SL : Hid ((pre ++ [(⟨(x, y), hx, hy⟩ : Cl)]).length = pre.length + 1) := Lib.hid (by simp)
    have hd : 1 ≤ n - 1 - 1 := by omega
    have hx' : (x : Int) < 16 := by omega
    have hy' : (y : Int) < 16 := by omega
    clear hP hB hlen
    obtain ⟨kn, hkn⟩ : ∃ kn, pre.length = kn := ⟨_, rfl⟩
    rw [hkn] at hrow SL HLE
    have HKN := Lib.hid hkn
    clear hkn
    gi_wp2_with (gi_at_builtin; refine wpListIn_append_own _ rfl (.tmp 10) (.tmp 16) PS rfl w.heap.size PT i0 (.agg #[.int .i32 0, .int .i32 0]) 2 8 Try.underlying22 hi hz0 hz1 hz2 rfl (by decide) v kn (cellsV pre) rfl (hrow.alloc _) ⟨W.heap.size, 0, none⟩ 1 1 (two (x : Int) (y : Int)) rfl rfl (two_at _ _ _ _) (two_one _ _) (by unfold maxLen; have := HLE.out; omega) (by have := HLE.out; omega) (by have := HB.out.size; simp; omega) ?_; intro v' w1 hown' hgrow _; obtain ⟨g', cap', rfl⟩ := ownsRow_succ hown'; have hkp := kpm_append hv hrow HP.out (by decide) (by have := BE.out; omega) hgrow (.slice (some ⟨g', 0, none⟩) (kn + 1) cap'); obtain ⟨hv2, hv3, hr3, hk3, hb3⟩ := hv.appended (by decide) hrow HB.out.size (by omega) hown' hgrow; have hc3 := hv2.cell; have hf3 := hv2.frozen)
    exact ⟨hk3.from _, hkp, ⟨_, hv3, by rw [SN.out, SL.out]; exact hr3⟩, hkp.2.trans HP.out, HB.out.trans hb3⟩
  case done =>
    rintro D ys W hD hys ⟨⟨v, hv, hrow, -⟩, hP, hB⟩ hK
    have hc := hv.cell
    rw [hys] at hrow
    gi_wp2
    refine ⟨by simp, .inl ⟨_, _, rfl, run_takeDeferred hK, ?_⟩⟩
    exact ⟨_, results_tmp rfl _ _ _, v, rfl, ownsRow_putObj hrow _ hK rfl, hB.trans (belowK_b (w := w) (Nat.le_refl _) W D _ _ (by have := GZ.out; omega) hK rfl rfl)⟩
  case stop =>
    rintro D c pre W _ _ h _
    exact h.elim
end Go.Proofs.Ytandgjjfiniboaa
