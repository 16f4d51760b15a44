/-
  CONTRACT: (Mask).moved, whatever function tells where a cell goes.
-/
import Derived.Test.YtandgjjfiniboaaMm
namespace Go.Proofs.Ytandgjjfiniboaa
open Go.ChangeShapes Go.WideShapes Go.ChangeAt Go.RowKit Go.Shelf
attribute [local go_sem] Oper.semAt_some
theorem keeps_setRow {W : World} {g : Nat} {A : Array Value} {t : TypeId} (h : W.heap[g]? = some (.cells A t (0, 0))) (cs : Array Value) : KeepsOthers W (W.setRow g cs) :=
  ⟨by rw [size_setRow]; exact Nat.le_refl _, fun k o hk ho => (setRow_other W g k cs (fun e => by subst e; rw [h] at hk; cases hk; cases ho)).trans hk⟩
abbrev tfT : TypeId := 67
set_option maxRecDepth 100000 in
set_option maxHeartbeats 8000000 in
theorem imoved_in (F : Fence) (hF : F = Fence.wide) (n : Nat) (hn : 3 ≤ n) (tf : Nat) (tb : Array Value) (eg : ∀ args w, (callFunc tf args).run Try.prog w = .ok (.enter tf args) w) (mv : Nat → Nat → Int × Int) (f : Nat → Int) (hf : MB f) (w : World)
    (TO : ∀ (x y : Nat), x < 16 → y < 16 → ∀ W, Below w.heap.size w W → Calls Try.prog tf (#[.int .i64 (x : Int), .int .i64 (y : Int)] ++ tb) W fun e W' => e = .returned (.tuple #[.int .i64 (mv x y).1, .int .i64 (mv x y).2]) ∧ ∃ q, W' = W.drewN q) :
    CallsIn F n Try.prog 62 #[.agg (M16 f), .func (.func tf) #[] tb] w fun e w' => e = .returned (.agg (M16 (mvF true mv (cellL f)))) ∧ Below w.heap.size w w' := by
  have h0 : F.fn 62 := by rw [hF]; trivial
  have h1 : F.fn 52 := by rw [hF]; trivial
  have h2 : F.fn 70 := by rw [hF]; trivial
  have h3 : F.fn 48 := by rw [hF]; trivial
  have h4 : F.fn 49 := by rw [hF]; trivial
  have h5 : F.fn tf := by rw [hF]; trivial
  have hro : F.round = none := by rw [hF]; rfl
  have hn1 : 1 ≤ n := by omega
  have MC : Hid (∀ W m, CallsIn F m Try.prog 52 #[.agg (M16 f)] W fun e w' => e = .returned (.func (.func 70) #[] #[.pointer (some ⟨W.heap.size, 0, none⟩)]) ∧ w' = W.alloc (.cells (M16 f) 26)) := Lib.hid fun W m => by rw [hF]; exact callsIn_wide.2 (mcells_any f W)
  have Z : M16 zI = #[Value.int .u16 0, Value.int .u16 0, Value.int .u16 0, Value.int .u16 0, Value.int .u16 0, Value.int .u16 0, Value.int .u16 0, Value.int .u16 0, Value.int .u16 0, Value.int .u16 0, Value.int .u16 0, Value.int .u16 0, Value.int .u16 0, Value.int .u16 0, Value.int .u16 0, Value.int .u16 0] := rfl
  have S0 : ((((w.alloc (.cells (M16 f) 26)).alloc (.cells #[.func (.func tf) #[] tb] tfT)).alloc (.cells (M16 zI) 26)).alloc (.cells (M16 zI) 26)).heap[w.heap.size]? = some (.cells (M16 f) 26 (0, 0)) :=
    (Below.heap_alloc _ _ _ (by first | (simp; done) | (simp; omega))).trans ((Below.heap_alloc _ _ _ (by first | (simp; done) | (simp; omega))).trans ((Below.heap_alloc _ _ _ (by simp)).trans (World.alloc_heap_new w _)))
  have S1 : ((((w.alloc (.cells (M16 f) 26)).alloc (.cells #[.func (.func tf) #[] tb] tfT)).alloc (.cells (M16 zI) 26)).alloc (.cells (M16 zI) 26)).heap[w.heap.size + 1]? = some (.cells #[.func (.func tf) #[] tb] tfT (0, 0)) := by
    refine (Below.heap_alloc _ _ _ (by first | (simp; done) | (simp; omega))).trans ((Below.heap_alloc _ _ _ (by simp)).trans ?_)
    have := World.alloc_heap_new (w.alloc (.cells (M16 f) 26)) (.cells #[.func (.func tf) #[] tb] tfT)
    rw [World.size_alloc] at this
    exact this
  have S2 : ((((w.alloc (.cells (M16 f) 26)).alloc (.cells #[.func (.func tf) #[] tb] tfT)).alloc (.cells (M16 zI) 26)).alloc (.cells (M16 zI) 26)).heap[w.heap.size + 1 + 1]? = some (.cells (M16 zI) 26 (0, 0)) := by
    refine (Below.heap_alloc _ _ _ (by simp)).trans ?_
    have := World.alloc_heap_new ((w.alloc (.cells (M16 f) 26)).alloc (.cells #[.func (.func tf) #[] tb] tfT)) (.cells (M16 zI) 26)
    rw [World.size_alloc, World.size_alloc] at this
    exact this
  have S3 : ((((w.alloc (.cells (M16 f) 26)).alloc (.cells #[.func (.func tf) #[] tb] tfT)).alloc (.cells (M16 zI) 26)).alloc (.cells (M16 zI) 26)).heap[w.heap.size + 1 + 1 + 1]? = some (.cells (M16 zI) 26 (0, 0)) := by
    have := World.alloc_heap_new (((w.alloc (.cells (M16 f) 26)).alloc (.cells #[.func (.func tf) #[] tb] tfT)).alloc (.cells (M16 zI) 26)) (.cells (M16 zI) 26)
    rw [World.size_alloc, World.size_alloc, World.size_alloc] at this
    exact this
  have SB : Below w.heap.size w ((((w.alloc (.cells (M16 f) 26)).alloc (.cells #[.func (.func tf) #[] tb] tfT)).alloc (.cells (M16 zI) 26)).alloc (.cells (M16 zI) 26)) := ((((Below.refl _ w).alloc (Nat.le_refl _) _).alloc (by simp) _).alloc (by first | (simp; done) | (simp; omega)) _).alloc (by first | (simp; done) | (simp; omega)) _
  have SZ : ((((w.alloc (.cells (M16 f) 26)).alloc (.cells #[.func (.func tf) #[] tb] tfT)).alloc (.cells (M16 zI) 26)).alloc (.cells (M16 zI) 26)).heap.size = w.heap.size + 1 + 1 + 1 + 1 := by simp
  have H0 := Lib.hid S0
  have H1 := Lib.hid S1
  have H2 := Lib.hid S2
  have H3 := Lib.hid S3
  have HB := Lib.hid SB
  have HZ := Lib.hid SZ
  have HF := Lib.hid hF
  have HMF := Lib.hid hf
  have HTO := Lib.hid TO
  have HEG := Lib.hid eg
  clear S0 S1 S2 S3 SB SZ hf TO eg hF
  rw [Z] at H0 H1 H2 H3 HB HZ
  clear Z
  refine callsIn_of_wp_marks Try.func62 rfl h0 ?_ hro
  simp only [Try.ntmps62, List.size_toArray, List.length_cons, List.length_nil, Nat.reduceAdd, Nat.reduceSub, Array.replicate_succ, Array.replicate_zero, List.push_toArray, List.append_toArray, List.nil_append, List.cons_append]
  gi_wp2_with (refine wpListIn_load_row rfl 26 _ rfl w.heap.size rfl 26 _ _ _ H0.out Try.underlying26 rfl (mask_info _ (arr_size _ _ _)) ?_)
  generalize (((w.alloc (.cells (M16 f) 26)).alloc (.cells #[.func (.func tf) #[] tb] tfT)).alloc (.cells #[Value.int .u16 0, Value.int .u16 0, Value.int .u16 0, Value.int .u16 0, Value.int .u16 0, Value.int .u16 0, Value.int .u16 0, Value.int .u16 0, Value.int .u16 0, Value.int .u16 0, Value.int .u16 0, Value.int .u16 0, Value.int .u16 0, Value.int .u16 0, Value.int .u16 0, Value.int .u16 0] 26)).alloc (.cells #[Value.int .u16 0, Value.int .u16 0, Value.int .u16 0, Value.int .u16 0, Value.int .u16 0, Value.int .u16 0, Value.int .u16 0, Value.int .u16 0, Value.int .u16 0, Value.int .u16 0, Value.int .u16 0, Value.int .u16 0, Value.int .u16 0, Value.int .u16 0, Value.int .u16 0, Value.int .u16 0] 26) = w1 at H0 H1 H2 H3 HB HZ ⊢
  refine (MC.out _ _).mono ?_
  rintro e w2 ⟨rfl, rfl⟩
  gi_wp2
  have G0 : Hid ((w1.alloc (.cells (M16 f) 26)).heap[w1.heap.size]? = some (.cells (M16 f) 26 (0, 0))) := Lib.hid (World.alloc_heap_new w1 _)
  have G1 : Hid ((w1.alloc (.cells (M16 f) 26)).heap[w.heap.size + 1]? = some (.cells #[.func (.func tf) #[] tb] tfT (0, 0))) := Lib.hid ((Below.heap_alloc _ _ _ (by have := HZ.out; omega)).trans H1.out)
  have G2 : Hid ((w1.alloc (.cells (M16 f) 26)).heap[w.heap.size + 1 + 1]? = some (.cells #[Value.int .u16 0, Value.int .u16 0, Value.int .u16 0, Value.int .u16 0, Value.int .u16 0, Value.int .u16 0, Value.int .u16 0, Value.int .u16 0, Value.int .u16 0, Value.int .u16 0, Value.int .u16 0, Value.int .u16 0, Value.int .u16 0, Value.int .u16 0, Value.int .u16 0, Value.int .u16 0] 26 (0, 0))) := Lib.hid ((Below.heap_alloc _ _ _ (by have := HZ.out; omega)).trans H2.out)
  have G3 : Hid ((w1.alloc (.cells (M16 f) 26)).heap[w.heap.size + 1 + 1 + 1]? = some (.cells (M16 (mvF true mv [])) 26 (0, 0))) := Lib.hid ((Below.heap_alloc _ _ _ (by have := HZ.out; omega)).trans H3.out)
  have GB : Hid (Below w.heap.size w (w1.alloc (.cells (M16 f) 26))) := Lib.hid (HB.out.alloc (by have := HZ.out; omega) _)
  have GZ : Hid ((w1.alloc (.cells (M16 f) 26)).heap.size = w.heap.size + 1 + 1 + 1 + 1 + 1) := Lib.hid (by have := HZ.out; simp; omega)
  have GE := Lib.hid HZ.out
  generalize w1.alloc (.cells (M16 f) 26) = w2 at G0 G1 G2 G3 GB GZ ⊢
  generalize w1.heap.size = bm at G0 GE ⊢
  clear H0 H1 H2 H3 HB HZ MC w1
  refine wpIn_rangeFunc_ownG hro hn1 (gf := 70) (lb := #[.pointer (some ⟨bm, 0, none⟩)]) rfl h2 (enters_of Try.func70 (by kernel_rfl) rfl)
    (mcells_stops F HF.out (n - 1) (by omega) bm f HMF.out w2 G0.out) KpM.trans (KpM.put (by have := GZ.out; have := GE.out; omega)) (Below.refl _ _) (fun _ => rfl)
    (fun pre W => W.heap[bm]? = some (.cells (M16 f) 26 (0, 0)) ∧ W.heap[w.heap.size + 1]? = some (.cells #[.func (.func tf) #[] tb] tfT (0, 0)) ∧ W.heap[w.heap.size + 1 + 1]? = some (.cells #[Value.int .u16 0, Value.int .u16 0, Value.int .u16 0, Value.int .u16 0, Value.int .u16 0, Value.int .u16 0, Value.int .u16 0, Value.int .u16 0, Value.int .u16 0, Value.int .u16 0, Value.int .u16 0, Value.int .u16 0, Value.int .u16 0, Value.int .u16 0, Value.int .u16 0, Value.int .u16 0] 26 (0, 0)) ∧ W.heap[w.heap.size + 1 + 1 + 1]? = some (.cells (M16 (mvF true mv pre)) 26 (0, 0)) ∧ Below w.heap.size w W)
    (fun _ _ _ => False)
    (OwnFrom.and (Own.from (heap_own bm 26 (fun _ => M16 f)) _) (OwnFrom.and (Own.from (heap_own (w.heap.size + 1) tfT (fun _ => #[.func (.func tf) #[] tb])) _) (OwnFrom.and (Own.from (heap_own (w.heap.size + 1 + 1) 26 (fun _ => #[Value.int .u16 0, Value.int .u16 0, Value.int .u16 0, Value.int .u16 0, Value.int .u16 0, Value.int .u16 0, Value.int .u16 0, Value.int .u16 0, Value.int .u16 0, Value.int .u16 0, Value.int .u16 0, Value.int .u16 0, Value.int .u16 0, Value.int .u16 0, Value.int .u16 0, Value.int .u16 0])) _) (OwnFrom.and (Own.from (heap_own (w.heap.size + 1 + 1 + 1) 26 (fun pre => M16 (mvF true mv pre))) _) (ownFrom_below (Nat.le_refl _) (by have := GZ.out; omega))))))
    (fun c => Own.from (own_pure (fun _ => False)) _)
    ⟨G0.out, G1.out, G2.out, G3.out, GB.out⟩
    (fun c => { tmps := #[.agg (M16 f), .func (.func tf) #[] tb, .pointer (some ⟨w.heap.size, 0, none⟩), .pointer (some ⟨w.heap.size + 1, 0, none⟩), .pointer (some ⟨w.heap.size + 1 + 1, 0, none⟩), .pointer (some ⟨w.heap.size + 1 + 1 + 1, 0, none⟩), .int .i64 (c.1.1 : Int), .int .i64 (c.1.2 : Int), undef, undef, .agg (M16 f), .func (.func 70) #[] #[.pointer (some ⟨bm, 0, none⟩)], .int .i64 (c.1.1 : Int), .int .i64 (c.1.2 : Int), undef, undef, undef, undef, undef, undef, undef, undef, undef, undef, undef, undef, undef, undef, undef], defers := [] }) ?assign ?body ?done ?stop
  case assign =>
    intro ll x W K hK
    gi_wp2
    exact hK
  case body =>
    rintro ll pre ⟨⟨x, y⟩, hx, hy⟩ W ⟨hP, hT, hR, hM, hB⟩ hlen
    have eg := HEG.out
    have cT : W.cell? ⟨w.heap.size + 1, 0, none⟩ = some (.func (.func tf) #[] tb) := Lib.cell_of_heap hT 0
    have TO1 : Hid (∀ m, CallsIn (F.inRound ll) m Try.prog tf (#[.int .i64 (x : Int), .int .i64 (y : Int)] ++ tb) W fun e W' => e = .returned (.tuple #[.int .i64 (mv x y).1, .int .i64 (mv x y).2]) ∧ ∃ q, W' = W.drewN q) := Lib.hid fun m => CallsIn.inRound ll (by rw [HF.out]; exact callsIn_wide.2 (HTO.out x y hx hy W hB))
    have IS : Hid (∀ (a b : Int) W m, CallsIn (F.inRound ll) m Try.prog 48 #[.int .i64 a, .int .i64 b] W fun e w' => e = .returned (.bool (inB a b)) ∧ W = w') := Lib.hid fun a b W m => CallsIn.inRound ll (by rw [HF.out]; exact callsIn_wide.2 (isIn_any a b W))
    have MG := mvF_MB true mv pre
    have HP := Lib.hid hP
    have HT := Lib.hid hT
    have HR := Lib.hid hR
    have HM := Lib.hid hM
    have HB := Lib.hid hB
    clear hP hT hR hM hB
    have E1 : Hid (∀ u v, mv x y = (u, v) → inB u v = false → mvF true mv (pre ++ [⟨(x, y), hx, hy⟩]) = mvF true mv pre) := Lib.hid fun u v h1 h2 => by rw [mvF_snoc]; unfold mvS; rw [h1, if_neg (by rw [h2]; simp)]
    have E2 : Hid (∀ u v, mv x y = (u, v) → inB u v = true → mvF true mv (pre ++ [⟨(x, y), hx, hy⟩]) = withF (mvF true mv pre) u.toNat v.toNat true) := Lib.hid fun u v h1 h2 => by rw [mvF_snoc]; unfold mvS; rw [h1, if_pos h2, if_pos rfl]
    generalize mvF true mv pre = g at MG HM E1 E2
    have hd : 1 ≤ n - 1 - 1 := by omega
    have HX := Lib.hid hx
    have HY := Lib.hid hy
    clear cT hlen
    have cT : W.cell? ⟨w.heap.size + 1, 0, none⟩ = some (.func (.func tf) #[] tb) := Lib.cell_of_heap HT.out 0
    have BE := Lib.hid GE.out
    obtain ⟨⟨u, v⟩, hp⟩ : ∃ p, mv x y = p := ⟨_, rfl⟩
    have F1 := Lib.hid (E1.out u v hp)
    have F2 := Lib.hid (E2.out u v hp)
    rw [hp] at TO1
    have HIN := IS.out u v
    clear hp E1 E2
    cases hin : inB u v
    · have NG := Lib.hid (F1.out hin)
      have IN := Lib.hid HIN
      rw [hin] at IN
      clear HIN hin F1 F2
      gi_wp2_with (first | ((with_reducible refine (TO1.out _).mono ?_); rintro e w' ⟨rfl, q, rfl⟩) | ((with_reducible refine (IN.out _ _).mono ?_); rintro e w' ⟨rfl, rfl⟩))
      exact ⟨(show KeepsOthers W (W.drewN q) from ⟨Nat.le_refl _, fun _ _ h _ => h⟩).from _, ⟨Nat.le_refl _, rfl⟩, HP.out, HT.out, HR.out, by rw [NG.out]; exact HM.out, mdrewN HB.out q⟩
    · obtain ⟨a, b, rfl, rfl, ha, hb⟩ := inB_nat hin
      have NG := Lib.hid (F2.out hin)
      rw [Int.toNat_natCast, Int.toNat_natCast] at NG
      have IN := Lib.hid HIN
      rw [hin] at IN
      have MW : Hid (∀ W m, CallsIn (F.inRound ll) m Try.prog 49 #[.agg (M16 g), .int .i64 (a : Int), .int .i64 (b : Int), .bool true] W fun e w' => e = .returned (.agg (M16 (withF g a b true))) ∧ Below W.heap.size W w') := Lib.hid fun W m => CallsIn.inRound ll (by rw [HF.out]; exact callsIn_wide.2 (mwith_any g MG a b ha hb true W))
      clear HIN hin F1 F2 ha hb MG
      gi_wp2_with (first | ((with_reducible refine (TO1.out _).mono ?_); rintro e w' ⟨rfl, q, rfl⟩) | ((with_reducible refine (IN.out _ _).mono ?_); rintro e w' ⟨rfl, rfl⟩) | (refine wpListIn_load_row rfl 26 _ rfl (w.heap.size + 1 + 1 + 1) rfl 26 _ _ _ HM.out Try.underlying26 rfl (mask_info _ (arr_size _ _ _)) ?_))
      refine (MW.out _ _).mono ?_
      rintro e W2 ⟨rfl, b2⟩
      have L2 : ∀ k o, W.heap[k]? = some o → W2.heap[k]? = some o := fun k o h => (b2.block k (Array.getElem?_eq_some_iff.1 h).1).trans h
      have P2 := Lib.hid (L2 _ _ HP.out)
      have T2 := Lib.hid (L2 _ _ HT.out)
      have R2 := Lib.hid (L2 _ _ HR.out)
      have M2 := Lib.hid (L2 _ _ HM.out)
      have B2 : Hid (Below w.heap.size w W2) := Lib.hid ((mdrewN HB.out q).trans (b2.mono HB.out.size))
      have K2 : Hid (KeepsOthers W W2) := Lib.hid ⟨b2.size, fun k o h _ => L2 k o h⟩
      have S2 : Hid (W.heap.size ≤ W2.heap.size) := Lib.hid b2.size
      clear b2 L2
      gi_wp2_with (refine wpListIn_store_row rfl 26 _ _ rfl (w.heap.size + 1 + 1 + 1) (M16 (withF g a b true)) rfl rfl 26 _ M2.out (mask_info _ rfl) (by rw [arr_size, arr_size]) (arr_cells _ _ _) ?_)
      have hbm : bm ≠ w.heap.size + 1 + 1 + 1 := by have := BE.out; omega
      exact ⟨(K2.out.trans (keeps_setRow M2.out _)).from _, ⟨by rw [size_setRow]; exact S2.out, (setRow_other _ _ _ _ hbm).trans (P2.out.trans HP.out.symm)⟩, (setRow_other _ _ _ _ hbm).trans P2.out, (setRow_other _ _ _ _ (by omega)).trans T2.out, (setRow_other _ _ _ _ (by omega)).trans R2.out, by rw [NG.out]; exact setRow_heap _ _ _ _ _ _ M2.out, below_setRow B2.out (by omega) _⟩
  case done =>
    rintro D ys W hD hys ⟨hP, hT, hR, hM, hB⟩ hK
    rw [hys] at hM
    have hD2 : w.heap.size + 1 + 1 + 1 + 1 + 1 ≤ D := by have := GZ.out; omega
    have HAS : Hid ((M16 (mvF true mv (cellL f))).size = 16) := Lib.hid (arr_size _ _ _)
    have HAC : Hid ((M16 (mvF true mv (cellL f))).all (·.oneCell') = true) := Lib.hid (arr_cells _ _ _)
    obtain ⟨A, hA⟩ : ∃ A, M16 (mvF true mv (cellL f)) = A := ⟨_, rfl⟩
    rw [hA] at hM HAS HAC
    have EA := Lib.hid hA
    clear hA
    have HM := Lib.hid hM
    have HR := Lib.hid hR
    have HK2 : Hid ((W.setRow (w.heap.size + 1 + 1) A).heap[D]? = some (.deferred (some []))) := Lib.hid ((setRow_other _ _ _ _ (by omega)).trans hK)
    have HR2 : Hid ((W.setRow (w.heap.size + 1 + 1) A).heap[w.heap.size + 1 + 1]? = some (.cells A 26 (0, 0))) := Lib.hid (setRow_heap _ _ _ _ _ _ hR)
    have HB2 : Hid (Below w.heap.size w (W.setRow (w.heap.size + 1 + 1) A)) := Lib.hid (below_setRow hB (by omega) _)
    clear hP hT hR hM hB hK hys
    gi_wp2_with (first | (refine wpListIn_load_row rfl 26 _ rfl (w.heap.size + 1 + 1 + 1) rfl 26 _ _ _ HM.out Try.underlying26 rfl (mask_info _ HAS.out) ?_) | (refine wpListIn_store_row rfl 26 _ _ rfl (w.heap.size + 1 + 1) A rfl rfl 26 _ HR.out (mask_info _ HAS.out) (by rw [HAS.out]; rfl) HAC.out ?_))
    refine ⟨by simp, .inl ⟨_, _, rfl, run_takeDeferred HK2.out, ?_⟩⟩
    refine ⟨_, results_cell_row Try.results62 _ _ (w.heap.size + 1 + 1) 26 A (0, 0) _ rfl ?_ Try.underlying26 rfl (mask_info _ HAS.out), by rw [EA.out], ?_⟩
    · exact (World.putObj_heap_other (by omega)).trans HR2.out
    · exact HB2.out.trans (belowK_b (w := w) (Nat.le_refl _) _ D _ _ (by omega) HK2.out rfl rfl)
  case stop =>
    rintro D c pre W _ _ h _
    exact h.elim
end Go.Proofs.Ytandgjjfiniboaa
