/-
  CONTRACTS: the program's (letters).inverse, InverseWord.
-/
import Derived.Test.YtdcphheeapmjcaaIbk
import Derived.Test.YtdcphheeapmjcaaIlr
import Derived.Laws.MakeOwn
namespace Go.Proofs.Ytdcphheeapmjcaa
open Go.ChangeShapes Go.WideShapes Go.ChangeAt Go.RowKit Go.Shelf
open Wd
attribute [local go_sem] Oper.semAt_some
/-- inverses, in the order in which they come -/
def inv_ (l : List UInt8) : List UInt8 := l.map oth
theorem step_append_l {F : Fence} {n : Nat} {ops : Array Oper} {o : Oper} {a : Act} {W : World} {K : Act → World → Prop} {Q : Exit → Act → World → Prop} {E : Prop} (hgd : o.guard = none) (s x : Operand)
    (ho : o.op = .call { callee := .builtin .append, args := #[s, x], argTypes := #[71, 71] })
    {base : Nat} (v : Value) (l : List UInt8) (c : UInt8) (hs : a.eval s = v) (hown : W.ownsRow base 84 1 v l.length (numC l)) (g : Nat) (hx : a.eval x = .slice (some ⟨g, 0, none⟩) 1 1)
    (hc : W.cell? ⟨g, 0, none⟩ = some (.int .u8 (lnum c))) (hl : l.length ≤ 100000000) (hbase : base ≤ W.heap.size)
    (h : ∀ v' w', w'.ownsRow base 84 1 v' (l.length + 1) (numC l ++ [.int .u8 (lnum c)]) → W.grownBy w' v.ownBlock → K (a.put o.dst v') w') : if Region.wanted o (yielded ops a.tmps) = true then Oper.wpIn F n Try.prog o a W K Q else E := by
  have hw : Region.wanted o (yielded ops a.tmps) = true := by simp [Region.wanted, hgd]
  rw [if_pos hw]
  obtain ⟨i0, hi, hz0, hz1, hz2⟩ := info_parts info_let
  obtain ⟨v', w', hrun, r1, r2, r3⟩ := run_append_own (P := Try.prog) W base 71 o.type 84 i0 (.int .u8 0) 1 1 Try.underlying71 hi hz0 hz1 hz2 rfl (by decide) v l.length (numC l) hown ⟨g, 0, none⟩ 1 1 [.int .u8 (lnum c)] rfl (by
    intro j u hj
    match j, hj with
    | 0, hj => simp at hj; subst hj; exact hc
    | j + 1, hj => simp at hj) (by intro u hu; simp at hu; subst hu; rfl) (by unfold maxLen; omega) (by omega) hbase
  unfold Oper.wpIn
  refine ⟨?_, ?_⟩
  · simp [Oper.about, ho, resolve, Target.leads, Sem.run_pure]
  · rw [Oper.semAt_plain F _ _ (by rw [ho]; intro c hc'; cases hc')]
    simp [execOp, ho, resolve, invoke, builtin, hs, hx, hrun, Result.andThen]
    exact h v' w' r1 r2
set_option maxRecDepth 100000 in
set_option maxHeartbeats 4000000 in
theorem linv_in (F : Fence) (n : Nat) (h42 : F.fn 76) (h69 : F.fn 104) (h84 : F.fn 117) (h70 : F.fn 91) (hro : F.round = none) (hn : 4 ≤ n)
    (v : Value) (l : List UInt8) (hl : ∀ c ∈ l, isL c = true) (hm : l.length ≤ 4000000) (w : World) (hI : LRow w.heap.size w v l)
    (hback : ∀ (a : Option Addr) (len cap : Nat) (w : World), CallsIn F (n - 1) Try.prog 104 #[.slice a len cap] w fun e w' => e = .returned (.func (.func 117) #[] #[.pointer (some ⟨w.heap.size, 0, none⟩)]) ∧ w' = w.alloc (.cells #[.slice a len cap] 71)) :
    CallsIn F n Try.prog 76 #[v] w (LetPost (inv l) w) := by
  have h1 : 1 ≤ n := by omega
  obtain ⟨a0, cap0, rfl⟩ := hI.len
  obtain ⟨i0, hi, hz0, hz1, hz2⟩ := info_parts info_let
  obtain ⟨wm, hmk, hom, hgm⟩ := run_make_own (P := Try.prog) w w.heap.size 71 84 i0 (.int .u8 0) 1 Try.underlying71 hi hz0 hz1 .i64 .i64 l.length (by rw [hz2]; omega) (by unfold maxLen; omega) (Nat.le_refl _)
  have hBm : Below w.heap.size w wm := (Below.refl _ w).grown hgm (Nat.le_refl _) (fun k hk => by cases hk)
  have hsm := hBm.size
  refine callsIn_of_wp_marks Try.func76 rfl h42 ?_ hro
  simp only [Try.ntmps76, List.size_toArray, List.length_cons, List.length_nil, Nat.reduceAdd, Nat.reduceSub, Array.replicate_succ, Array.replicate_zero, List.push_toArray, List.append_toArray, List.nil_append, List.cons_append]
  gi_wp2_with (gi_at_call 104; refine (hback _ _ _ _).mono ?_; rintro e w' ⟨rfl, rfl⟩)
  have bO := Boxed.new wm 71 (.slice (some ⟨w.heap.size, 0, none⟩) 0 l.length)
  have bS := Boxed.new (wm.alloc (.cells #[.slice (some ⟨w.heap.size, 0, none⟩) 0 l.length] 71)) 71 (.slice a0 l.length cap0)
  rw [World.size_alloc] at bS
  obtain ⟨W0, hW0⟩ : ∃ W0, (wm.alloc (.cells #[.slice (some ⟨w.heap.size, 0, none⟩) 0 l.length] 71)).alloc (.cells #[.slice a0 l.length cap0] 71) = W0 := ⟨_, rfl⟩
  have hsz : W0.heap.size = wm.heap.size + 2 := by rw [← hW0]; simp
  have bO' : Boxed W0 wm.heap.size 71 (.slice (some ⟨w.heap.size, 0, none⟩) 0 l.length) := by rw [← hW0]; exact bO.alloc _
  have hr0 : W0.ownsRow w.heap.size 84 1 (.slice (some ⟨w.heap.size, 0, none⟩) 0 l.length) 0 [] := by rw [← hW0]; exact (hom.alloc _).alloc _
  have hB0 : Below w.heap.size w W0 := by rw [← hW0]; exact (hBm.alloc hsm _).alloc (by simp; omega) _
  rw [hW0] at bS ⊢
  clear hW0 bO hmk hom hgm hBm
  refine wpIn_rangeFunc_ownG hro h1 (gf := 117) (lb := #[.pointer (some ⟨wm.heap.size + 1, 0, none⟩)]) rfl h84 (enters_of Try.func117 (by kernel_rfl) rfl)
    (lback_stops F (n - 1) h84 hro (by omega) (wm.heap.size + 1) w.heap.size (.slice a0 l.length cap0) l hl hm W0 (by omega) hB0.size bS.cell (hI.below hB0)) KpB.trans (kpB_b (by omega) (by omega)) (Below.refl _ _) (fun _ => rfl)
    (fun pre W => (∃ v, Boxed W wm.heap.size 71 v ∧ W.ownsRow w.heap.size 84 1 v (inv_ (pre.map (fun x => x.2.1))).length (numC (inv_ (pre.map (fun x => x.2.1)))) ∧ True) ∧ (Below w.heap.size w W ∧ Boxed W (wm.heap.size + 1) 71 (.slice a0 l.length cap0)))
    (fun _ _ _ => False)
    (OwnFrom.and (Own.from (holdsRow_own w.heap.size wm.heap.size 71 84 1 (fun pre : List (Int × Lt) => (inv_ (pre.map (fun x => x.2.1))).length) (fun pre => numC (inv_ (pre.map (fun x => x.2.1)))) (fun pre v => True)) _) (OwnFrom.and (ownFrom_below (Nat.le_refl _) (by omega)) (Own.from (boxed_own _ _ _) _)))
    (fun _ _ _ _ _ hs _ _ => hs)
    ⟨⟨_, bO', hr0, trivial⟩, hB0, bS⟩
    (fun x => { tmps := #[.slice a0 l.length cap0, undef, .slice none 0 0, .pointer (some ⟨wm.heap.size, 0, none⟩), undef, .int .u8 (lnum x.2.1), .slice a0 l.length cap0, .int .i64 l.length, .slice (some ⟨w.heap.size, 0, none⟩) 0 l.length, .slice a0 l.length cap0, .func (.func 117) #[] #[.pointer (some ⟨wm.heap.size + 1, 0, none⟩)], .int .i64 x.1, .int .u8 (lnum x.2.1), undef, undef, undef, undef, undef, undef], defers := [] }) ?assign ?body ?done ?stop
  case assign =>
    intro ll x W K hK
    gi_wp2
    exact hK
  case body =>
    rintro ll pre ⟨ix, c, IL⟩ W ⟨⟨v, hv, hrow, -⟩, hB, hS⟩ hlt
    have hc := hv.cell
    have hf := hv.frozen
    have hd : 1 ≤ n - 1 - 1 := by omega
    have h70' : (F.inRound ll).fn 91 := h70
    have RN : inv_ ((pre ++ [(ix, (⟨c, IL⟩ : Lt))]).map (fun x => x.2.1)) = inv_ (pre.map (fun x => x.2.1)) ++ [oth c] := by simp [inv_]
    have hmx : Try.prog.follows .mixedOrders = true := by kernel_rfl
    have hle : (inv_ (pre.map (fun x => x.2.1))).length ≤ 4000000 := by simp [inv_]; omega
    have hv1 : Boxed W.drew wm.heap.size 71 v := hv
    have hr1 : W.drew.ownsRow w.heap.size 84 1 v (inv_ (pre.map (fun x => x.2.1))).length (numC (inv_ (pre.map (fun x => x.2.1)))) := hrow
    have hr1a : (W.alloc (.cells #[.int .u8 (lnum (oth c))] 84)).drew.ownsRow w.heap.size 84 1 v (inv_ (pre.map (fun x => x.2.1))).length (numC (inv_ (pre.map (fun x => x.2.1)))) := World.ownsRow.alloc hrow _
    have hcA : (W.alloc (.cells #[.int .u8 (lnum (oth c))] 84)).cell? ⟨wm.heap.size, 0, none⟩ = some v := (hv.alloc _).cell
    have hltb : wm.heap.size < W.heap.size := hv.lt
    have hB1 : Below w.heap.size w W.drew := below_drewN hB 1
    have hk1 : KeepsOthers W W.drew := KeepsOthers.drew W
    have hb1 : Below w.heap.size W W.drew := below_drewN (Below.refl _ _) 1
    have hS1 : Boxed W.drew (wm.heap.size + 1) 71 (.slice a0 l.length cap0) := hS
    gi_wp2
    refine wpIn_region_any hmx ?_
    change wpAnyIn _ _ _ _ _ _ _ _ _ (World.drew _)
    refine wpAnyIn_ready (rs := [0, 1]) (by kernel_rfl) (by simp) ?_
    refine AllReadyIn.cons rfl (fun K hK => ?_) (AllReadyIn.cons rfl (fun K hK => ?_) (AllReadyIn.nil))
    · go_simp
      refine hK _ _ ?_
      clear hK K
      refine wpAnyIn_ready (rs := [1]) (by kernel_rfl) (by simp) ?_
      refine AllReadyIn.cons rfl (fun K hK => ?_) (AllReadyIn.nil)
      · go_simp
        refine hK _ _ ?_
        clear hK K
        refine wpAnyIn_ready (rs := [2]) (by kernel_rfl) (by simp) ?_
        refine AllReadyIn.cons rfl (fun K hK => ?_) (AllReadyIn.nil)
        · go_simp
          gi_wp2_with (gi_at_call 91; refine (CallsIn.inRound ll (lother_in F _ h70 hro _ IL _)).mono ?_; rintro e w' ⟨rfl, rfl⟩)
          try (refine hK _ _ ?_; clear hK K)
          refine wpAnyIn_ready (rs := [3]) (by kernel_rfl) (by simp) ?_
          refine AllReadyIn.cons rfl (fun K hK => ?_) (AllReadyIn.nil)
          · go_simp
            refine hK _ _ ?_
            clear hK K
            refine wpAnyIn_ready (rs := [4]) (by kernel_rfl) (by simp) ?_
            refine AllReadyIn.cons rfl (fun K hK => ?_) (AllReadyIn.nil)
            · refine step_append_l rfl (.tmp 13) (.tmp 16) rfl v (inv_ (pre.map (fun x => x.2.1))) (oth c) rfl hr1a W.heap.size rfl (by simp) (by omega) (by have := hB.size; simp; omega) ?_
              intro v' w1 hown' hgrow
              obtain ⟨g', cap', rfl⟩ := ownsRow_succ hown'
              obtain ⟨hv2, hv3, hr3, hk3, hb3⟩ := hv1.appended (tmp := .cells #[.int .u8 (lnum (oth c))] 84) (by decide) hr1 hB1.size (show w.heap.size ≤ wm.heap.size by omega) hown' hgrow
              have hS3 := ((hS1.alloc (.cells #[.int .u8 (lnum (oth c))] 84)).kept hgrow (hS1.not_row (by decide) hr1)).other (show wm.heap.size + 1 ≠ wm.heap.size by omega) (.slice (some ⟨g', 0, none⟩) ((inv_ (pre.map (fun x => x.2.1))).length + 1) cap')
              have hc3 := hv2.cell
              have hf3 := hv2.frozen
              refine hK _ _ ?_
              clear hK K
              refine wpAnyIn_ready (rs := [5]) (by kernel_rfl) (by simp) ?_
              refine AllReadyIn.cons rfl (fun K hK => ?_) (AllReadyIn.nil)
              · go_simp
                refine hK _ _ ?_
                clear hK K
                refine wpAnyIn_done (by kernel_rfl) ?_ _
                gi_wp2
                exact ⟨(hk1.trans hk3).from _, ⟨hb1.trans hb3, hS3.trans hS.symm⟩, ⟨⟨_, hv3, by rw [RN, List.length_append, ← numC_snoc]; exact hr3, trivial⟩, hB1.trans hb3, hS3⟩⟩
    · go_simp
      refine hK _ _ ?_
      clear hK K
      refine wpAnyIn_ready (rs := [0, 2]) (by kernel_rfl) (by simp) ?_
      refine AllReadyIn.cons rfl (fun K hK => ?_) (AllReadyIn.cons rfl (fun K hK => ?_) (AllReadyIn.nil))
      · go_simp
        refine hK _ _ ?_
        clear hK K
        refine wpAnyIn_ready (rs := [2]) (by kernel_rfl) (by simp) ?_
        refine AllReadyIn.cons rfl (fun K hK => ?_) (AllReadyIn.nil)
        · go_simp
          gi_wp2_with (gi_at_call 91; refine (CallsIn.inRound ll (lother_in F _ h70 hro _ IL _)).mono ?_; rintro e w' ⟨rfl, rfl⟩)
          try (refine hK _ _ ?_; clear hK K)
          refine wpAnyIn_ready (rs := [3]) (by kernel_rfl) (by simp) ?_
          refine AllReadyIn.cons rfl (fun K hK => ?_) (AllReadyIn.nil)
          · go_simp
            refine hK _ _ ?_
            clear hK K
            refine wpAnyIn_ready (rs := [4]) (by kernel_rfl) (by simp) ?_
            refine AllReadyIn.cons rfl (fun K hK => ?_) (AllReadyIn.nil)
            · refine step_append_l rfl (.tmp 13) (.tmp 16) rfl v (inv_ (pre.map (fun x => x.2.1))) (oth c) rfl hr1a W.heap.size rfl (by simp) (by omega) (by have := hB.size; simp; omega) ?_
              intro v' w1 hown' hgrow
              obtain ⟨g', cap', rfl⟩ := ownsRow_succ hown'
              obtain ⟨hv2, hv3, hr3, hk3, hb3⟩ := hv1.appended (tmp := .cells #[.int .u8 (lnum (oth c))] 84) (by decide) hr1 hB1.size (show w.heap.size ≤ wm.heap.size by omega) hown' hgrow
              have hS3 := ((hS1.alloc (.cells #[.int .u8 (lnum (oth c))] 84)).kept hgrow (hS1.not_row (by decide) hr1)).other (show wm.heap.size + 1 ≠ wm.heap.size by omega) (.slice (some ⟨g', 0, none⟩) ((inv_ (pre.map (fun x => x.2.1))).length + 1) cap')
              have hc3 := hv2.cell
              have hf3 := hv2.frozen
              refine hK _ _ ?_
              clear hK K
              refine wpAnyIn_ready (rs := [5]) (by kernel_rfl) (by simp) ?_
              refine AllReadyIn.cons rfl (fun K hK => ?_) (AllReadyIn.nil)
              · go_simp
                refine hK _ _ ?_
                clear hK K
                refine wpAnyIn_done (by kernel_rfl) ?_ _
                gi_wp2
                exact ⟨(hk1.trans hk3).from _, ⟨hb1.trans hb3, hS3.trans hS.symm⟩, ⟨⟨_, hv3, by rw [RN, List.length_append, ← numC_snoc]; exact hr3, trivial⟩, hB1.trans hb3, hS3⟩⟩
      · go_simp
        gi_wp2_with (gi_at_call 91; refine (CallsIn.inRound ll (lother_in F _ h70 hro _ IL _)).mono ?_; rintro e w' ⟨rfl, rfl⟩)
        try (refine hK _ _ ?_; clear hK K)
        refine wpAnyIn_ready (rs := [0, 3]) (by kernel_rfl) (by simp) ?_
        refine AllReadyIn.cons rfl (fun K hK => ?_) (AllReadyIn.cons rfl (fun K hK => ?_) (AllReadyIn.nil))
        · go_simp
          refine hK _ _ ?_
          clear hK K
          refine wpAnyIn_ready (rs := [3]) (by kernel_rfl) (by simp) ?_
          refine AllReadyIn.cons rfl (fun K hK => ?_) (AllReadyIn.nil)
          · go_simp
            refine hK _ _ ?_
            clear hK K
            refine wpAnyIn_ready (rs := [4]) (by kernel_rfl) (by simp) ?_
            refine AllReadyIn.cons rfl (fun K hK => ?_) (AllReadyIn.nil)
            · refine step_append_l rfl (.tmp 13) (.tmp 16) rfl v (inv_ (pre.map (fun x => x.2.1))) (oth c) rfl hr1a W.heap.size rfl (by simp) (by omega) (by have := hB.size; simp; omega) ?_
              intro v' w1 hown' hgrow
              obtain ⟨g', cap', rfl⟩ := ownsRow_succ hown'
              obtain ⟨hv2, hv3, hr3, hk3, hb3⟩ := hv1.appended (tmp := .cells #[.int .u8 (lnum (oth c))] 84) (by decide) hr1 hB1.size (show w.heap.size ≤ wm.heap.size by omega) hown' hgrow
              have hS3 := ((hS1.alloc (.cells #[.int .u8 (lnum (oth c))] 84)).kept hgrow (hS1.not_row (by decide) hr1)).other (show wm.heap.size + 1 ≠ wm.heap.size by omega) (.slice (some ⟨g', 0, none⟩) ((inv_ (pre.map (fun x => x.2.1))).length + 1) cap')
              have hc3 := hv2.cell
              have hf3 := hv2.frozen
              refine hK _ _ ?_
              clear hK K
              refine wpAnyIn_ready (rs := [5]) (by kernel_rfl) (by simp) ?_
              refine AllReadyIn.cons rfl (fun K hK => ?_) (AllReadyIn.nil)
              · go_simp
                refine hK _ _ ?_
                clear hK K
                refine wpAnyIn_done (by kernel_rfl) ?_ _
                gi_wp2
                exact ⟨(hk1.trans hk3).from _, ⟨hb1.trans hb3, hS3.trans hS.symm⟩, ⟨⟨_, hv3, by rw [RN, List.length_append, ← numC_snoc]; exact hr3, trivial⟩, hB1.trans hb3, hS3⟩⟩
        · go_simp
          refine hK _ _ ?_
          clear hK K
          refine wpAnyIn_ready (rs := [0]) (by kernel_rfl) (by simp) ?_
          refine AllReadyIn.cons rfl (fun K hK => ?_) (AllReadyIn.nil)
          · go_simp
            refine hK _ _ ?_
            clear hK K
            refine wpAnyIn_ready (rs := [4]) (by kernel_rfl) (by simp) ?_
            refine AllReadyIn.cons rfl (fun K hK => ?_) (AllReadyIn.nil)
            · refine step_append_l rfl (.tmp 13) (.tmp 16) rfl v (inv_ (pre.map (fun x => x.2.1))) (oth c) rfl hr1a W.heap.size rfl (by simp) (by omega) (by have := hB.size; simp; omega) ?_
              intro v' w1 hown' hgrow
              obtain ⟨g', cap', rfl⟩ := ownsRow_succ hown'
              obtain ⟨hv2, hv3, hr3, hk3, hb3⟩ := hv1.appended (tmp := .cells #[.int .u8 (lnum (oth c))] 84) (by decide) hr1 hB1.size (show w.heap.size ≤ wm.heap.size by omega) hown' hgrow
              have hS3 := ((hS1.alloc (.cells #[.int .u8 (lnum (oth c))] 84)).kept hgrow (hS1.not_row (by decide) hr1)).other (show wm.heap.size + 1 ≠ wm.heap.size by omega) (.slice (some ⟨g', 0, none⟩) ((inv_ (pre.map (fun x => x.2.1))).length + 1) cap')
              have hc3 := hv2.cell
              have hf3 := hv2.frozen
              refine hK _ _ ?_
              clear hK K
              refine wpAnyIn_ready (rs := [5]) (by kernel_rfl) (by simp) ?_
              refine AllReadyIn.cons rfl (fun K hK => ?_) (AllReadyIn.nil)
              · go_simp
                refine hK _ _ ?_
                clear hK K
                refine wpAnyIn_done (by kernel_rfl) ?_ _
                gi_wp2
                exact ⟨(hk1.trans hk3).from _, ⟨hb1.trans hb3, hS3.trans hS.symm⟩, ⟨⟨_, hv3, by rw [RN, List.length_append, ← numC_snoc]; exact hr3, trivial⟩, hB1.trans hb3, hS3⟩⟩
  case done =>
    rintro D ys W hD hys ⟨⟨v, hv, hrow, -⟩, hB, -⟩ hK
    have hc := hv.cell
    have hv2 : inv_ (ys.map (fun x => x.2.1)) = inv l := by rw [hys]; simp [inv_, inv]
    rw [hv2] at hrow
    gi_wp2
    refine ⟨by simp, .inl ⟨_, _, rfl, run_takeDeferred hK, ?_⟩⟩
    exact ⟨_, results_tmp rfl _ _ _, v, rfl, ownsRow_putObj hrow _ hK rfl, hB.trans (belowK_b (w := W0) hB0.size W D _ _ hD hK rfl rfl)⟩
  case stop =>
    rintro D c pre W _ _ h _
    exact h.elim
end Go.Proofs.Ytdcphheeapmjcaa
