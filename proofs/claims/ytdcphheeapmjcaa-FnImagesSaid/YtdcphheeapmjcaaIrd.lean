/-
  CONTRACT: the program's reduced, at whatever iterator brings letters.
-/
import Derived.Test.YtdcphheeapmjcaaIsv
import Derived.Test.YtdcphheeapmjcaaGa
import Derived.RangeFuncNested
import Derived.RangeFuncCalls
import Derived.Maps.AppendAt
import Derived.Shelf.RegionOpen
import Derived.WalkSmall
import Derived.Test.YtdcphheeapmjcaaQr
namespace Go.Proofs.Ytdcphheeapmjcaa
open Go.ChangeShapes Go.WideShapes Go.ChangeAt Go.RowKit Go.Shelf
open Wd
attribute [local go_sem] Oper.semAt_some
theorem lother_in (F : Fence) (n : Nat) (h : F.fn 91) (hro : F.round = none) (c : UInt8) (hc : isL c = true) (w : World) :
    CallsIn F n Try.prog 91 #[.int .u8 (lnum c)] w fun e w' => e = .returned (.int .u8 (lnum (oth c))) ∧ w' = w := by
  rcases lcases hc with rfl | rfl | rfl | rfl | rfl | rfl | rfl | rfl
  all_goals
    refine callsIn_of_wp Try.func91 rfl h ?_ hro
    simp only [Try.ntmps91, List.size_toArray, List.length_cons, List.length_nil, Nat.reduceAdd, Nat.reduceSub, Array.replicate_succ, Array.replicate_zero, List.push_toArray, List.append_toArray, List.nil_append, List.cons_append, show lnum 97 = 0 from rfl, show lnum 65 = 1 from rfl, show lnum 98 = 2 from rfl, show lnum 66 = 3 from rfl, show lnum 99 = 4 from rfl, show lnum 67 = 5 from rfl, show lnum 100 = 6 from rfl, show lnum 68 = 7 from rfl]
    gi_wp2
    go_ret
    exact ⟨rfl, rfl⟩
/-- the letters that have come -/
def vals (pre : List Lt) : List UInt8 := pre.map Subtype.val
theorem vals_snoc (pre : List Lt) (x : Lt) : vals (pre ++ [x]) = vals pre ++ [x.1] := by simp [vals]
theorem vals_len (pre : List Lt) : (vals pre).length = pre.length := by simp [vals]
theorem redS_pop' {out : List UInt8} {c : UInt8} (h : out.getLast? = some (oth c)) : redS out c = out.dropLast := if_pos h
theorem redS_push' {out : List UInt8} {c : UInt8} (h : out.getLast? ≠ some (oth c)) : redS out c = out ++ [c] := if_neg h
theorem slice_toL (g k cap p : Nat) (hp : p ≤ k) (hk : k ≤ 4000000) (hc : k ≤ cap) (w : World) : (Instr.slice 71 (.slice (some ⟨g, 0, none⟩) k cap) none (some (.int .i64 (p : Int))) none).run Try.prog w = .ok (.slice (some ⟨g, 0, none⟩) p cap) w := by
  have hs : ∀ w, (sizeOf (Try.prog.elem 71)).run Try.prog w = .ok 1 w := fun w => by kernel_rfl
  rw [run_slice_h (P := Try.prog) (w := w) 71 (some ⟨g, 0, none⟩) k cap (by kernel_rfl) .i64 (p : Int) (by omega) (by omega), hs]
  simp [Result.andThen_ok, sliced, addr_off]
theorem OwnL.pop {base g n cap : Nat} {out : List UInt8} {w : World} (h : OwnL base (.slice (some ⟨g, 0, none⟩) (n + 1) cap) out w) (hn : out.length = n + 1) : OwnL base (.slice (some ⟨g, 0, none⟩) n cap) out.dropLast w := by
  unfold OwnL at h ⊢
  rw [hn] at h
  rw [show out.dropLast.length = n by simp [hn]]
  refine ownsRow_pop (last := (numC out).drop n) (by simp [numC_len, hn]) ?_
  have e : numC out.dropLast = (numC out).take n := by rw [List.dropLast_eq_take, hn, Nat.add_sub_cancel, numC, numC, List.map_take]
  rw [e, List.take_append_drop]
  exact h
theorem OwnL.len {base : Nat} {v : Value} {l : List UInt8} {w : World} (h : OwnL base v l w) : ∃ a cap, v = .slice a l.length cap := by
  rcases h.2 with ⟨rfl, h0⟩ | ⟨g, cap, cur, rfl, _⟩
  · exact ⟨none, 0, by rw [h0]⟩
  · exact ⟨_, cap, rfl⟩
set_option maxRecDepth 100000 in
set_option maxHeartbeats 4000000 in
theorem ireduced_in (F : Fence) (n : Nat) (h73 : F.fn 70) (h70 : F.fn 91) (hro : F.round = none) (hn : 3 ≤ n) (gf : Nat) (lb : Array Value) (hFg : F.fn gf)
    (eg : ∀ args w, (callFunc gf args).run Try.prog w = .ok (.enter gf args) w) (l : List UInt8) (hm : l.length ≤ 4000000) (w : World)
    (hseq : SeqStopsK F (n - 1) Try.prog gf lb (fun x : Lt => #[Value.int .u8 (lnum x.1)]) (Below w.heap.size) (fun ys => vals ys = l) (fun _ => True) l.length w) :
    CallsIn F n Try.prog 70 #[.func (.func gf) #[] lb] w fun e w' => ∃ v, e = .returned v ∧ OwnL w.heap.size v (red l) w' ∧ Below w.heap.size w w' := by
  have h1 : 1 ≤ n := by omega
  obtain ⟨i0, hi, hz0, hz1, hz2⟩ := info_parts info_let
  refine callsIn_of_wp_marks Try.func70 rfl h73 ?_ hro
  simp only [Try.ntmps70, List.size_toArray, List.length_cons, List.length_nil, Nat.reduceAdd, Nat.reduceSub, Array.replicate_succ, Array.replicate_zero, List.push_toArray, List.append_toArray, List.nil_append, List.cons_append]
  gi_wp2
  have bO := Boxed.new w 71 (.slice none 0 0)
  have hB0 : Below w.heap.size w (w.alloc (.cells #[.slice none 0 0] 71)) := (Below.refl _ w).alloc (Nat.le_refl _) _
  refine wpIn_rangeFunc_ownG hro h1 (gf := gf) (lb := lb) rfl hFg eg hseq belowK_t (belowK_b (by simp)) hB0 (fun _ => rfl)
    (fun pre W => (∃ v, Boxed W w.heap.size 71 v ∧ W.ownsRow w.heap.size 84 1 v (red (vals pre)).length (numC (red (vals pre))) ∧ True) ∧ Below w.heap.size w W)
    (fun _ _ _ => False)
    (OwnFrom.and (Own.from (holdsRow_own w.heap.size w.heap.size 71 84 1 (fun pre => (red (vals pre)).length) (fun pre => numC (red (vals pre))) (fun pre v => True)) _) (ownFrom_below (Nat.le_refl _) (by simp)))
    (fun _ _ _ _ _ hs _ _ => hs)
    ⟨⟨_, bO, World.ownsRow_nil _ _ _ _, trivial⟩, hB0⟩
    (fun x => { tmps := #[.func (.func gf) #[] lb, undef, .slice none 0 0, .pointer (some ⟨w.heap.size, 0, none⟩), .int .u8 (lnum x.1), undef, .func (.func gf) #[] lb, .int .u8 (lnum x.1), undef, undef, undef, undef, undef, undef, undef, undef, undef, undef, undef, undef, undef, undef, undef, undef, undef, undef, undef, undef, undef, undef], defers := [] }) ?assign ?body ?done ?stop
  case assign =>
    intro ll x W K hK
    gi_wp2
    exact hK
  case body =>
    rintro ll pre x W ⟨⟨v, hv, hrow, -⟩, hB⟩ hlt
    obtain ⟨c, IL⟩ := x
    have hO : OwnL w.heap.size v (red (vals pre)) W := hrow
    have hc := hv.cell
    have hf := hv.frozen
    obtain ⟨a0, cap0, rfl⟩ := hO.len
    have hpl : (red (vals pre)).length ≤ pre.length := by have := red_length (vals pre); rw [vals_len] at this; exact this
    have RK : red (vals (pre ++ [⟨c, IL⟩])) = redS (red (vals pre)) c := by rw [vals_snoc, red_snoc]
    have hmx : Try.prog.follows .mixedOrders = true := by kernel_rfl
    clear hO
    generalize red (vals pre) = out at hv hrow hc hpl RK
    cases hn0 : out.length with
    | zero =>
      obtain rfl : out = [] := List.length_eq_zero_iff.1 hn0
      simp only [List.length_nil] at hv hrow hc
      gi_wp2
      refine wpIn_region_quiet_r hmx (by kernel_rfl) ?_
      repeat (gi_big_quiet_step ((gi_at_call 91; refine CallsIn.quiet_of_same (CallsIn.inRound ll (lother_in F _ h70 hro _ IL _)))))
      refine wpQuietIn_nil ?_
      intro _ hw'
      obtain ⟨nq, hw''⟩ := hw'
      subst hw''
      generalize hW : W.drewN nq = W1
      have hv1 : Boxed W1 w.heap.size 71 (.slice a0 0 cap0) := by rw [← hW]; exact hv
      have hr1 : W1.ownsRow w.heap.size 84 1 (.slice a0 0 cap0) 0 (numC []) := by rw [← hW]; exact hrow
      have hB1 : Below w.heap.size w W1 := by rw [← hW]; exact below_drewN hB nq
      have hk1 : KeepsOthers W W1 := by rw [← hW]; exact ⟨Nat.le_refl _, fun _ _ h _ => h⟩
      have hb1 : Below w.heap.size W W1 := by rw [← hW]; exact below_drewN (Below.refl _ _) nq
      clear hW hv hrow hB hc hf
      have RN : red (vals (pre ++ [⟨c, IL⟩])) = [c] := by rw [RK]; exact redS_push' (by simp)
      clear RK
      have hc1 := hv1.cell
      have hf1 := hv1.frozen
      gi_wp2_with (gi_at_builtin; refine wpListIn_append_own _ rfl _ _ 71 rfl w.heap.size 84 i0 (.int .u8 0) 1 1 Try.underlying71 hi hz0 hz1 hz2 rfl (by decide) _ _ _ rfl (hr1.alloc _) ⟨W1.heap.size, 0, none⟩ 1 1 [.int .u8 (lnum c)] rfl rfl (cell_one_new _ _ _) (by simp [Value.oneCell']) (by unfold maxLen; omega) (by omega) (by have := hB1.size; simp; omega) ?_; intro v' w1 hown' hgrow _; obtain ⟨g', cap', rfl⟩ := ownsRow_succ hown'; obtain ⟨hv2, hv3, hr3, hk3, hb3⟩ := hv1.appended (by decide) hr1 hB1.size (Nat.le_refl _) hown' hgrow; have hc3 := hv2.cell; have hf3 := hv2.frozen)
      exact ⟨(hk1.trans hk3).from _, hb1.trans hb3, ⟨_, hv3, by rw [RN]; exact hr3, trivial⟩, hB1.trans hb3⟩
    | succ m =>
      obtain ⟨z, hz⟩ : ∃ z, out.getLast? = some z := by
        cases h : out.getLast? with
        | none => rw [List.getLast?_eq_none_iff] at h; rw [h] at hn0; cases hn0
        | some z => exact ⟨z, rfl⟩
      rw [hn0] at hv hrow hc hpl
      obtain ⟨g, rfl⟩ : ∃ g, a0 = some ⟨g, 0, none⟩ := by
        obtain ⟨g', cap', e⟩ := ownsRow_succ hrow
        cases e; exact ⟨g', rfl⟩
      have hcap : m + 1 ≤ cap0 := by
        rcases hrow.2 with ⟨h, h0⟩ | ⟨g', cap', cur, h, h1, h2, h3, _⟩
        · omega
        · cases h; omega
      have CZ : W.cell? ⟨g, m, none⟩ = some (.int .u8 (lnum z)) := by
        have hm1 : m < out.length := by omega
        have := World.ownsRow.cells hrow (g := g) rfl m _ (numC_at out m hm1)
        rw [addr_off, Nat.zero_add] at this
        rw [List.getLast?_eq_getElem?, hn0, Nat.add_sub_cancel, List.getElem?_eq_getElem hm1] at hz
        rw [Option.some.inj hz] at this
        exact this
      have hm' : (m : Int) ≤ 3999999 := by omega
      have hd : 1 ≤ n - 1 - 1 := by omega
      have h70' : (F.inRound ll).fn 91 := h70
      by_cases hq : z = oth c
      · have RN : red (vals (pre ++ [⟨c, IL⟩])) = out.dropLast := by rw [RK]; exact redS_pop' (by rw [hz, hq])
        have t3 : (lnum z == lnum (oth c)) = true := by rw [hq]; simp
        have hsl := slice_toL g (m + 1) cap0 m (by omega) (by omega) hcap
        clear RK hz hq
        gi_wp2
        refine wpIn_region_quiet_r hmx (by kernel_rfl) ?_
        repeat (gi_big_quiet_step ((gi_at_call 91; refine CallsIn.quiet_of_same (CallsIn.inRound ll (lother_in F _ h70 hro _ IL _)))))
        refine wpQuietIn_nil ?_
        intro _ hw'
        obtain ⟨nq, hw''⟩ := hw'
        subst hw''
        generalize hW : W.drewN nq = W1
        have hv1 : Boxed W1 w.heap.size 71 (.slice (some ⟨g, 0, none⟩) (m + 1) cap0) := by rw [← hW]; exact hv
        have hr1 : W1.ownsRow w.heap.size 84 1 (.slice (some ⟨g, 0, none⟩) (m + 1) cap0) (m + 1) (numC out) := by rw [← hW]; exact hrow
        have hB1 : Below w.heap.size w W1 := by rw [← hW]; exact below_drewN hB nq
        have hk1 : KeepsOthers W W1 := by rw [← hW]; exact ⟨Nat.le_refl _, fun _ _ h _ => h⟩
        have hb1 : Below w.heap.size W W1 := by rw [← hW]; exact below_drewN (Below.refl _ _) nq
        clear hW hv hrow hB hc hf CZ
        have hc1 := hv1.cell
        have hf1 := hv1.frozen
        gi_wp2
        have hv2 := hv1.set (.slice (some ⟨g, 0, none⟩) m cap0)
        have hr2 : W1.ownsRow w.heap.size 84 1 (.slice (some ⟨g, 0, none⟩) m cap0) m (numC out.dropLast) := by
          have := OwnL.pop (n := m) (out := out) (show OwnL w.heap.size (.slice (some ⟨g, 0, none⟩) (m + 1) cap0) out W1 by unfold OwnL; rw [hn0]; exact hr1) hn0
          unfold OwnL at this
          rwa [show out.dropLast.length = m by simp [hn0]] at this
        have hb2 : Below w.heap.size W1 (W1.setCell ⟨w.heap.size, 0, none⟩ (.slice (some ⟨g, 0, none⟩) m cap0)) := (Below.refl w.heap.size W1).setCell (p := ⟨w.heap.size, 0, none⟩) (Nat.le_refl _) _
        exact ⟨(hk1.trans (KeepsOthers.setCell _ _ _)).from _, hb1.trans hb2, ⟨_, hv2, by rw [RN, show out.dropLast.length = m by simp [hn0]]; exact hr2.kept (grownBy_setCell' W1 w.heap.size _) (.inr (hv1.not_row (by decide) hr2).symm), trivial⟩, hB1.trans hb2⟩
      · have RN : red (vals (pre ++ [⟨c, IL⟩])) = out ++ [c] := by rw [RK]; exact redS_push' (by rw [hz]; exact fun h => hq (Option.some.inj h))
        have hzl : isL z = true ∨ isL z = false := by cases isL z <;> simp
        have t3 : (lnum z == lnum (oth c)) = false := by
          rw [beq_eq_false_iff_ne]
          intro h
          rcases hzl with h1 | h1
          · exact hq (lnum_inj h1 (oth_isL IL) h)
          · have := lnum_no h1; have := lnum_yes (oth_isL IL); omega
        clear RK hz hq hzl
        gi_wp2
        refine wpIn_region_quiet_r hmx (by kernel_rfl) ?_
        repeat (gi_big_quiet_step ((gi_at_call 91; refine CallsIn.quiet_of_same (CallsIn.inRound ll (lother_in F _ h70 hro _ IL _)))))
        refine wpQuietIn_nil ?_
        intro _ hw'
        obtain ⟨nq, hw''⟩ := hw'
        subst hw''
        generalize hW : W.drewN nq = W1
        have hv1 : Boxed W1 w.heap.size 71 (.slice (some ⟨g, 0, none⟩) (m + 1) cap0) := by rw [← hW]; exact hv
        have hr1 : W1.ownsRow w.heap.size 84 1 (.slice (some ⟨g, 0, none⟩) (m + 1) cap0) (m + 1) (numC out) := by rw [← hW]; exact hrow
        have hB1 : Below w.heap.size w W1 := by rw [← hW]; exact below_drewN hB nq
        have hk1 : KeepsOthers W W1 := by rw [← hW]; exact ⟨Nat.le_refl _, fun _ _ h _ => h⟩
        have hb1 : Below w.heap.size W W1 := by rw [← hW]; exact below_drewN (Below.refl _ _) nq
        clear hW hv hrow hB hc hf CZ
        have hc1 := hv1.cell
        have hf1 := hv1.frozen
        gi_wp2_with (gi_at_builtin; refine wpListIn_append_own _ rfl _ _ 71 rfl w.heap.size 84 i0 (.int .u8 0) 1 1 Try.underlying71 hi hz0 hz1 hz2 rfl (by decide) _ _ _ rfl (hr1.alloc _) ⟨W1.heap.size, 0, none⟩ 1 1 [.int .u8 (lnum c)] rfl rfl (cell_one_new _ _ _) (by simp [Value.oneCell']) (by unfold maxLen; omega) (by omega) (by have := hB1.size; simp; omega) ?_; intro v' w1 hown' hgrow _; obtain ⟨g', cap', rfl⟩ := ownsRow_succ hown'; obtain ⟨hv2, hv3, hr3, hk3, hb3⟩ := hv1.appended (by decide) hr1 hB1.size (Nat.le_refl _) hown' hgrow; have hc3 := hv2.cell; have hf3 := hv2.frozen)
        exact ⟨(hk1.trans hk3).from _, hb1.trans hb3, ⟨_, hv3, by rw [RN, List.length_append, hn0, ← numC_snoc]; exact hr3, trivial⟩, hB1.trans hb3⟩
  case done =>
    rintro D ys W hD hys ⟨⟨v, hv, hrow, -⟩, hB⟩ hK
    have hc := hv.cell
    rw [hys] at hrow
    gi_wp2
    refine ⟨by simp, .inl ⟨_, _, rfl, run_takeDeferred hK, ?_⟩⟩
    exact ⟨_, results_tmp rfl _ _ _, v, rfl, ownsRow_putObj hrow _ hK rfl, hB.trans (belowK_b (w := w) (Nat.le_refl _) W D _ _ (by simp at hD; omega) hK rfl rfl)⟩
  case stop =>
    rintro D c pre W _ _ h _
    exact h.elim
end Go.Proofs.Ytdcphheeapmjcaa
