/-
  (Mask).cells once more: what comes is known to be a set cell.
-/
import Derived.Test.YthfmkejdpflpcaaIt
namespace Go.Proofs.Ythfmkejdpflpcaa
open Go.ChangeShapes Go.WideShapes Go.ChangeAt Go.RowKit Go.Shelf
attribute [local go_sem] Oper.semAt_some
/-- a set cell of a mask -/
abbrev ClF (f : Nat → Int) := { c : Cl // hasF f c.1.1 c.1.2 = true }
set_option maxRecDepth 100000 in
set_option maxHeartbeats 4000000 in
theorem mcells1H (F : Fence) (hF : F = Fence.wide) (n : Nat) (hn : 1 ≤ n) (ll Bm : Nat) (f : Nat → Int) (hf : MB f) (J Jx : List (ClF f) → World → Prop) (hJa : ∀ pre W o, J pre W → J pre (W.alloc o))
    (hY : ∀ pre x W, J pre W → pre.length < 256 → YieldAt F (n - 1) Try.prog ll (clV x.1) W fun e W' =>
      (e = .returned (.bool true) ∧ J (pre ++ [x]) W' ∧ KpM Bm W W') ∨ (e = .returned (.bool false) ∧ Jx (pre ++ [x]) W'))
    (W : World) (hBm : W.heap[Bm]? = some (.cells (M16 f) 71 (0, 0))) (h0 : J [] W) :
    CallsIn F n Try.prog 139 #[.func (.yield ll) #[] #[], .pointer (some ⟨Bm, 0, none⟩)] W fun e W' => (∃ v, e = .returned v) ∧
      ((∃ ys : List (ClF f), ys.map Subtype.val = cellL f ∧ J ys W') ∨ (∃ pre, Jx pre W')) := by
  have h7 : F.fn 139 := by rw [hF]; trivial
  have h9 : F.fn 114 := by rw [hF]; trivial
  have hro : F.round = none := by rw [hF]; rfl
  have MH : Hid (∀ (x y : Nat), x < 16 → y < 16 → ∀ (w : World) (m : Nat), CallsIn F m Try.prog 114 #[.agg (M16 f), .int .i64 (x : Int), .int .i64 (y : Int)] w fun e w' => e = .returned (.bool (hasF f x y)) ∧ w' = w.alloc (.cells (M16 f) 71)) :=
    Lib.hid fun x y hx hy w m => by rw [hF]; exact callsIn_wide.2 (mhas_any f hf x y hx hy w)
  have JA := Lib.hid hJa
  have BM := Lib.hid hBm
  have CZ := Lib.hid (cellK_zero f)
  clear hF hf hBm hJa
  refine callsIn_of_wp Try.func139 rfl h7 ?_ hro
  simp only [Try.ntmps139, List.size_toArray, List.length_cons, List.length_nil, Nat.reduceAdd, Nat.reduceSub, Array.replicate_succ, Array.replicate_zero, List.push_toArray, List.append_toArray, List.nil_append, List.cons_append]
  gi_wp2
  gi_loopw [5] (fun i wr => ∃ y : Nat, y ≤ 16 ∧ i = .int .i64 y ∧ (∃ ys : List (ClF f), ys.map Subtype.val = cellK f (16 * y) ∧ J ys wr) ∧ KpM Bm W wr)
    (fun i _ => 16 - (intOf i).toNat)
  case atStart => exact ⟨0, by omega, rfl, ⟨[], CZ.out.symm, h0⟩, KpM.refl _ _⟩
  case round =>
    obtain ⟨y, hy, rfl, hJ, hB⟩ := hrel
    have HB := Lib.hid hB
    have HJ := Lib.hid hJ
    clear hB hJ h0
    by_cases hlt : y < 16
    · have ty : (y : Int) < 16 := by omega
      have HY := Lib.hid hlt
      clear hlt hy
      gi_wp2
      gi_loopw [8] (fun i w2 => ∃ x : Nat, x ≤ 16 ∧ i = .int .i64 x ∧ (∃ ys : List (ClF f), ys.map Subtype.val = cellK f (16 * y + x) ∧ J ys w2) ∧ KpM Bm W w2)
        (fun i _ => 16 - (intOf i).toNat)
      case atStart => exact ⟨0, by omega, rfl, HJ.out, HB.out⟩
      case round =>
        obtain ⟨x, hx, rfl, hJ2, hB2⟩ := hrel
        have HB2 := Lib.hid hB2
        have HJ2 := Lib.hid hJ2
        clear hB2 hJ2 HJ HB
        by_cases hlx : x < 16
        · have tx : (x : Int) < 16 := by omega
          have HX := Lib.hid hlx
          have MH2 := Lib.hid (MH.out x y hlx HY.out)
          have RW : Hid (wr.heap[Bm]? = some (.cells (M16 f) 71 (0, 0))) := Lib.hid (HB2.out.2.trans BM.out)
          have NB : Hid (Bm < wr.heap.size) := Lib.hid (Array.getElem?_eq_some_iff.1 RW.out).1
          cases hc : hasF f x y
          · rw [hc] at MH2
            have NX := Lib.hid (cellK_no hlx HY.out hc)
            clear hc
            gi_wp2_with (first | (refine wpListIn_skip (by rfl) (by rfl) ?_) | (refine wpListIn_load_row rfl 71 _ rfl Bm rfl 71 _ _ _ RW.out Try.underlying71 rfl (mask_info _ (arr_size _ _ _)) ?_) | (gi_at_call 114; refine (MH2.out _ _).mono ?_; rintro e w' ⟨rfl, rfl⟩))
            go_roundw
            case rel => exact ⟨x + 1, HX.out, by go_num, (by obtain ⟨ys, e, hj⟩ := HJ2.out; exact ⟨ys, by rw [← Nat.add_assoc, NX.out]; exact e, JA.out _ _ _ hj⟩), HB2.out.alloc NB.out _⟩
            case measure => have := HX.out; simp [intOf]; omega
          · rw [hc] at MH2
            have NX := Lib.hid (cellK_yes hlx HY.out hc)
            obtain ⟨ys, eys, hjy⟩ := HJ2.out
            have LN : Hid (ys.length < 256) := Lib.hid (by have h1 := cellK_len f (16 * y + x); have := HY.out; rw [← eys, List.length_map] at h1; omega)
            have EYS := Lib.hid eys
            have HC := Lib.hid hc
            obtain ⟨fn, tmps, assign, body, hy', hYR⟩ := hY ys ⟨⟨(x, y), hlx, HY.out⟩, HC.out⟩ (wr.alloc (.cells (M16 f) 71)) (JA.out _ _ _ hjy) LN.out
            clear hc hjy eys
            gi_wp2_with (first | (refine wpListIn_load_row rfl 71 _ rfl Bm rfl 71 _ _ _ RW.out Try.underlying71 rfl (mask_info _ (arr_size _ _ _)) ?_) | (gi_at_call 114; refine (MH2.out _ _).mono ?_; rintro e w' ⟨rfl, rfl⟩))
            refine hYR.mono ?_
            rintro e W3 (⟨rfl, hJ3, hk3⟩ | ⟨rfl, hJx3⟩)
            · have HJ3 : Hid (∃ ys : List (ClF f), ys.map Subtype.val = cellK f (16 * y + x + 1) ∧ J ys W3) := Lib.hid ⟨ys ++ [⟨⟨(x, y), HX.out, HY.out⟩, HC.out⟩], by rw [NX.out, List.map_append, EYS.out]; rfl, hJ3⟩
              have HB3 := Lib.hid ((HB2.out.alloc NB.out _).trans hk3)
              clear hJ3 hk3
              gi_wp2
              go_roundw
              case rel => exact ⟨x + 1, HX.out, by go_num, HJ3.out, HB3.out⟩
              case measure => have := HX.out; simp [intOf]; omega
            · have NJ : Hid (∃ pre, Jx pre W3) := Lib.hid ⟨_, hJx3⟩
              clear hJx3
              gi_wp2
              refine bodyPost_ret (results_none rfl _ _ _) rfl ?_
              exact ⟨⟨_, rfl⟩, .inr NJ.out⟩
        · obtain rfl : x = 16 := by omega
          clear hlx hx
          gi_wp2
          go_roundw
          case rel => exact ⟨y + 1, HY.out, by go_num, by rw [show 16 * (y + 1) = 16 * y + 16 by omega]; exact HJ2.out, HB2.out⟩
          case measure => have := HY.out; simp [intOf]; omega
    · obtain rfl : y = 16 := by omega
      clear hlt hy
      gi_wp2
      go_end0
      exact ⟨⟨_, rfl⟩, .inl HJ.out⟩
/-- ALL SET CELLS COME, row by row. -/
theorem mcells_stopsH (F : Fence) (hF : F = Fence.wide) (n : Nat) (hn : 1 ≤ n) (Bm : Nat) (f : Nat → Int) (hf : MB f) (w : World) (hBm : w.heap[Bm]? = some (.cells (M16 f) 71 (0, 0))) :
    SeqStopsK F n Try.prog 139 #[.pointer (some ⟨Bm, 0, none⟩)] (fun c : ClF f => clV c.1) (KpM Bm) (fun ys => ys.map Subtype.val = cellL f) (fun _ => True) 256 w := fun L J Jx W hW hJ _ hY h0 => by
  have hb : Bm < w.heap.size := (Array.getElem?_eq_some_iff.1 hBm).1
  refine (mcells1H F hF n hn L Bm f hf J Jx (fun pre W o h => hJ _ _ _ none h (World.grownBy_alloc W o none) (fun r e => by cases e)) hY W ((hW.block _ hb).trans hBm) h0).mono ?_
  rintro e W' ⟨he, ⟨ys, e1, hj⟩ | ⟨pre, hj⟩⟩
  · exact ⟨he, .inl ⟨_, e1, hj⟩⟩
  · exact ⟨he, .inr ⟨_, trivial, hj⟩⟩
end Go.Proofs.Ythfmkejdpflpcaa
