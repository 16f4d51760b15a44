/-
  CONTRACTS: CellsOf of the specification and of the program.
-/
import Derived.Test.YthfmkejdpflpcaaPts
import Derived.Test.YthfmkejdpflpcaaMm
import Derived.Laws.OwnMore
namespace Go.Proofs.Ythfmkejdpflpcaa
open Go.ChangeShapes Go.WideShapes Go.ChangeAt Go.RowKit Go.Shelf
attribute [local go_sem] Oper.semAt_some
abbrev PT : TypeId := 45
abbrev PS : TypeId := 22
/-- the numbers of cells -/
def cellsV (l : List Cl) : List Value := l.flatMap fun c => two (c.1.1 : Int) (c.1.2 : Int)
theorem cellsV_snoc (l : List Cl) (c : Cl) : cellsV (l ++ [c]) = cellsV l ++ two (c.1.1 : Int) (c.1.2 : Int) := by simp [cellsV]
theorem info_pt : (Try.prog.info? PT).map (fun i => (i.zero, i.size, i.bytes)) = some (some (.agg #[.int .i32 0, .int .i32 0]), 2, 8) := by kernel_rfl
def CellsPost (f : Nat → Int) (w : World) (e : Ending) (w' : World) : Prop := ∃ v, e = .returned v ∧ w'.ownsRow w.heap.size PT 2 v (cellL f).length (cellsV (cellL f)) ∧ Below w.heap.size w w'
theorem own_mono {w : World} {base base' : Nat} {e : TypeId} {size : Nat} {v : Value} {n : Nat} {xs : List Value} (hb : base' ≤ base) (h : w.ownsRow base e size v n xs) : w.ownsRow base' e size v n xs := by
  obtain ⟨h1, h2⟩ := h
  refine ⟨h1, ?_⟩
  rcases h2 with h | ⟨g, cap, cur, hv, hg, h⟩
  · exact .inl h
  · exact .inr ⟨g, cap, cur, hv, Nat.le_trans hb hg, h⟩
theorem i32_nat {x : Nat} (h : x < 16) : IntKind.i32.wrap (x : Int) = (x : Int) := by simp [IntKind.wrap, IntKind.bits, IntKind.signed]; omega
set_option maxRecDepth 20000 in
set_option maxHeartbeats 2000000 in
theorem scellsOf_any (f : Nat → Int) (hf : MB f) (w : World) : Calls Try.prog 136 #[.agg (M16 f)] w (CellsPost f w) := by
  unfold CellsPost
  have CZ0 : Hid (cellsV (cellK f 0) = []) := Lib.hid rfl
  have CZ1 : Hid ((cellK f 0).length = 0) := Lib.hid rfl
  have S0 : ((w.alloc (.cells (M16 f) 71)).alloc (.cells #[] PT)).heap[w.heap.size]? = some (.cells (M16 f) 71 (0, 0)) := (Below.heap_alloc _ _ _ (by simp)).trans (World.alloc_heap_new w _)
  have SB : Below w.heap.size w ((w.alloc (.cells (M16 f) 71)).alloc (.cells #[] PT)) := ((Below.refl _ w).alloc (Nat.le_refl _) _).alloc (by simp) _
  have SO : ((w.alloc (.cells (M16 f) 71)).alloc (.cells #[] PT)).ownsRow (w.heap.size + 1) PT 2 (.slice (some ⟨w.heap.size + 1, 0, none⟩) 0 0) 0 [] := by
    have := World.ownsRow_made (base := w.heap.size + 1) (size := 2) (e := PT) (w.alloc (.cells (M16 f) 71)) #[] 0 (by simp) (by unfold maxLen; omega) rfl
    rwa [World.size_alloc] at this
  have H0 := Lib.hid S0
  have HB := Lib.hid SB
  have HO := Lib.hid SO
  have HF := Lib.hid hf
  clear S0 SB SO hf
  go_enter Try.func136, Try.ntmps136
  go_wp2
  generalize (w.alloc (.cells (M16 f) 71)).alloc (.cells #[] PT) = w1 at H0 HB HO ⊢
  go_loopw [3, 4] (fun v i wr => ∃ y : Nat, y ≤ 16 ∧ i = .int .i64 (y : Int) ∧ wr.ownsRow (w.heap.size + 1) PT 2 v (cellK f (16 * y)).length (cellsV (cellK f (16 * y))) ∧ Below w.heap.size w wr ∧ wr.heap[w.heap.size]? = some (.cells (M16 f) 71 (0, 0))) (fun _ i _ => 16 - (intOf i).toNat)
  case atStart => exact ⟨0, by omega, rfl, by rw [CZ0.out, CZ1.out]; exact HO.out, HB.out, H0.out⟩
  case round =>
    obtain ⟨y, hy, rfl, hO, hB, h0⟩ := hrel
    have KO := Lib.hid hO
    have KB := Lib.hid hB
    have K0 := Lib.hid h0
    clear hO hB h0 HO HB H0
    by_cases hlt : y < 16
    · have ty : (y : Int) < 16 := by omega
      have HY := Lib.hid hlt
      clear hlt hy
      go_wp2
      go_loopw [3, 5] (fun v i w2 => ∃ x : Nat, x ≤ 16 ∧ i = .int .i64 (x : Int) ∧ w2.ownsRow (w.heap.size + 1) PT 2 v (cellK f (16 * y + x)).length (cellsV (cellK f (16 * y + x))) ∧ Below w.heap.size w w2 ∧ w2.heap[w.heap.size]? = some (.cells (M16 f) 71 (0, 0))) (fun _ i _ => 16 - (intOf i).toNat)
      case atStart => exact ⟨0, by omega, rfl, KO.out, KB.out, K0.out⟩
      case round =>
        obtain ⟨x, hx, rfl, hO, hB, h0⟩ := hrel
        have LO := Lib.hid hO
        have LB := Lib.hid hB
        have L0 := Lib.hid h0
        clear hO hB h0 KO KB K0
        by_cases hlx : x < 16
        · have tx : (x : Int) < 16 := by omega
          have HX := Lib.hid hlx
          have MH := Lib.hid (l07Has_any w.heap.size f HF.out x y hlx HY.out wr ((Lib.cell_of_heap L0.out y).trans (arr_get _ _ _ _ HY.out)))
          cases hc : hasF f x y
          · have NX := Lib.hid (cellK_no hlx HY.out hc)
            rw [hc] at MH
            clear hc hlx hx
            go_wp2_with ((with_reducible refine MH.out.mono ?_); rintro e w' ⟨rfl, rfl⟩)
            go_roundw
            case rel => exact ⟨x + 1, HX.out, by go_num, by rw [← Nat.add_assoc, NX.out]; exact LO.out, LB.out, L0.out⟩
            case measure => have := HX.out; simp [intOf]; omega
          · have NX := Lib.hid (cellK_yes hlx HY.out hc)
            have NV : Hid (cellsV (cellK f (16 * y + x + 1)) = cellsV (cellK f (16 * y + x)) ++ two (x : Int) (y : Int)) := Lib.hid (by rw [NX.out, cellsV_snoc])
            have NL : Hid ((cellK f (16 * y + x + 1)).length = (cellK f (16 * y + x)).length + 1) := Lib.hid (by rw [NX.out]; simp)
            have LL : Hid ((cellK f (16 * y + x)).length ≤ 1000000) := Lib.hid (by have := cellK_len f (16 * y + x); have := HY.out; omega)
            have wx := i32_nat hlx
            have wy := i32_nat HY.out
            rw [hc] at MH
            clear hc hlx hx NX
            have LZ : Hid (w.heap.size < wr.heap.size) := Lib.hid (Array.getElem?_eq_some_iff.1 L0.out).1
            generalize (cellK f (16 * y + x)).length = kn at LO NL LL
            generalize cellsV (cellK f (16 * y + x)) = xs at LO NV
            go_wp2_with (first | ((with_reducible refine MH.out.mono ?_); rintro e w' ⟨rfl, rfl⟩) | (at_builtin; refine wpList_append_pt rfl (.tmp 18) (.tmp 24) rfl (w.heap.size + 1) wr wr _ kn xs (x : Int) (y : Int) rfl _ rfl rfl LO (Lib.hid (Below.refl _ _)) LZ.out LL.out ?_; intro v' w3 hown' hbel'))
            have B3 := Lib.hid (LB.out.trans (hbel'.out.mono (by omega)))
            have G3 := Lib.hid ((hbel'.out.block w.heap.size (by omega)).trans L0.out)
            go_roundw
            case rel => exact ⟨x + 1, HX.out, by go_num, by rw [← Nat.add_assoc, NV.out, NL.out]; exact hown'.out, B3.out, G3.out⟩
            case measure => have := HX.out; simp [intOf]; omega
        · obtain rfl : x = 16 := by omega
          clear hlx hx
          go_wp2
          go_roundw
          case rel => exact ⟨y + 1, HY.out, by go_num, by rw [show 16 * (y + 1) = 16 * y + 16 by omega]; exact LO.out, LB.out, L0.out⟩
          case measure => have := HY.out; simp [intOf]; omega
    · obtain rfl : y = 16 := by omega
      clear hlt hy
      go_wp2
      go_ret
      exact ⟨_, rfl, own_mono (by omega) KO.out, KB.out⟩
theorem kpm_append {W w1 : World} {n₀ B bm : Nat} {t e T : TypeId} {size : Nat} {v : Value} {k : Nat} {xs : List Value} {tmp : Obj} {A : Array Value}
    (hv : Boxed W B t v) (hrow : W.ownsRow n₀ e size v k xs) (hP : W.heap[bm]? = some (.cells A T (0, 0))) (hTe : T ≠ e) (hB : bm ≠ B) (hgrow : (W.alloc tmp).grownBy w1 v.ownBlock) (u : Value) : KpM bm W (w1.setCell ⟨B, 0, none⟩ u) := by
  have hlt := (Array.getElem?_eq_some_iff.1 hP).1
  refine ⟨?_, ?_⟩
  · have := hgrow.size
    simp at this ⊢
    omega
  · refine (mset_far hB u).trans ((hgrow.block bm (by simp; omega) ?_).trans (Below.heap_alloc _ _ _ hlt))
    intro h
    rcases hrow.2 with ⟨rfl, _⟩ | ⟨g, cap, cur, rfl, _, hgb, _⟩
    · simp [Value.ownBlock] at h
    · obtain rfl : bm = g := by simpa [Value.ownBlock] using h
      rw [hP] at hgb
      cases hgb
      exact hTe rfl
end Go.Proofs.Ythfmkejdpflpcaa
