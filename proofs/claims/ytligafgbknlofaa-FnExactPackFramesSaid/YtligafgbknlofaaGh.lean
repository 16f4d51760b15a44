/-
  CONTRACTS: BytesOfFrames of both sides.
-/
import Derived.Test.YtligafgbknlofaaGg
namespace Go.Proofs.Ytligafgbknlofaa
open Go.ChangeShapes Go.WideShapes Go.ChangeAt Go.RowKit
def boC (n : Nat) : Int := if 700 < n then 3 else 0
def boN (n : Nat) : Nat := if 700 < n then 0 else 16 * n
theorem boN_le (n : Nat) : boN n ≤ 1048576 := by unfold boN; split <;> omega
theorem OwnU.made (q : Nat → Int) (w : World) (base : Nat) (hb : base ≤ w.heap.size) : OwnU base (.slice (some ⟨w.heap.size, 0, none⟩) 0 0) 0 q (w.alloc (.cells #[] 5)) :=
  ⟨rfl, .inr ⟨w.heap.size, 0, #[], rfl, hb, heap_alloc_new w _, Nat.le_refl _, Nat.zero_le _, rfl, rfl⟩⟩
set_option maxRecDepth 20000 in
set_option maxHeartbeats 4000000 in
theorem sBytes_any (n : Nat) (f : Nat → Int) (a : Option Addr) (cap : Nat) (w : World) (h : FrR w.heap.size w a n f) :
    Calls Try.prog 39 #[.slice a n cap] w fun e w' => ∃ v, e = .returned (.tuple #[v, .int .i64 (boC n)]) ∧ PR 1 w.heap.size w'.heap.size w' v (boN n) (FF f) ∧ Below w.heap.size w w' := by
  have B0 : Hid (Below w.heap.size w (w.alloc (.cells #[] 5))) := Lib.hid ((Below.refl _ w).alloc (Nat.le_refl _) _)
  by_cases hn : 700 < n
  · have R : Hid (∀ (e : Ending) (w' : World), e = .returned (.tuple #[.slice (some ⟨w.heap.size, 0, none⟩) 0 0, .int .i64 3]) ∧ Below w.heap.size w w' → ∃ v, e = .returned (.tuple #[v, .int .i64 (boC n)]) ∧ PR 1 w.heap.size w'.heap.size w' v (boN n) (FF f) ∧ Below w.heap.size w w') := Lib.hid (fun e w' ⟨h1, h2⟩ => by
      have hc : boC n = 3 := if_pos hn
      have hN : boN n = 0 := if_pos hn
      exact ⟨_, by rw [h1, hc], by rw [hN]; exact PR.empty _ _ _ _ _ _ _, h2⟩)
    refine Calls.mono ?_ R.out
    have hn' : (700 : Int) < (n : Int) := by omega
    clear h hn R
    go_enter Try.func39, Try.ntmps39
    go_wp2
    go_ret2
    exact ⟨rfl, B0.out⟩
  · have R : Hid (∀ (e : Ending) (w' : World), (∃ v, e = .returned (.tuple #[v, .int .i64 0]) ∧ OwnU w.heap.size v (16 * n) f w' ∧ Below w.heap.size w w') → ∃ v, e = .returned (.tuple #[v, .int .i64 (boC n)]) ∧ PR 1 w.heap.size w'.heap.size w' v (boN n) (FF f) ∧ Below w.heap.size w w') := Lib.hid (fun e w' ⟨v, h1, h2, h3⟩ => by
      have hc : boC n = 0 := if_neg hn
      have hN : boN n = 16 * n := if_neg hn
      exact ⟨v, by rw [h1, hc], by rw [hN]; exact h2.pr, h3⟩)
    refine Calls.mono ?_ R.out
    have hn' : (n : Int) ≤ 700 := by omega
    have HN : Hid (n ≤ 700) := Lib.hid (by omega)
    have HF := Lib.hid h
    have O0 : Hid (OwnU w.heap.size (.slice (some ⟨w.heap.size, 0, none⟩) 0 0) (16 * 0) f (w.alloc (.cells #[] 5))) := Lib.hid (OwnU.made f w _ (Nat.le_refl _))
    clear h hn R
    go_enter Try.func39, Try.ntmps39
    go_wp2_with fail
    generalize w.alloc (.cells #[] 5) = w1 at O0 B0 ⊢
    go_loopw [4, 5, 6] (fun o i _ wr => ∃ k : Nat, k ≤ n ∧ i = .int .i64 (k : Int) ∧ OwnU w.heap.size o (16 * k) f wr ∧ Below w.heap.size w wr) (fun _ i _ _ => n - (intOf i).toNat)
    case atStart => exact ⟨0, Nat.zero_le _, rfl, O0.out, B0.out⟩
    case round =>
      obtain ⟨k, hk, rfl, ho, hb⟩ := hrel
      have HO := Lib.hid ho
      have HB := Lib.hid hb
      clear ho hb O0 B0
      by_cases hlt : k < n
      · obtain ⟨g, off, rfl, hg, hc⟩ : ∃ g off, a = some ⟨g, off, none⟩ ∧ g < w.heap.size ∧ ∀ j, j < 16 * n → w.cell? ⟨g, off + j, none⟩ = some (.int .u8 (f j)) := by
          rcases HF.out with h | h
          · omega
          · exact h
        have HC : Hid (∀ W, Below w.heap.size w W → ∀ j, j < 16 * n → W.cell? ⟨g, off + j, none⟩ = some (.int .u8 (f j))) := Lib.hid fun W hW j hj => (hW.cell (p := ⟨g, off + j, none⟩) hg).trans (hc j hj)
        have hlt' : (k : Int) < n := by omega
        have HK := Lib.hid hlt
        clear hlt hk hg hc
        go_wp2_with fail
        go_loopw [4, 6] (fun o i wx => ∃ j : Nat, j ≤ 16 ∧ i = .int .i64 (j : Int) ∧ OwnU w.heap.size o (16 * k + j) f wx ∧ Below w.heap.size w wx) (fun _ i _ => 16 - (intOf i).toNat)
        case atStart => exact ⟨0, by omega, rfl, HO.out, HB.out⟩
        case round =>
          obtain ⟨j, hj, rfl, ho, hb⟩ := hrel
          have HO2 := Lib.hid ho
          have HB2 := Lib.hid hb
          have WZ : Hid (w.heap.size ≤ wr.heap.size) := Lib.hid hb.size
          clear ho hb
          by_cases hjl : j < 16
          · have hjl' : (j : Int) < 16 := by omega
            have HJ := Lib.hid hjl
            have c0 : wr.cell? ⟨g, off + k * 16 + j, none⟩ = some (.int .u8 (f (16 * k + j))) := by
              have := HC.out wr HB2.out (16 * k + j) (by have := HK.out; omega)
              rw [show off + k * 16 + j = off + (16 * k + j) by omega]; exact this
            clear hjl hj
            obtain ⟨x, hx⟩ : ∃ x, f (16 * k + j) = x := ⟨_, rfl⟩
            have HX := Lib.hid hx
            rw [hx] at c0
            clear hx
            go_wp2_with (at_builtin; refine wpList_append_u rfl _ _ rfl w.heap.size _ (16 * k + j) f rfl (HO2.out.alloc _) wr.heap.size 0 1 1 (fun _ => x) rfl (fun i hi => by obtain rfl : i = 0 := (by omega); exact (World.cell?_alloc_new _ _ _ _).trans rfl) (by have := HK.out; have := HJ.out; have := HN.out; omega) (by have := WZ.out; rw [World.size_alloc]; omega) w (HB2.out.alloc WZ.out _) ?_; intro v' w' h1 h2; have H1 := Lib.hid h1; have H2 := Lib.hid h2; clear h1 h2)
            go_roundw
            case rel => exact ⟨j + 1, HJ.out, by go_num, (H1.out).congr (by rw [← HX.out]; exact catU_same), H2.out⟩
            case measure => have := HJ.out; simp [intOf]; omega
          · obtain rfl : j = 16 := by omega
            clear hjl hj
            go_wp2_with fail
            go_roundw
            case rel => exact ⟨k + 1, HK.out, by go_num, by have := HO2.out; rwa [show 16 * k + 16 = 16 * (k + 1) by omega] at this, HB2.out⟩
            case measure => have := HK.out; simp [intOf]; omega
      · obtain rfl : k = n := by omega
        clear hlt hk
        go_wp2_with fail
        go_ret2
        exact ⟨_, rfl, HO.out, HB.out⟩
set_option maxRecDepth 20000 in
set_option maxHeartbeats 4000000 in
theorem iBytes_any (n : Nat) (f : Nat → Int) (a : Option Addr) (cap : Nat) (w : World) (h : FrR w.heap.size w a n f) :
    Calls Try.prog 40 #[.slice a n cap] w fun e w' => ∃ v, e = .returned (.tuple #[v, .int .i64 (boC n)]) ∧ PR 1 w.heap.size w'.heap.size w' v (boN n) (FF f) ∧ Below w.heap.size w w' := by
  by_cases hn : 700 < n
  · have R : Hid (∀ (e : Ending) (w' : World), e = .returned (.tuple #[.slice none 0 0, .int .i64 3]) ∧ Below w.heap.size w w' → ∃ v, e = .returned (.tuple #[v, .int .i64 (boC n)]) ∧ PR 1 w.heap.size w'.heap.size w' v (boN n) (FF f) ∧ Below w.heap.size w w') := Lib.hid (fun e w' ⟨h1, h2⟩ => by
      have hc : boC n = 3 := if_pos hn
      have hN : boN n = 0 := if_pos hn
      exact ⟨_, by rw [h1, hc], by rw [hN]; exact PR.empty _ _ _ _ _ _ _, h2⟩)
    refine Calls.mono ?_ R.out
    have hn' : (700 : Int) < (n : Int) := by omega
    clear h hn R
    go_enter Try.func40, Try.ntmps40
    go_wp2
    go_ret2
    exact ⟨rfl, Below.refl _ _⟩
  · have R : Hid (∀ (e : Ending) (w' : World), (∃ v, e = .returned (.tuple #[v, .int .i64 0]) ∧ OwnU w.heap.size v (16 * n) f w' ∧ Below w.heap.size w w') → ∃ v, e = .returned (.tuple #[v, .int .i64 (boC n)]) ∧ PR 1 w.heap.size w'.heap.size w' v (boN n) (FF f) ∧ Below w.heap.size w w') := Lib.hid (fun e w' ⟨v, h1, h2, h3⟩ => by
      have hc : boC n = 0 := if_neg hn
      have hN : boN n = 16 * n := if_neg hn
      exact ⟨v, by rw [h1, hc], by rw [hN]; exact h2.pr, h3⟩)
    refine Calls.mono ?_ R.out
    have hn' : (n : Int) ≤ 700 := by omega
    have HN : Hid (n ≤ 700) := Lib.hid (by omega)
    have HF := Lib.hid h
    have O0 : Hid (OwnU w.heap.size (.slice none 0 0) (16 * 0) f w) := Lib.hid (OwnU.nil _ _ _)
    clear h hn R
    go_enter Try.func40, Try.ntmps40
    go_wp2_with fail
    go_loopw [4, 6, 12] (fun o _ i wr => ∃ k : Nat, k ≤ n ∧ i = .int .i64 (k : Int) ∧ OwnU w.heap.size o (16 * k) f wr ∧ Below w.heap.size w wr) (fun _ _ i _ => n - (intOf i).toNat)
    case atStart => exact ⟨0, Nat.zero_le _, rfl, O0.out, Below.refl _ _⟩
    case round =>
      obtain ⟨k, hk, rfl, ho, hb⟩ := hrel
      have HO := Lib.hid ho
      have HB := Lib.hid hb
      have WZ : Hid (w.heap.size ≤ wr.heap.size) := Lib.hid hb.size
      clear ho hb O0
      by_cases hlt : k < n
      · obtain ⟨g, off, rfl, hg, hc⟩ : ∃ g off, a = some ⟨g, off, none⟩ ∧ g < w.heap.size ∧ ∀ j, j < 16 * n → w.cell? ⟨g, off + j, none⟩ = some (.int .u8 (f j)) := by
          rcases HF.out with h | h
          · omega
          · exact h
        have HC : Hid (∀ j v, (fbl f k)[j]? = some v → wr.cell? ⟨g, off + k * 16 + j, none⟩ = some v) := Lib.hid fun j v e => by
          have hj : j < 16 := by
            rcases Nat.lt_or_ge j 16 with h | h
            · exact h
            · rw [Array.getElem?_eq_none (by rw [fbl_size]; exact h)] at e; cases e
          rw [HB.out.cell (p := ⟨g, off + k * 16 + j, none⟩) hg, Nat.add_assoc, hc (k * 16 + j) (by omega), ← fbl_get f k j hj]
          exact e
        have HG : Hid (∀ j, j < 16 → (fbl f k)[j]? = some (.int .u8 (f (k * 16 + j)))) := Lib.hid (fun j hj => fbl_get f k j hj)
        have B18 := Lib.hid (fbl_size f k)
        have BON : Hid ((fbl f k).all (·.oneCell') = true) := Lib.hid (arr_cells _ _ _)
        have hlt' : (k : Int) < n := by omega
        have HK := Lib.hid hlt
        clear hlt hk hg hc
        obtain ⟨A, hA⟩ : ∃ A, fbl f k = A := ⟨_, rfl⟩
        rw [hA] at HC HG B18 BON
        clear hA
        obtain ⟨wa, hwa⟩ : ∃ x, wr.alloc (.cells #[Value.int .u8 0, Value.int .u8 0, Value.int .u8 0, Value.int .u8 0, Value.int .u8 0, Value.int .u8 0, Value.int .u8 0, Value.int .u8 0, Value.int .u8 0, Value.int .u8 0, Value.int .u8 0, Value.int .u8 0, Value.int .u8 0, Value.int .u8 0, Value.int .u8 0, Value.int .u8 0] 29) = x := ⟨_, rfl⟩
        have T1 : Hid (wa.heap[wr.heap.size]? = some (.cells #[Value.int .u8 0, Value.int .u8 0, Value.int .u8 0, Value.int .u8 0, Value.int .u8 0, Value.int .u8 0, Value.int .u8 0, Value.int .u8 0, Value.int .u8 0, Value.int .u8 0, Value.int .u8 0, Value.int .u8 0, Value.int .u8 0, Value.int .u8 0, Value.int .u8 0, Value.int .u8 0] 29 (0, 0))) := Lib.hid (by rw [← hwa]; exact World.alloc_heap_new wr _)
        obtain ⟨wb, hwb⟩ : ∃ x, wa.setRow wr.heap.size A = x := ⟨_, rfl⟩
        have bb : Below wr.heap.size wr wb := by rw [← hwb, ← hwa]; exact below_setRow ((Below.refl _ _).alloc (Nat.le_refl _) _) (Nat.le_refl _) _
        have T2 : Hid (wb.heap[wr.heap.size]? = some (.cells A 29 (0, 0))) := Lib.hid (by rw [← hwb]; exact setRow_heap _ _ _ _ _ _ T1.out)
        have OB : Hid (OwnU w.heap.size _ (16 * k) f wb) := Lib.hid (HO.out.kept (w' := wb) (row := none) ⟨bb.os, bb.tape, bb.output, bb.size, fun q hq _ => bb.block q hq⟩ (by cases hv : Value.ownBlock _ <;> simp))
        have BB : Hid (Below w.heap.size w wb) := Lib.hid (HB.out.trans (bb.mono WZ.out))
        have WB : Hid (w.heap.size ≤ wb.heap.size) := Lib.hid (Nat.le_trans WZ.out bb.size)
        clear bb
        go_wp2_with (first | (refine wpList_load_part rfl 29 _ rfl g (off + k * 16) rfl A _ HC.out Try.underlying29 rfl (fr_info _ B18.out) ?_) | (refine wpList_store_row rfl 29 _ _ rfl wr.heap.size A rfl rfl 29 _ T1.out (fr_info _ B18.out) (by rw [B18.out]; rfl) BON.out ?_; rw [hwb]) | (at_builtin; refine wpList_append_u rfl _ _ rfl w.heap.size _ (16 * k) f rfl OB.out wr.heap.size 0 16 16 (fun j => f (k * 16 + j)) rfl (fun j hj => by rw [Nat.zero_add, Lib.cell_of_heap T2.out]; exact HG.out j hj) (by have := HK.out; have := HN.out; omega) WB.out w BB.out ?_; intro v' w' h1 h2; have H1 := Lib.hid h1; have H2 := Lib.hid h2; clear h1 h2))
        go_roundw
        case rel => exact ⟨k + 1, HK.out, by go_num, by
          have := H1.out
          rw [show 16 * k + 16 = 16 * (k + 1) by omega] at this
          exact this.congr fun j hj => by
            unfold catU
            split
            · rfl
            · show f (k * 16 + (j - 16 * k)) = f j
              rw [show k * 16 + (j - 16 * k) = j by omega], H2.out⟩
        case measure => have := HK.out; simp [intOf]; omega
      · obtain rfl : k = n := by omega
        clear hlt hk
        go_wp2_with fail
        go_ret2
        exact ⟨_, rfl, HO.out, HB.out⟩
end Go.Proofs.Ytligafgbknlofaa
