/-
  CONTRACTS: a key that is read, by the specification.
-/
import Derived.Test.YtkijgadkgfapgaaYf
namespace Go.Proofs.Ytkijgadkgfapgaa
open Go.ChangeShapes Go.WideShapes Go.ChangeAt Go.RowKit
set_option maxRecDepth 20000 in
set_option maxHeartbeats 8000000 in
theorem sRead_any (t : ByteArray) (ht : t.size ≤ 1048576) (w : World) :
    Calls Try.prog 19 #[.string t] w fun e w' => e = .returned (.tuple #[.agg (Q16 (rkF t)), .int .i64 (rkC t)]) ∧ Below w.heap.size w w' := by
  obtain ⟨w1, hw1⟩ : ∃ w1, (w.alloc (.cells #[Value.int .u8 0, Value.int .u8 0, Value.int .u8 0, Value.int .u8 0, Value.int .u8 0, Value.int .u8 0, Value.int .u8 0, Value.int .u8 0, Value.int .u8 0, Value.int .u8 0, Value.int .u8 0, Value.int .u8 0, Value.int .u8 0, Value.int .u8 0, Value.int .u8 0, Value.int .u8 0] 25)).alloc (.cells #[Value.int .u8 0, Value.int .u8 0, Value.int .u8 0, Value.int .u8 0, Value.int .u8 0, Value.int .u8 0, Value.int .u8 0, Value.int .u8 0, Value.int .u8 0, Value.int .u8 0, Value.int .u8 0, Value.int .u8 0, Value.int .u8 0, Value.int .u8 0, Value.int .u8 0, Value.int .u8 0] 25) = w1 := ⟨_, rfl⟩
  have B0 : Hid (Below w.heap.size w w1) := Lib.hid (by rw [← hw1]; exact ((Below.refl _ w).alloc (Nat.le_refl _) _).alloc (by simp) _)
  have H0 : Hid (w1.heap[w.heap.size]? = some (.cells #[Value.int .u8 0, Value.int .u8 0, Value.int .u8 0, Value.int .u8 0, Value.int .u8 0, Value.int .u8 0, Value.int .u8 0, Value.int .u8 0, Value.int .u8 0, Value.int .u8 0, Value.int .u8 0, Value.int .u8 0, Value.int .u8 0, Value.int .u8 0, Value.int .u8 0, Value.int .u8 0] 25 (0, 0))) := Lib.hid (by rw [← hw1]; exact (Below.heap_alloc _ _ _ (by simp)).trans (World.alloc_heap_new w _))
  have H1' : Hid (w1.heap[w.heap.size + 1]? = some (.cells #[Value.int .u8 0, Value.int .u8 0, Value.int .u8 0, Value.int .u8 0, Value.int .u8 0, Value.int .u8 0, Value.int .u8 0, Value.int .u8 0, Value.int .u8 0, Value.int .u8 0, Value.int .u8 0, Value.int .u8 0, Value.int .u8 0, Value.int .u8 0, Value.int .u8 0, Value.int .u8 0] 25 (0, 0))) := Lib.hid (by
    rw [← hw1]
    have := World.alloc_heap_new (w.alloc (.cells #[Value.int .u8 0, Value.int .u8 0, Value.int .u8 0, Value.int .u8 0, Value.int .u8 0, Value.int .u8 0, Value.int .u8 0, Value.int .u8 0, Value.int .u8 0, Value.int .u8 0, Value.int .u8 0, Value.int .u8 0, Value.int .u8 0, Value.int .u8 0, Value.int .u8 0, Value.int .u8 0] 25)) (.cells #[Value.int .u8 0, Value.int .u8 0, Value.int .u8 0, Value.int .u8 0, Value.int .u8 0, Value.int .u8 0, Value.int .u8 0, Value.int .u8 0, Value.int .u8 0, Value.int .u8 0, Value.int .u8 0, Value.int .u8 0, Value.int .u8 0, Value.int .u8 0, Value.int .u8 0, Value.int .u8 0] 25)
    rw [World.size_alloc] at this
    exact this)
  have H1 : Hid (w1.heap[w.heap.size + 1]? = some (.cells (Q16 (rk (chY t) 0)) 25 (0, 0))) := Lib.hid (by rw [show rk (chY t) 0 = zI from rfl, ← zR_is16]; exact H1'.out)
  have ZO : Hid ((#[Value.int .u8 0, Value.int .u8 0, Value.int .u8 0, Value.int .u8 0, Value.int .u8 0, Value.int .u8 0, Value.int .u8 0, Value.int .u8 0, Value.int .u8 0, Value.int .u8 0, Value.int .u8 0, Value.int .u8 0, Value.int .u8 0, Value.int .u8 0, Value.int .u8 0, Value.int .u8 0] : Array Value).all (·.oneCell') = true) := Lib.hid (by rw [zR_is16]; exact arr_cells _ _ _)
  have SS : Hid (w1.setRow (w.heap.size + 1) #[Value.int .u8 0, Value.int .u8 0, Value.int .u8 0, Value.int .u8 0, Value.int .u8 0, Value.int .u8 0, Value.int .u8 0, Value.int .u8 0, Value.int .u8 0, Value.int .u8 0, Value.int .u8 0, Value.int .u8 0, Value.int .u8 0, Value.int .u8 0, Value.int .u8 0, Value.int .u8 0] = w1) := Lib.hid (setRow_self _ _ _ _ _ H1'.out)
  by_cases h32 : t.size = 32
  · have IX : Hid (∀ k : Nat, k < 32 → ∀ w, (Instr.index 9 (.string t) (.int .i64 (k : Int))).run Try.prog w = .ok (.int .u8 (((chY t k).toNat : Nat) : Int)) w) := Lib.hid fun k hk w => idx_strY t k (by omega) w
    have RB : Hid (∀ k, k < 32 → dv (chY t k) < 0 → Q16 (rkF t) = #[Value.int .u8 0, Value.int .u8 0, Value.int .u8 0, Value.int .u8 0, Value.int .u8 0, Value.int .u8 0, Value.int .u8 0, Value.int .u8 0, Value.int .u8 0, Value.int .u8 0, Value.int .u8 0, Value.int .u8 0, Value.int .u8 0, Value.int .u8 0, Value.int .u8 0, Value.int .u8 0] ∧ rkC t = 5) := Lib.hid fun k hk hd => ⟨by rw [(rk_bad hk hd).1]; exact zR_is16.symm, (rk_bad hk hd).2⟩
    have RG : Hid ((∀ j, j < 32 → 0 ≤ dv (chY t j)) → rkF t = rk (chY t) 32 ∧ rkC t = 0) := Lib.hid (rk_good h32)
    have h32' : (t.size : Int) = 32 := by omega
    have RS : Hid (∀ k, rk (chY t) (k + 1) = updI (rk (chY t) k) (k / 2) (rkS (rk (chY t) k (k / 2)) (dv (chY t k)))) := Lib.hid fun _ => rfl
    have RI := Lib.hid (rk_in (chY t))
    have CL : Hid (∀ k, (chY t k).toNat ≤ 255) := Lib.hid fun k => by have := (chY t k).toNat_lt; omega
    generalize rkF t = F at RB RG ⊢
    generalize rkC t = C at RB RG ⊢
    generalize rk (chY t) = R at H1 RG RS RI
    generalize chY t = c at IX RB RG RS CL
    clear h32 ht
    go_enter Try.func19, Try.ntmps19
    go_wp2_with (refine wpList_store_row rfl 25 _ _ rfl (w.heap.size + 1) _ rfl rfl 25 _ H1'.out (ky_info _ rfl) rfl ZO.out ?_; rw [SS.out])
    clear hw1 H1' SS
    go_loopw [5] (fun i wr => ∃ k : Nat, k ≤ 32 ∧ i = .int .i64 (k : Int) ∧ (∀ j, j < k → 0 ≤ dv (c j)) ∧ wr.heap[w.heap.size + 1]? = some (.cells (Q16 (R k)) 25 (0, 0)) ∧ wr.heap[w.heap.size]? = some (.cells #[Value.int .u8 0, Value.int .u8 0, Value.int .u8 0, Value.int .u8 0, Value.int .u8 0, Value.int .u8 0, Value.int .u8 0, Value.int .u8 0, Value.int .u8 0, Value.int .u8 0, Value.int .u8 0, Value.int .u8 0, Value.int .u8 0, Value.int .u8 0, Value.int .u8 0, Value.int .u8 0] 25 (0, 0)) ∧ Below w.heap.size w wr) (fun i _ => 32 - (intOf i).toNat)
    case atStart => exact ⟨0, by omega, rfl, fun j hj => by omega, H1.out, H0.out, B0.out⟩
    case round =>
      obtain ⟨k, hk, rfl, hd, h1, h0, hb⟩ := hrel
      have K1 := Lib.hid h1
      have K0 := Lib.hid h0
      have KB := Lib.hid hb
      have KD := Lib.hid hd
      clear h1 h0 hb hd H1 H0 B0
      by_cases hlt : k < 32
      · have tk : (k : Int) < 32 := by omega
        have HK := Lib.hid hlt
        have ix := IX.out k hlt
        obtain ⟨m, hm⟩ : ∃ m, k / 2 = m := ⟨_, rfl⟩
        have hm2 : (k : Int) / 2 = (m : Int) := by omega
        have m16 : m < 16 := by omega
        have tm : (m : Int) < 16 := by omega
        have c0 : wr.cell? ⟨w.heap.size + 1, m, none⟩ = some (.int .u8 (R k m)) := (Lib.cell_of_heap K1.out m).trans (arr_get _ _ _ _ m16)
        have f0 : wr.frozen? ⟨w.heap.size + 1, m, none⟩ = false := Lib.frozen_of_heap K1.out m
        have HM := Lib.hid m16
        obtain ⟨x0, x1⟩ := RI.out k m
        obtain ⟨x, hx⟩ : ∃ x, R k m = x := ⟨_, rfl⟩
        rw [hx] at c0 x0 x1
        have cl := CL.out k
        have CASES : (c k).toNat < 48 ∨ (48 ≤ (c k).toNat ∧ (c k).toNat ≤ 57) ∨ (58 ≤ (c k).toNat ∧ (c k).toNat < 97) ∨ (97 ≤ (c k).toNat ∧ (c k).toNat ≤ 102) ∨ 103 ≤ (c k).toNat := by omega
        rcases CASES with h1 | ⟨h1, h2⟩ | ⟨h1, h2⟩ | ⟨h1, h2⟩ | h1
        · have hneg : dv (c k) < 0 := by unfold dv; rw [if_neg (by omega), if_neg (by omega)]; decide
          obtain ⟨r1, r2⟩ := RB.out k hlt hneg
          have R1 := Lib.hid r1
          have R2 := Lib.hid r2
          generalize (c k).toNat = n at ix h1 cl
          have g1 : (n : Int) < 48 := by omega
          have g2 : (n : Int) < 97 := by omega
          clear h1 cl
          clear hneg
          clear r1 r2 hlt hk
          go_wp2_with (refine wpList_store_row rfl 25 _ _ rfl w.heap.size _ rfl rfl 25 _ K0.out (ky_info _ rfl) rfl ZO.out ?_)
          refine bodyPost_ret (v := .tuple #[.agg #[Value.int .u8 0, Value.int .u8 0, Value.int .u8 0, Value.int .u8 0, Value.int .u8 0, Value.int .u8 0, Value.int .u8 0, Value.int .u8 0, Value.int .u8 0, Value.int .u8 0, Value.int .u8 0, Value.int .u8 0, Value.int .u8 0, Value.int .u8 0, Value.int .u8 0, Value.int .u8 0], .int .i64 5]) ?_ rfl ⟨by rw [R1.out, R2.out], ?_⟩
          · exact results_cell_tmp_rowF Try.results19 _ _ w.heap.size _ _ _ _ rfl (setRow_heap _ _ _ _ _ _ K0.out) Try.underlying25 rfl (ky_info _ rfl)
          · exact below_setRow KB.out (by omega) _
        · have hd : dv (c k) = ((c k).toNat : Int) - 48 := by unfold dv; rw [if_pos ⟨h1, h2⟩]
          have hpos : 0 ≤ dv (c k) := by rw [hd]; omega
          have KD2 : Hid (∀ j, j < k + 1 → 0 ≤ dv (c j)) := Lib.hid fun j hj => by
            rcases Nat.lt_or_ge j k with h | h
            · exact KD.out j h
            · obtain rfl : j = k := by omega
              exact hpos
          have SK := Lib.hid (RS.out k)
          rw [hm, hd] at SK
          rw [hx] at SK
          unfold rkS at SK
          clear hd hpos
          generalize (c k).toNat = n at ix h1 h2 cl SK
          have g1 : 48 ≤ (n : Int) := by omega
          have g2 : (n : Int) ≤ 57 := by omega
          clear h1 h2 cl
          clear hlt hk hm hx m16
          go_wp2
          go_roundw
          case rel => exact ⟨k + 1, HK.out, by go_num, KD2.out, by rw [fset_at K1.out, arr_set _ _ _ _ _ HM.out, SK.out], by rw [fset_far (by omega)]; exact K0.out, KB.out.setCell (p := ⟨w.heap.size + 1, _, none⟩) (by simp) _⟩
          case measure => have := HK.out; simp [intOf]; omega
        · have hneg : dv (c k) < 0 := by unfold dv; rw [if_neg (by omega), if_neg (by omega)]; decide
          obtain ⟨r1, r2⟩ := RB.out k hlt hneg
          have R1 := Lib.hid r1
          have R2 := Lib.hid r2
          generalize (c k).toNat = n at ix h1 h2 cl
          have g0 : 48 ≤ (n : Int) := by omega
          have g1 : 57 < (n : Int) := by omega
          have g2 : (n : Int) < 97 := by omega
          clear h1 h2 cl
          clear hneg
          clear r1 r2 hlt hk
          go_wp2_with (refine wpList_store_row rfl 25 _ _ rfl w.heap.size _ rfl rfl 25 _ K0.out (ky_info _ rfl) rfl ZO.out ?_)
          refine bodyPost_ret (v := .tuple #[.agg #[Value.int .u8 0, Value.int .u8 0, Value.int .u8 0, Value.int .u8 0, Value.int .u8 0, Value.int .u8 0, Value.int .u8 0, Value.int .u8 0, Value.int .u8 0, Value.int .u8 0, Value.int .u8 0, Value.int .u8 0, Value.int .u8 0, Value.int .u8 0, Value.int .u8 0, Value.int .u8 0], .int .i64 5]) ?_ rfl ⟨by rw [R1.out, R2.out], ?_⟩
          · exact results_cell_tmp_rowF Try.results19 _ _ w.heap.size _ _ _ _ rfl (setRow_heap _ _ _ _ _ _ K0.out) Try.underlying25 rfl (ky_info _ rfl)
          · exact below_setRow KB.out (by omega) _
        · have hd : dv (c k) = ((c k).toNat : Int) - 97 + 10 := by unfold dv; rw [if_neg (by omega), if_pos ⟨h1, h2⟩]
          have hpos : 0 ≤ dv (c k) := by rw [hd]; omega
          have KD2 : Hid (∀ j, j < k + 1 → 0 ≤ dv (c j)) := Lib.hid fun j hj => by
            rcases Nat.lt_or_ge j k with h | h
            · exact KD.out j h
            · obtain rfl : j = k := by omega
              exact hpos
          have SK := Lib.hid (RS.out k)
          rw [hm, hd] at SK
          rw [hx] at SK
          unfold rkS at SK
          clear hd hpos
          generalize (c k).toNat = n at ix h1 h2 cl SK
          have g0 : 48 ≤ (n : Int) := by omega
          have g3 : 57 < (n : Int) := by omega
          have g1 : 97 ≤ (n : Int) := by omega
          have g2 : (n : Int) ≤ 102 := by omega
          clear h1 h2 cl
          clear hlt hk hm hx m16
          go_wp2
          go_roundw
          case rel => exact ⟨k + 1, HK.out, by go_num, KD2.out, by rw [fset_at K1.out, arr_set _ _ _ _ _ HM.out, SK.out], by rw [fset_far (by omega)]; exact K0.out, KB.out.setCell (p := ⟨w.heap.size + 1, _, none⟩) (by simp) _⟩
          case measure => have := HK.out; simp [intOf]; omega
        · have hneg : dv (c k) < 0 := by unfold dv; rw [if_neg (by omega), if_neg (by omega)]; decide
          obtain ⟨r1, r2⟩ := RB.out k hlt hneg
          have R1 := Lib.hid r1
          have R2 := Lib.hid r2
          generalize (c k).toNat = n at ix h1 cl
          have g0 : 48 ≤ (n : Int) := by omega
          have g1 : 57 < (n : Int) := by omega
          have g2 : 97 ≤ (n : Int) := by omega
          have g3 : 102 < (n : Int) := by omega
          clear h1 cl
          clear hneg
          clear r1 r2 hlt hk
          go_wp2_with (refine wpList_store_row rfl 25 _ _ rfl w.heap.size _ rfl rfl 25 _ K0.out (ky_info _ rfl) rfl ZO.out ?_)
          refine bodyPost_ret (v := .tuple #[.agg #[Value.int .u8 0, Value.int .u8 0, Value.int .u8 0, Value.int .u8 0, Value.int .u8 0, Value.int .u8 0, Value.int .u8 0, Value.int .u8 0, Value.int .u8 0, Value.int .u8 0, Value.int .u8 0, Value.int .u8 0, Value.int .u8 0, Value.int .u8 0, Value.int .u8 0, Value.int .u8 0], .int .i64 5]) ?_ rfl ⟨by rw [R1.out, R2.out], ?_⟩
          · exact results_cell_tmp_rowF Try.results19 _ _ w.heap.size _ _ _ _ rfl (setRow_heap _ _ _ _ _ _ K0.out) Try.underlying25 rfl (ky_info _ rfl)
          · exact below_setRow KB.out (by omega) _
      · obtain rfl : k = 32 := by omega
        obtain ⟨r1, r2⟩ := RG.out KD.out
        have R1 := Lib.hid r1
        have R2 := Lib.hid r2
        clear r1 r2 hlt hk
        generalize R 32 = m at K1 R1
        go_wp2_with (first | (refine wpList_load_row rfl 25 _ rfl (w.heap.size + 1) rfl 25 _ _ _ K1.out Try.underlying25 rfl (ky_info _ (arr_size _ _ _)) ?_) | (refine wpList_store_row rfl 25 _ _ rfl w.heap.size (Q16 m) rfl rfl 25 _ K0.out (ky_info _ rfl) rfl (arr_cells _ _ _) ?_))
        refine bodyPost_ret (v := .tuple #[.agg (Q16 m), .int .i64 0]) ?_ rfl ⟨by rw [R1.out, R2.out], ?_⟩
        · exact results_cell_tmp_rowF Try.results19 _ _ w.heap.size _ _ _ _ rfl (setRow_heap _ _ _ _ _ _ K0.out) Try.underlying25 rfl (ky_info _ (arr_size _ _ _))
        · exact below_setRow KB.out (by omega) _
  · obtain ⟨r1, r2⟩ := rk_size h32
    have R1 : Hid (Q16 (rkF t) = #[Value.int .u8 0, Value.int .u8 0, Value.int .u8 0, Value.int .u8 0, Value.int .u8 0, Value.int .u8 0, Value.int .u8 0, Value.int .u8 0, Value.int .u8 0, Value.int .u8 0, Value.int .u8 0, Value.int .u8 0, Value.int .u8 0, Value.int .u8 0, Value.int .u8 0, Value.int .u8 0]) := Lib.hid (by rw [r1]; exact zR_is16.symm)
    have R2 := Lib.hid r2
    have e1 : decide ((t.size : Int) = 32) = false := by simp; omega
    have e2 : (!((t.size : Int) == 32)) = true := by simp; omega
    have e3 : ((t.size : Int) == 32) = false := by simp; omega
    clear r1 r2 h32 ht H1
    go_enter Try.func19, Try.ntmps19
    go_wp2_with (first | (refine wpList_store_row rfl 25 _ _ rfl (w.heap.size + 1) _ rfl rfl 25 _ H1'.out (ky_info _ rfl) rfl ZO.out ?_; rw [SS.out]) | (refine wpList_store_row rfl 25 _ _ rfl w.heap.size _ rfl rfl 25 _ H0.out (ky_info _ rfl) rfl ZO.out ?_))
    refine bodyPost_ret (v := .tuple #[.agg #[Value.int .u8 0, Value.int .u8 0, Value.int .u8 0, Value.int .u8 0, Value.int .u8 0, Value.int .u8 0, Value.int .u8 0, Value.int .u8 0, Value.int .u8 0, Value.int .u8 0, Value.int .u8 0, Value.int .u8 0, Value.int .u8 0, Value.int .u8 0, Value.int .u8 0, Value.int .u8 0], .int .i64 5]) ?_ rfl ⟨by rw [R1.out, R2.out], ?_⟩
    · exact results_cell_tmp_rowF Try.results19 _ _ w.heap.size _ _ _ _ rfl (setRow_heap _ _ _ _ _ _ H0.out) Try.underlying25 rfl (ky_info _ rfl)
    · exact below_setRow B0.out (by omega) _
end Go.Proofs.Ytkijgadkgfapgaa
