/-
  CONTRACTS: MakeFrame and IsSound, of both sides.
-/
import Derived.Test.YtkijgadkgfapgaaFn
namespace Go.Proofs.Ytkijgadkgfapgaa
open Go.ChangeShapes Go.WideShapes Go.ChangeAt Go.RowKit
theorem zI_is16 : Q16 zI = #[Value.int .u8 0, Value.int .u8 0, Value.int .u8 0, Value.int .u8 0, Value.int .u8 0, Value.int .u8 0, Value.int .u8 0, Value.int .u8 0, Value.int .u8 0, Value.int .u8 0, Value.int .u8 0, Value.int .u8 0, Value.int .u8 0, Value.int .u8 0, Value.int .u8 0, Value.int .u8 0] := rfl
set_option maxRecDepth 20000 in
set_option maxHeartbeats 4000000 in
theorem iMake_any (i : Int) (p : Nat → Int) (hp : ByF 12 p) (w : World) :
    Calls Try.prog 108 #[.int .i64 i, .agg (Q12 p)] w fun e w' => e = .returned (.tuple #[.agg (Q16 (mkX i p)), .int .i64 (codeX i)]) ∧ Below w.heap.size w w' := by
  obtain ⟨w1, hw1⟩ : ∃ w1, (w.alloc (.cells (Q12 p) 141)).alloc (.cells #[Value.int .u8 0, Value.int .u8 0, Value.int .u8 0, Value.int .u8 0, Value.int .u8 0, Value.int .u8 0, Value.int .u8 0, Value.int .u8 0, Value.int .u8 0, Value.int .u8 0, Value.int .u8 0, Value.int .u8 0, Value.int .u8 0, Value.int .u8 0, Value.int .u8 0, Value.int .u8 0] 93) = w1 := ⟨_, rfl⟩
  have B0 : Hid (Below w.heap.size w w1) := Lib.hid (by rw [← hw1]; exact ((Below.refl _ w).alloc (Nat.le_refl _) _).alloc (by simp) _)
  have H0 : Hid (w1.heap[w.heap.size]? = some (.cells (Q12 p) 141 (0, 0))) := Lib.hid (by rw [← hw1]; exact (Below.heap_alloc _ _ _ (by simp)).trans (World.alloc_heap_new w _))
  have H1 : Hid (w1.heap[w.heap.size + 1]? = some (.cells #[Value.int .u8 0, Value.int .u8 0, Value.int .u8 0, Value.int .u8 0, Value.int .u8 0, Value.int .u8 0, Value.int .u8 0, Value.int .u8 0, Value.int .u8 0, Value.int .u8 0, Value.int .u8 0, Value.int .u8 0, Value.int .u8 0, Value.int .u8 0, Value.int .u8 0, Value.int .u8 0] 93 (0, 0))) := Lib.hid (by
    rw [← hw1]
    have := World.alloc_heap_new (w.alloc (.cells (Q12 p) 141)) (.cells #[Value.int .u8 0, Value.int .u8 0, Value.int .u8 0, Value.int .u8 0, Value.int .u8 0, Value.int .u8 0, Value.int .u8 0, Value.int .u8 0, Value.int .u8 0, Value.int .u8 0, Value.int .u8 0, Value.int .u8 0, Value.int .u8 0, Value.int .u8 0, Value.int .u8 0, Value.int .u8 0] 93)
    rw [World.size_alloc] at this
    exact this)
  have HL : Hid (w.heap.size + 1 < w1.heap.size) := Lib.hid (Array.getElem?_eq_some_iff.1 H1.out).1
  have CK := Lib.hid (iCheckOf_any i p hp)
  cases h : inX i
  · have R1 : Hid (Q16 (mkX i p) = #[Value.int .u8 0, Value.int .u8 0, Value.int .u8 0, Value.int .u8 0, Value.int .u8 0, Value.int .u8 0, Value.int .u8 0, Value.int .u8 0, Value.int .u8 0, Value.int .u8 0, Value.int .u8 0, Value.int .u8 0, Value.int .u8 0, Value.int .u8 0, Value.int .u8 0, Value.int .u8 0]) := Lib.hid (by unfold mkX; rw [h, if_neg (by decide)]; exact zI_is16)
    have R2 : Hid (codeX i = 2) := Lib.hid (by unfold codeX; rw [h]; exact if_neg (by decide))
    have ZO : Hid ((#[Value.int .u8 0, Value.int .u8 0, Value.int .u8 0, Value.int .u8 0, Value.int .u8 0, Value.int .u8 0, Value.int .u8 0, Value.int .u8 0, Value.int .u8 0, Value.int .u8 0, Value.int .u8 0, Value.int .u8 0, Value.int .u8 0, Value.int .u8 0, Value.int .u8 0, Value.int .u8 0] : Array Value).all (·.oneCell') = true) := Lib.hid (by rw [← zI_is16]; exact arr_cells _ _ _)
    rw [R1.out, R2.out]
    rw [R2.out] at CK
    obtain ⟨c, hc⟩ : ∃ c : Int, (chkN i p : Int) = c := ⟨_, rfl⟩
    rw [hc] at CK
    clear h hp R1 R2 hc
    go_enter Try.func108, Try.ntmps108
    go_wp2_with (refine wpList_load_row rfl 141 _ rfl w.heap.size rfl 141 _ _ _ H0.out Try.underlying141 rfl (p12_info _ (arr_size _ _ _)) ?_)
    clear hw1
    refine (CK.out _).mono ?_
    rintro e w2 ⟨rfl, b2⟩
    have G1 := Lib.hid ((b2.block (w.heap.size + 1) HL.out).trans H1.out)
    have GB := Lib.hid (B0.out.trans (b2.mono (by have := HL.out; omega)))
    clear b2
    go_wp2_with (refine wpList_store_row rfl 93 _ _ rfl (w.heap.size + 1) _ rfl rfl 93 _ G1.out (fr_info _ rfl) rfl ZO.out ?_)
    refine bodyPost_ret (v := .tuple #[.agg #[Value.int .u8 0, Value.int .u8 0, Value.int .u8 0, Value.int .u8 0, Value.int .u8 0, Value.int .u8 0, Value.int .u8 0, Value.int .u8 0, Value.int .u8 0, Value.int .u8 0, Value.int .u8 0, Value.int .u8 0, Value.int .u8 0, Value.int .u8 0, Value.int .u8 0, Value.int .u8 0], .int .i64 2]) ?_ rfl ⟨rfl, ?_⟩
    · exact results_cell_tmp_rowF Try.results108 _ _ (w.heap.size + 1) _ _ _ _ rfl (setRow_heap _ _ _ _ _ _ G1.out) Try.underlying93 rfl (fr_info _ rfl)
    · exact below_setRow GB.out (by omega) _
  · obtain ⟨n, rfl, hn⟩ := inX_nat h
    have R1 : Hid (mkX n p = mkfF n p) := Lib.hid (by unfold mkX; rw [if_pos h, Int.toNat_natCast])
    have R2 : Hid (codeX n = 0) := Lib.hid (by unfold codeX; rw [if_pos h])
    have R3 : Hid (chkN n p = chk n p) := Lib.hid (by unfold chkN; rw [if_pos h, Int.toNat_natCast])
    rw [R1.out, R2.out]
    rw [R2.out, R3.out] at CK
    have MM : Hid (mkfF n p = catU p 12 (byW (chk n p))) := Lib.hid rfl
    rw [MM.out]
    obtain ⟨c, hc⟩ : ∃ c, chk n p = c := ⟨_, rfl⟩
    rw [hc] at CK ⊢
    obtain ⟨m, hm⟩ : ∃ m, catU p 12 (byW c) = m := ⟨_, rfl⟩
    rw [hm]
    have HM := Lib.hid hm
    clear h hp hn R1 R2 R3 hc MM hm
    go_enter Try.func108, Try.ntmps108
    go_wp2_with (refine wpList_load_row rfl 141 _ rfl w.heap.size rfl 141 _ _ _ H0.out Try.underlying141 rfl (p12_info _ (arr_size _ _ _)) ?_)
    clear hw1
    refine (CK.out _).mono ?_
    rintro e w2 ⟨rfl, b2⟩
    have G1 := Lib.hid ((b2.block (w.heap.size + 1) HL.out).trans H1.out)
    have G0 := Lib.hid ((b2.block w.heap.size (by have := HL.out; omega)).trans H0.out)
    have GB := Lib.hid (B0.out.trans (b2.mono (by have := HL.out; omega)))
    have GL : Hid (w.heap.size + 1 < w2.heap.size) := Lib.hid (Nat.lt_of_lt_of_le HL.out b2.size)
    clear b2
    go_wp2_with fail
    refine Calls.mono (appendWord_full w.heap.size 0 12 p w2.heap.size c w2 (by omega) (Nat.le_refl _) (by have := GL.out; omega) (fun j hj => by rw [Nat.zero_add]; exact (Lib.cell_of_heap G0.out j).trans (arr_get _ _ _ _ hj))) ?_
    rintro e w3 ⟨v, rfl, h3, b3⟩
    obtain ⟨g, cap, rfl, hcap, hg, -, hc3⟩ := h3.form (by omega)
    rw [HM.out] at hc3
    have C3 := Lib.hid hc3
    have hat := fun W => run_arrayAtF (P := Try.prog) 93 _ 16 (some ⟨g, 0, none⟩) (12 + 4) cap Try.underlying93 (by omega) W
    have I1 := Lib.hid ((b3.block (w.heap.size + 1) GL.out).trans G1.out)
    have IB := Lib.hid (GB.out.trans (b3.mono (by have := GL.out; omega)))
    clear b3 h3 hg hc3 hcap
    go_wp2_with (first | (refine wpList_load_part rfl 93 _ rfl g 0 rfl (Q16 m) _ (fun j v e => by
        have hj : j < 16 := by
          rcases Nat.lt_or_ge j 16 with h | h
          · exact h
          · rw [arr_none _ _ _ _ h] at e; cases e
        rw [Nat.zero_add, C3.out j hj, ← e, arr_get _ _ _ _ hj]) Try.underlying93 rfl (fr_info _ (arr_size _ _ _)) ?_) | (refine wpList_store_row rfl 93 _ _ rfl (w.heap.size + 1) (Q16 m) rfl rfl 93 _ I1.out (fr_info _ rfl) rfl (arr_cells _ _ _) ?_))
    refine bodyPost_ret (v := .tuple #[.agg (Q16 m), .int .i64 0]) ?_ rfl ⟨rfl, ?_⟩
    · exact results_cell_tmp_rowF Try.results108 _ _ (w.heap.size + 1) _ _ _ _ rfl (setRow_heap _ _ _ _ _ _ I1.out) Try.underlying93 rfl (fr_info _ (arr_size _ _ _))
    · exact below_setRow IB.out (by omega) _
end Go.Proofs.Ytkijgadkgfapgaa
