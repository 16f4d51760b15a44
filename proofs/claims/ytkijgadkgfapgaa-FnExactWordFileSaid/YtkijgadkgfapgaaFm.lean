/-
  CONTRACTS: payloads and frames that are made, on both sides.
-/
import Derived.Test.YtkijgadkgfapgaaFi
import Derived.Test.YtkijgadkgfapgaaFo
namespace Go.Proofs.Ytkijgadkgfapgaa
open Go.ChangeShapes Go.WideShapes Go.ChangeAt Go.RowKit
theorem results_cell_tmp_rowF {P : Program} {fn : Func} {p u : Tmp} {ty : TypeId} (h : fn.results = #[.cell p ty, .tmp u]) (tmps : Array Value) (w : World) (g : Nat) (t : TypeId) (cs : Array Value) (fr : Nat × Nat) (d : TypeDesc)
    (hp : tmps.getD p undef = .pointer (some ⟨g, 0, none⟩)) (hg : w.heap[g]? = some (.cells cs t fr)) (hu : P.underlying ty = some d) (hd : (match d with | .struct _ | .array _ _ => true | _ => false) = true) (hi : (P.info? ty).map (·.size) = some cs.size) :
    (results fn tmps).run P w = .ok (.tuple #[.agg cs, tmps.getD u undef]) w := by
  rw [results_cell_tmp h, hp]
  simp [asAddr, run_loadVar_row w g t ty cs fr d hg hu hd hi]
theorem run_arrayAtF {P : Program} (t e : TypeId) (n : Nat) (a : Option Addr) (len cap : Nat) (h : P.underlying t = some (.array n e)) (hl : n ≤ len) (w : World) : (Instr.arrayAt t (.slice a len cap)).run P w = .ok (.pointer a) w := by
  have : ¬ len < n := by omega
  simp [Instr.arrayAt, run_underlying h, this]
/-- the frame of a payload with an index -/
def mkfF (i : Nat) (p : Nat → Int) : Nat → Int := catU p 12 (byW (chk i p))
theorem mkfF_lo (i : Nat) (p : Nat → Int) {j : Nat} (h : j < 12) : mkfF i p j = p j := catU_lo h
theorem mkfF_hi (i : Nat) (p : Nat → Int) (j : Nat) : mkfF i p (12 + j) = byW (chk i p) j := catU_hi _ _ _ _
theorem mkfF_by (i : Nat) (p : Nat → Int) (hp : ByF 12 p) (n : Nat) : ByF n (mkfF i p) := fun j _ => by
  by_cases h : j < 12
  · rw [mkfF_lo _ _ h]; exact hp j h
  · rw [show j = 12 + (j - 12) by omega, mkfF_hi]
    exact byW_By _ (j - 12 + 1) _ (by omega)
def mkX (i : Int) (p : Nat → Int) : Nat → Int := if inX i then mkfF i.toNat p else zI
set_option maxRecDepth 20000 in
set_option maxHeartbeats 2000000 in
theorem sPay_any (f : Nat → Int) (w : World) :
    Calls Try.prog 110 #[.agg (Q16 f)] w fun e w' => e = .returned (.agg (Q12 f)) ∧ Below w.heap.size w w' := by
  obtain ⟨Z, hZ⟩ : ∃ Z, Z = Q12 zI := ⟨_, rfl⟩
  have ZE : Z = #[Value.int .u8 0, Value.int .u8 0, Value.int .u8 0, Value.int .u8 0, Value.int .u8 0, Value.int .u8 0, Value.int .u8 0, Value.int .u8 0, Value.int .u8 0, Value.int .u8 0, Value.int .u8 0, Value.int .u8 0] := hZ
  obtain ⟨w1, hw1⟩ : ∃ w1, ((w.alloc (.cells (Q16 f) 93)).alloc (.cells Z 141)).alloc (.cells Z 141) = w1 := ⟨_, rfl⟩
  have Z1 : Hid (w1.heap.size = w.heap.size + 1 + 1 + 1) := Lib.hid (by rw [← hw1]; simp)
  have B0 : Hid (Below w.heap.size w w1) := Lib.hid (by rw [← hw1]; exact (((Below.refl _ w).alloc (Nat.le_refl _) _).alloc (by simp) _).alloc (by simp; omega) _)
  have H0 : Hid (w1.heap[w.heap.size]? = some (.cells (Q16 f) 93 (0, 0))) := Lib.hid (by rw [← hw1]; exact ((Below.heap_alloc _ _ _ (by simp; omega)).trans (Below.heap_alloc _ _ _ (by simp))).trans (World.alloc_heap_new w _))
  have H1 : Hid (w1.heap[w.heap.size + 1]? = some (.cells Z 141 (0, 0))) := Lib.hid (by
    rw [← hw1]
    refine (Below.heap_alloc _ _ _ (by simp)).trans ?_
    have := World.alloc_heap_new (w.alloc (.cells (Q16 f) 93)) (.cells Z 141)
    rw [World.size_alloc] at this
    exact this)
  have H2 : Hid (w1.heap[w.heap.size + 1 + 1]? = some (.cells Z 141 (0, 0))) := Lib.hid (by
    rw [← hw1]
    have := World.alloc_heap_new ((w.alloc (.cells (Q16 f) 93)).alloc (.cells Z 141)) (.cells Z 141)
    rw [World.size_alloc, World.size_alloc] at this
    exact this)
  have ZS : Z.size = 12 := by rw [hZ]; exact arr_size _ _ _
  have ZO : Z.all (·.oneCell') = true := by rw [hZ]; exact arr_cells _ _ _
  have H2' : Hid (w1.heap[w.heap.size + 1 + 1]? = some (.cells (Q12 (mixI zI f 0)) 141 (0, 0))) := Lib.hid (by rw [mixI_zero, ← hZ]; exact H2.out)
  have SS : Hid (w1.setRow (w.heap.size + 1 + 1) Z = w1) := Lib.hid (setRow_self _ _ _ _ _ H2.out)
  rw [ZE] at H1 H2 hw1 ZS ZO SS
  clear ZE hZ
  go_enter Try.func110, Try.ntmps110
  go_wp2_with (refine wpList_store_row rfl 141 _ _ rfl (w.heap.size + 1 + 1) _ rfl rfl 141 _ H2.out (p12_info _ ZS) rfl ZO ?_; rw [SS.out])
  clear hw1 SS H2
  go_loopw [4] (fun i wr => ∃ k : Nat, k ≤ 12 ∧ i = .int .i64 (k : Int) ∧ wr.heap[w.heap.size + 1 + 1]? = some (.cells (Q12 (mixI zI f k)) 141 (0, 0)) ∧ wr.heap[w.heap.size]? = some (.cells (Q16 f) 93 (0, 0)) ∧ wr.heap[w.heap.size + 1]? = some (.cells #[Value.int .u8 0, Value.int .u8 0, Value.int .u8 0, Value.int .u8 0, Value.int .u8 0, Value.int .u8 0, Value.int .u8 0, Value.int .u8 0, Value.int .u8 0, Value.int .u8 0, Value.int .u8 0, Value.int .u8 0] 141 (0, 0)) ∧ Below w.heap.size w wr) (fun i _ => 12 - (intOf i).toNat)
  case atStart => exact ⟨0, Nat.zero_le _, rfl, H2'.out, H0.out, H1.out, B0.out⟩
  case round =>
    obtain ⟨k, hk, rfl, h2, h0, h1, hB⟩ := hrel
    have K2 := Lib.hid h2
    have K0 := Lib.hid h0
    have K1 := Lib.hid h1
    have KB := Lib.hid hB
    clear h2 h0 h1 hB H0 H1 H2' B0
    by_cases hlt : k < 12
    · have t1 : (k : Int) < 12 := by omega
      have HK := Lib.hid hlt
      have c0 : wr.cell? ⟨w.heap.size, k, none⟩ = some (.int .u8 (f k)) := (Lib.cell_of_heap K0.out k).trans (arr_get _ _ _ _ (by omega))
      have c2 : wr.cell? ⟨w.heap.size + 1 + 1, k, none⟩ = some (.int .u8 (mixI zI f k k)) := (Lib.cell_of_heap K2.out k).trans (arr_get _ _ _ _ hlt)
      have f2 : wr.frozen? ⟨w.heap.size + 1 + 1, k, none⟩ = false := Lib.frozen_of_heap K2.out k
      generalize mixI zI f k k = v at c2
      clear hlt hk
      go_wp2
      go_roundw
      case rel => exact ⟨k + 1, by have := HK.out; omega, by go_num, by rw [fset_at K2.out, arr_set _ _ _ _ _ HK.out, mixI_step], by rw [fset_far (by omega)]; exact K0.out, by rw [fset_far (by omega)]; exact K1.out, KB.out.setCell (p := ⟨w.heap.size + 1 + 1, _, none⟩) (by simp; omega) _⟩
      case measure => have := HK.out; simp [intOf]; omega
    · obtain rfl : k = 12 := by omega
      have G2 : Hid (wr.heap[w.heap.size + 1 + 1]? = some (.cells (Q12 f) 141 (0, 0))) := Lib.hid (by have := K2.out; rwa [show Q12 (mixI zI f 12) = Q12 f from arr_mix .u8 12 zI f] at this)
      clear K2 hk hlt
      go_wp2_with (first | (refine wpList_load_row rfl 141 _ rfl (w.heap.size + 1 + 1) rfl 141 _ _ _ G2.out Try.underlying141 rfl (p12_info _ (arr_size _ _ _)) ?_) | (refine wpList_store_row rfl 141 _ _ rfl (w.heap.size + 1) (Q12 f) rfl rfl 141 _ K1.out (p12_info _ rfl) rfl (arr_cells _ _ _) ?_))
      refine bodyPost_ret (v := .agg (Q12 f)) ?_ rfl ⟨rfl, ?_⟩
      · exact results_cell_row Try.results110 _ _ (w.heap.size + 1) _ _ _ _ rfl (setRow_heap _ _ _ _ _ _ K1.out) Try.underlying141 rfl (p12_info _ (arr_size _ _ _))
      · exact below_setRow KB.out (by omega) _
set_option maxRecDepth 20000 in
set_option maxHeartbeats 2000000 in
theorem iPay_any (f : Nat → Int) (w : World) :
    Calls Try.prog 102 #[.agg (Q16 f)] w fun e w' => e = .returned (.agg (Q12 f)) ∧ Below w.heap.size w w' := by
  obtain ⟨w1, hw1⟩ : ∃ w1, (w.alloc (.cells (Q16 f) 93)).alloc (.cells #[Value.int .u8 0, Value.int .u8 0, Value.int .u8 0, Value.int .u8 0, Value.int .u8 0, Value.int .u8 0, Value.int .u8 0, Value.int .u8 0, Value.int .u8 0, Value.int .u8 0, Value.int .u8 0, Value.int .u8 0] 141) = w1 := ⟨_, rfl⟩
  have B0 : Hid (Below w.heap.size w w1) := Lib.hid (by rw [← hw1]; exact ((Below.refl _ w).alloc (Nat.le_refl _) _).alloc (by simp) _)
  have H0 : Hid (w1.heap[w.heap.size]? = some (.cells (Q16 f) 93 (0, 0))) := Lib.hid (by rw [← hw1]; exact (Below.heap_alloc _ _ _ (by simp)).trans (World.alloc_heap_new w _))
  have H1 : Hid (w1.heap[w.heap.size + 1]? = some (.cells #[Value.int .u8 0, Value.int .u8 0, Value.int .u8 0, Value.int .u8 0, Value.int .u8 0, Value.int .u8 0, Value.int .u8 0, Value.int .u8 0, Value.int .u8 0, Value.int .u8 0, Value.int .u8 0, Value.int .u8 0] 141 (0, 0))) := Lib.hid (by
    rw [← hw1]
    have := World.alloc_heap_new (w.alloc (.cells (Q16 f) 93)) (.cells #[Value.int .u8 0, Value.int .u8 0, Value.int .u8 0, Value.int .u8 0, Value.int .u8 0, Value.int .u8 0, Value.int .u8 0, Value.int .u8 0, Value.int .u8 0, Value.int .u8 0, Value.int .u8 0, Value.int .u8 0] 141)
    rw [World.size_alloc] at this
    exact this)
  have hat := fun W => run_arrayAtF (P := Try.prog) 141 _ 12 (some ⟨w.heap.size, 0, none⟩) 16 16 Try.underlying141 (by omega) W
  go_enter Try.func102, Try.ntmps102
  go_wp2_with (first | (refine wpList_load_part rfl 141 _ rfl w.heap.size 0 rfl (Q12 f) _ (fun j v e => by
      have hj : j < 12 := by
        rcases Nat.lt_or_ge j 12 with h | h
        · exact h
        · rw [arr_none _ _ _ _ h] at e; cases e
      rw [Nat.zero_add, Lib.cell_of_heap H0.out, arr_get _ _ _ _ (by omega), ← e, arr_get _ _ _ _ hj]) Try.underlying141 rfl (p12_info _ (arr_size _ _ _)) ?_) | (refine wpList_store_row rfl 141 _ _ rfl (w.heap.size + 1) (Q12 f) rfl rfl 141 _ H1.out (p12_info _ rfl) rfl (arr_cells _ _ _) ?_))
  refine bodyPost_ret (v := .agg (Q12 f)) ?_ rfl ⟨rfl, ?_⟩
  · exact results_cell_row Try.results102 _ _ (w.heap.size + 1) _ _ _ _ rfl (setRow_heap _ _ _ _ _ _ H1.out) Try.underlying141 rfl (p12_info _ (arr_size _ _ _))
  · exact below_setRow B0.out (by omega) _
end Go.Proofs.Ytkijgadkgfapgaa
