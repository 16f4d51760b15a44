/-
  CONTRACTS: payloads and frames that are made, on both sides.
-/
import Derived.Test.YtkijgadkgfapgaaDoorFi
import Derived.Test.YtkijgadkgfapgaaDoorFo
namespace Go.Proofs.YtkijgadkgfapgaaDoor
open Go.ChangeShapes Go.WideShapes Go.ChangeAt Go.RowKit
theorem results_cell_tmp_rowF {P : Program} {fn : Func} {p u : Tmp} {ty : TypeId} (h : fn.results = #[.cell p ty, .tmp u]) (tmps : Array Value) (w : World) (g : Nat) (t : TypeId) (cs : Array Value) (fr : Nat × Nat) (d : TypeDesc)
    (hp : tmps.getD p undef = .pointer (some ⟨g, 0, none⟩)) (hg : w.heap[g]? = some (.cells cs t fr)) (hu : P.underlying ty = some d) (hd : (match d with | .struct _ | .array _ _ => true | _ => false) = true) (hi : (P.info? ty).map (·.size) = some cs.size) :
    (results fn tmps).run P w = .ok (.tuple #[.agg cs, tmps.getD u undef]) w := by
  rw [results_cell_tmp h, hp]
  simp [asAddr, run_loadVar_row w g t ty cs fr d hg hu hd hi]
theorem run_arrayAtF {P : Program} (t e : TypeId) (n : Nat) (a : Option Addr) (len cap : Nat) (h : P.underlying t = some (.array n e)) (hl : n ≤ len) (w : World) : (Instr.arrayAt t (.slice a len cap)).run P w = .ok (.pointer a) w := by
  have : ¬ len < n := by omega
  simp [Instr.arrayAt, run_underlying h, this]
/-- the frame of a payload with an index -/
def mkfF (i : Nat) (p : Nat → Int) : Nat → Int := catU p 12 (byW (chk i p))
theorem mkfF_lo (i : Nat) (p : Nat → Int) {j : Nat} (h : j < 12) : mkfF i p j = p j := catU_lo h
theorem mkfF_hi (i : Nat) (p : Nat → Int) (j : Nat) : mkfF i p (12 + j) = byW (chk i p) j := catU_hi _ _ _ _
theorem mkfF_by (i : Nat) (p : Nat → Int) (hp : ByF 12 p) (n : Nat) : ByF n (mkfF i p) := fun j _ => by
  by_cases h : j < 12
  · rw [mkfF_lo _ _ h]; exact hp j h
  · rw [show j = 12 + (j - 12) by omega, mkfF_hi]
    exact byW_By _ (j - 12 + 1) _ (by omega)
def mkX (i : Int) (p : Nat → Int) : Nat → Int := if inX i then mkfF i.toNat p else zI
set_option maxRecDepth 20000 in
set_option maxHeartbeats 2000000 in
theorem iPay_any (f : Nat → Int) (w : World) :
    Calls Tryd.prog 22 #[.agg (Q16 f)] w fun e w' => e = .returned (.agg (Q12 f)) ∧ Below w.heap.size w w' := by
  obtain ⟨w1, hw1⟩ : ∃ w1, (w.alloc (.cells (Q16 f) 47)).alloc (.cells #[Value.int .u8 0, Value.int .u8 0, Value.int .u8 0, Value.int .u8 0, Value.int .u8 0, Value.int .u8 0, Value.int .u8 0, Value.int .u8 0, Value.int .u8 0, Value.int .u8 0, Value.int .u8 0, Value.int .u8 0] 53) = w1 := ⟨_, rfl⟩
  have B0 : Hid (Below w.heap.size w w1) := Lib.hid (by rw [← hw1]; exact ((Below.refl _ w).alloc (Nat.le_refl _) _).alloc (by simp) _)
  have H0 : Hid (w1.heap[w.heap.size]? = some (.cells (Q16 f) 47 (0, 0))) := Lib.hid (by rw [← hw1]; exact (Below.heap_alloc _ _ _ (by simp)).trans (World.alloc_heap_new w _))
  have H1 : Hid (w1.heap[w.heap.size + 1]? = some (.cells #[Value.int .u8 0, Value.int .u8 0, Value.int .u8 0, Value.int .u8 0, Value.int .u8 0, Value.int .u8 0, Value.int .u8 0, Value.int .u8 0, Value.int .u8 0, Value.int .u8 0, Value.int .u8 0, Value.int .u8 0] 53 (0, 0))) := Lib.hid (by
    rw [← hw1]
    have := World.alloc_heap_new (w.alloc (.cells (Q16 f) 47)) (.cells #[Value.int .u8 0, Value.int .u8 0, Value.int .u8 0, Value.int .u8 0, Value.int .u8 0, Value.int .u8 0, Value.int .u8 0, Value.int .u8 0, Value.int .u8 0, Value.int .u8 0, Value.int .u8 0, Value.int .u8 0] 53)
    rw [World.size_alloc] at this
    exact this)
  have hat := fun W => run_arrayAtF (P := Tryd.prog) 53 _ 12 (some ⟨w.heap.size, 0, none⟩) 16 16 Tryd.underlying53 (by omega) W
  go_enter Tryd.func22, Tryd.ntmps22
  go_wp2_with (first | (refine wpList_load_part rfl 53 _ rfl w.heap.size 0 rfl (Q12 f) _ (fun j v e => by
      have hj : j < 12 := by
        rcases Nat.lt_or_ge j 12 with h | h
        · exact h
        · rw [arr_none _ _ _ _ h] at e; cases e
      rw [Nat.zero_add, Lib.cell_of_heap H0.out, arr_get _ _ _ _ (by omega), ← e, arr_get _ _ _ _ hj]) Tryd.underlying53 rfl (p12_info _ (arr_size _ _ _)) ?_) | (refine wpList_store_row rfl 53 _ _ rfl (w.heap.size + 1) (Q12 f) rfl rfl 53 _ H1.out (p12_info _ rfl) rfl (arr_cells _ _ _) ?_))
  refine bodyPost_ret (v := .agg (Q12 f)) ?_ rfl ⟨rfl, ?_⟩
  · exact results_cell_row Tryd.results22 _ _ (w.heap.size + 1) _ _ _ _ rfl (setRow_heap _ _ _ _ _ _ H1.out) Tryd.underlying53 rfl (p12_info _ (arr_size _ _ _))
  · exact below_setRow B0.out (by omega) _
end Go.Proofs.YtkijgadkgfapgaaDoor
