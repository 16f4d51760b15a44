/-
  SEVERAL TEXTS IN ONE: XMb,XMh,XMl,XMi,XOr,XPk
-/
import Derived.Test.YthfmkejdpflpcaaArr
import Derived.Laws.BitsAllLaws
import Derived.Laws.Closers25b
import Derived.Test.YthfmkejdpflpcaaChecked
import Derived.Outline
import Derived.LoopTactic
import Derived.Deep.QuietTactic
import Derived.BigQuiet
import Derived.Laws.Rows
import Derived.Laws.ResultCell
import Derived.RegionTactic
import Derived.Lib.Builder
import Derived.Deep.OwnRows
import Derived.RangeFuncRecord
import Derived.BigRegion
import Derived.Shelf.Abstract
import Derived.TacticsInMore
import Derived.LoopIn
import Derived.StillTailTactics
import Derived.Laws.CopyOwn
import Derived.Laws.OwnMore
import Derived.OwnWalk
import Derived.Test.YthfmkejdpflpcaaGpa
/-
  MASKS: 16 rows of 16 bits (no program in sight): which cells are set; one cell set, or taken away.
-/
namespace Go.Proofs.Ythfmkejdpflpcaa
/-- rows of 16 bits -/
def MB (f : Nat → Int) : Prop := ∀ y, y < 16 → 0 ≤ f y ∧ f y ≤ 65535
/-- is the cell (x, y) set? -/
def hasF (f : Nat → Int) (x y : Nat) : Bool := (f y).toNat.testBit x
theorem row_ext {a b : Int} (ha : 0 ≤ a ∧ a ≤ 65535) (hb : 0 ≤ b ∧ b ≤ 65535) (h : ∀ x, x < 16 → a.toNat.testBit x = b.toNat.testBit x) : a = b := by
  have e : a.toNat = b.toNat := by
    refine Nat.eq_of_testBit_eq fun i => ?_
    by_cases hi : i < 16
    · exact h i hi
    · rw [Nat.testBit_lt_two_pow (x := a.toNat), Nat.testBit_lt_two_pow (x := b.toNat)]
      · have : 2 ^ 16 ≤ 2 ^ i := Nat.pow_le_pow_right (by omega) (by omega)
        omega
      · have : 2 ^ 16 ≤ 2 ^ i := Nat.pow_le_pow_right (by omega) (by omega)
        omega
  omega
/-- masks with the same cells are one -/
theorem mask_ext {f g : Nat → Int} (hf : MB f) (hg : MB g) (h : ∀ x y, x < 16 → y < 16 → hasF f x y = hasF g x y) : arr .u16 16 f = arr .u16 16 g :=
  arr_congr fun y hy => row_ext (hf y hy) (hg y hy) fun x hx => h x y hx hy
theorem pow16 {x : Nat} (h : x < 16) : (2 : Int) ^ x % 65536 = 2 ^ x := by
  have h2 : (2 : Nat) ^ x ≤ 2 ^ 15 := Nat.pow_le_pow_right (by omega) (by omega)
  have e : (2 : Int) ^ x = ((2 ^ x : Nat) : Int) := by push_cast; rfl
  rw [e]
  generalize 2 ^ x = q at h2 ⊢
  omega
theorem pow16_nat {x : Nat} (h : x < 16) : (2 : Nat) ^ x < 65536 := by
  have h2 : (2 : Nat) ^ x ≤ 2 ^ 15 := Nat.pow_le_pow_right (by omega) (by omega)
  omega
theorem pow16_int (x : Nat) : (2 : Int) ^ x = ((2 ^ x : Nat) : Int) := by push_cast; rfl
theorem shr_bit {v : Int} (hv : 0 ≤ v ∧ v ≤ 65535) (x : Nat) : bits .and .u16 (v / 2 ^ x) 1 = if v.toNat.testBit x then 1 else 0 := by
  obtain ⟨n, rfl⟩ : ∃ n : Nat, v = n := ⟨v.toNat, by omega⟩
  have hd := Nat.div_le_self n (2 ^ x)
  have e : (n : Int) / 2 ^ x = ((n / 2 ^ x : Nat) : Int) := by push_cast; rfl
  rw [e, show (1 : Int) = ((1 : Nat) : Int) from rfl, u16_and_nat _ _ (by omega) (by omega), Int.toNat_natCast, Nat.testBit_eq_decide_div_mod_eq, Nat.and_one_is_mod]
  have h2 := Nat.mod_two_eq_zero_or_one (n / 2 ^ x)
  rcases h2 with h | h <;> simp [h]
theorem shr_lo {v : Int} (hv : 0 ≤ v ∧ v ≤ 65535) (x : Nat) : 0 ≤ v / 2 ^ x ∧ v / 2 ^ x ≤ 65535 := by
  obtain ⟨n, rfl⟩ : ∃ n : Nat, v = n := ⟨v.toNat, by omega⟩
  have hd := Nat.div_le_self n (2 ^ x)
  have e : (n : Int) / 2 ^ x = ((n / 2 ^ x : Nat) : Int) := by push_cast; rfl
  rw [e]
  generalize n / 2 ^ x = q at hd ⊢
  omega
/-- a bit laid, and one taken away -/
def orB (v : Int) (x : Nat) : Int := bits .or .u16 v (2 ^ x)
def offB (v : Int) (x : Nat) : Int := bits .andNot .u16 v (2 ^ x)
theorem u16_hi (op : BinOp) (a b : Int) : 0 ≤ bits op .u16 a b ∧ bits op .u16 a b ≤ 65535 := by
  have := bits_within op .u16 a b
  exact this
theorem orB_bit {v : Int} (hv : 0 ≤ v ∧ v ≤ 65535) {x : Nat} (hx : x < 16) (u : Nat) : (orB v x).toNat.testBit u = (v.toNat.testBit u || decide (u = x)) := by
  obtain ⟨n, rfl⟩ : ∃ n : Nat, v = n := ⟨v.toNat, by omega⟩
  unfold orB
  rw [pow16_int, u16_or_nat _ _ (by omega) (pow16_nat hx), Int.toNat_natCast, Int.toNat_natCast, Nat.testBit_or, Nat.testBit_two_pow]
  congr 1
  rw [Bool.eq_iff_iff]; simp [eq_comm]
theorem offB_bit {v : Int} (hv : 0 ≤ v ∧ v ≤ 65535) {x : Nat} (hx : x < 16) (u : Nat) (hu : u < 16) : (offB v x).toNat.testBit u = (v.toNat.testBit u && !decide (u = x)) := by
  obtain ⟨n, rfl⟩ : ∃ n : Nat, v = n := ⟨v.toNat, by omega⟩
  unfold offB
  rw [pow16_int, u16_andNot_nat _ _ (by omega) (pow16_nat hx), Int.toNat_natCast, Int.toNat_natCast, Nat.testBit_and]
  congr 1
  have e : 65535 - 2 ^ x = 2 ^ 16 - (2 ^ x + 1) := by omega
  rw [e, Nat.testBit_two_pow_sub_succ (pow16_nat hx), Nat.testBit_two_pow]
  simp only [hu, decide_true, Bool.true_and]
  congr 1
  rw [Bool.eq_iff_iff]; simp [eq_comm]
def setF (f : Nat → Int) (x y : Nat) : Nat → Int := updI f y (orB (f y) x)
def offF (f : Nat → Int) (x y : Nat) : Nat → Int := updI f y (offB (f y) x)
theorem setF_MB {f : Nat → Int} (hf : MB f) (x y : Nat) : MB (setF f x y) := fun i hi => by
  unfold setF updI
  split
  · exact u16_hi _ _ _
  · exact hf i hi
theorem offF_MB {f : Nat → Int} (hf : MB f) (x y : Nat) : MB (offF f x y) := fun i hi => by
  unfold offF updI
  split
  · exact u16_hi _ _ _
  · exact hf i hi
theorem hasF_set {f : Nat → Int} (hf : MB f) {x y : Nat} (hx : x < 16) (hy : y < 16) (u v : Nat) : hasF (setF f x y) u v = (hasF f u v || (decide (u = x) && decide (v = y))) := by
  unfold hasF setF updI
  by_cases h : v = y
  · subst h; rw [if_pos rfl, orB_bit (hf v hy) hx]; simp
  · rw [if_neg h]; simp [h]
theorem hasF_off {f : Nat → Int} (hf : MB f) {x y : Nat} (hx : x < 16) (hy : y < 16) (u v : Nat) (hu : u < 16) : hasF (offF f x y) u v = (hasF f u v && !(decide (u = x) && decide (v = y))) := by
  unfold hasF offF updI
  by_cases h : v = y
  · subst h; rw [if_pos rfl, offB_bit (hf v hy) hx u hu]; simp
  · rw [if_neg h]; simp [h]
/-- a cell set, or not -/
def withF (f : Nat → Int) (x y : Nat) (on : Bool) : Nat → Int := if on then setF (offF f x y) x y else offF f x y
theorem withF_MB {f : Nat → Int} (hf : MB f) (x y : Nat) (on : Bool) : MB (withF f x y on) := by
  unfold withF
  split
  · exact setF_MB (offF_MB hf _ _) _ _
  · exact offF_MB hf _ _
theorem hasF_with {f : Nat → Int} (hf : MB f) {x y : Nat} (hx : x < 16) (hy : y < 16) (on : Bool) (u v : Nat) (hu : u < 16) : hasF (withF f x y on) u v = if u = x ∧ v = y then on else hasF f u v := by
  unfold withF
  cases on
  · rw [if_neg (by simp), hasF_off hf hx hy _ _ hu]
    by_cases h1 : u = x <;> by_cases h2 : v = y <;> simp [h1, h2]
  · rw [if_pos rfl, hasF_set (offF_MB hf _ _) hx hy, hasF_off hf hx hy _ _ hu]
    by_cases h1 : u = x <;> by_cases h2 : v = y <;> simp [h1, h2]
theorem zero_MB : MB zI := fun _ _ => by simp [zI]
theorem hasF_zero (x y : Nat) : hasF zI x y = false := by simp [hasF, zI]
theorem MB.of_wf {f : Nat → Int} (h : ∀ i, i < 16 → (Lit.int .u16 (f i)).wf = true) : MB f := fun i hi => by
  have := h i hi
  have h2 : IntKind.u16.min ≤ f i ∧ f i ≤ IntKind.u16.max := by simpa [Lit.wf] using this
  exact h2
end Go.Proofs.Ythfmkejdpflpcaa
/-
  CONTRACTS: masks by value: is a cell set, a cell set or not.
-/
namespace Go.Proofs.Ythfmkejdpflpcaa
open Go.ChangeShapes Go.WideShapes Go.ChangeAt Go.RowKit
theorem mret_bool {a b : Bool} (h : a = b) : Ending.returned (.bool a) = .returned (.bool b) := by rw [h]
theorem mret_int {k : IntKind} {a b : Int} (h : a = b) : Ending.returned (.int k a) = .returned (.int k b) := by rw [h]
abbrev M16 (f : Nat → Int) : Array Value := arr .u16 16 f
theorem mask_info (A : Array Value) (h : A.size = 16) : (Try.prog.info? 71).map (·.size) = some A.size := by rw [h]; kernel_rfl
theorem a16_info (A : Array Value) (h : A.size = 16) : (Try.prog.info? 70).map (·.size) = some A.size := by rw [h]; kernel_rfl
theorem mset_at {w : World} {g : Nat} {A : Array Value} {t : TypeId} (h : w.heap[g]? = some (.cells A t (0, 0))) (x : Nat) (v : Value) : (w.setCell ⟨g, x, none⟩ v).heap[g]? = some (.cells (A.setIfInBounds x v) t (0, 0)) := by
  simp [World.setCell, Array.getElem?_modify, h]
theorem mset_far {w : World} {g k x : Nat} (h : k ≠ g) (v : Value) : (w.setCell ⟨g, x, none⟩ v).heap[k]? = w.heap[k]? := Below.heap_setCell _ _ _ _ h
theorem mbelow_setRow {w W : World} {B g : Nat} {A : Array Value} (h : Below B w W) (hg : B ≤ g) : Below B w (W.setRow g A) := below_setRow h hg _
theorem shl1 {x : Nat} (h : x < 16) : IntKind.u16.wrap (2 ^ x) = 2 ^ x := by rw [IntKind.wrap_u16, pow16 h]
/-- are a column and a row those of a cell of a mask? -/
def inB (x y : Int) : Bool := decide (0 ≤ x) && decide (x < 16) && decide (0 ≤ y) && decide (y < 16)
theorem inB_nat {x y : Int} (h : inB x y = true) : ∃ a b : Nat, x = a ∧ y = b ∧ a < 16 ∧ b < 16 := by
  simp [inB] at h
  exact ⟨x.toNat, y.toNat, by omega, by omega, by omega, by omega⟩
set_option maxRecDepth 20000 in
theorem mhas_any (f : Nat → Int) (hf : MB f) (x y : Nat) (hx : x < 16) (hy : y < 16) (w : World) :
    Calls Try.prog 114 #[.agg (M16 f), .int .i64 (x : Int), .int .i64 (y : Int)] w fun e w' => e = .returned (.bool (hasF f x y)) ∧ w' = w.alloc (.cells (M16 f) 71) := by
  have hv := hf y hy
  have HS : Hid (bits .and .u16 (f y / 2 ^ x) 1 = if (f y).toNat.testBit x then 1 else 0) := Lib.hid (shr_bit hv x)
  obtain ⟨v0, v1⟩ := hv
  have hc : (w.alloc (.cells (M16 f) 71)).cell? ⟨w.heap.size, y, none⟩ = some (.int .u16 (f y)) := (Lib.cell_of_heap (World.alloc_heap_new w _) y).trans (arr_get _ _ _ _ hy)
  have hx' : (x : Int) ≤ 16 := by omega
  have hy' : (y : Int) < 16 := by omega
  clear hf
  unfold hasF
  generalize f y = v at hc v0 v1 HS ⊢
  go_enter Try.func114, Try.ntmps114
  go_wp2
  go_ret
  exact ⟨mret_bool (by rw [HS.out]; cases v.toNat.testBit x <;> rfl), rfl⟩
set_option maxRecDepth 100000 in
set_option maxHeartbeats 4000000 in
theorem mwith_any (f : Nat → Int) (hf : MB f) (x y : Nat) (hx : x < 16) (hy : y < 16) (on : Bool) (w : World) :
    Calls Try.prog 132 #[.agg (M16 f), .int .i64 (x : Int), .int .i64 (y : Int), .bool on] w fun e w' => e = .returned (.agg (M16 (withF f x y on))) ∧ Below w.heap.size w w' := by
  have Z : M16 zI = #[Value.int .u16 0, Value.int .u16 0, Value.int .u16 0, Value.int .u16 0, Value.int .u16 0, Value.int .u16 0, Value.int .u16 0, Value.int .u16 0, Value.int .u16 0, Value.int .u16 0, Value.int .u16 0, Value.int .u16 0, Value.int .u16 0, Value.int .u16 0, Value.int .u16 0, Value.int .u16 0] := rfl
  have S1 : ((w.alloc (.cells (M16 f) 71)).alloc (.cells (M16 zI) 71)).heap[w.heap.size + 1]? = some (.cells (M16 zI) 71 (0, 0)) := by
    have := World.alloc_heap_new (w.alloc (.cells (M16 f) 71)) (.cells (M16 zI) 71)
    rw [World.size_alloc] at this
    exact this
  have S0 : ((w.alloc (.cells (M16 f) 71)).alloc (.cells (M16 zI) 71)).heap[w.heap.size]? = some (.cells (M16 f) 71 (0, 0)) := (Below.heap_alloc _ _ _ (by simp)).trans (World.alloc_heap_new w _)
  have SB : Below w.heap.size w ((w.alloc (.cells (M16 f) 71)).alloc (.cells (M16 zI) 71)) := ((Below.refl _ w).alloc (Nat.le_refl _) _).alloc (by simp) _
  have H1 := Lib.hid S1
  have H0 := Lib.hid S0
  have HB := Lib.hid SB
  clear S1 S0 SB
  rw [Z] at H1 H0 HB
  clear Z
  have hx' : (x : Int) ≤ 16 := by omega
  have hy' : (y : Int) < 16 := by omega
  have W1 := shl1 hx
  have F1 : Hid (offB (f y) x = offF f x y y) := Lib.hid (by unfold offF updI; rw [if_pos rfl])
  have hcy : ((w.alloc (.cells (M16 f) 71)).alloc (.cells #[Value.int .u16 0, Value.int .u16 0, Value.int .u16 0, Value.int .u16 0, Value.int .u16 0, Value.int .u16 0, Value.int .u16 0, Value.int .u16 0, Value.int .u16 0, Value.int .u16 0, Value.int .u16 0, Value.int .u16 0, Value.int .u16 0, Value.int .u16 0, Value.int .u16 0, Value.int .u16 0] 71)).cell? ⟨w.heap.size, y, none⟩ = some (.int .u16 (f y)) := (Lib.cell_of_heap H0.out y).trans (arr_get _ _ _ _ hy)
  have hfy : ((w.alloc (.cells (M16 f) 71)).alloc (.cells #[Value.int .u16 0, Value.int .u16 0, Value.int .u16 0, Value.int .u16 0, Value.int .u16 0, Value.int .u16 0, Value.int .u16 0, Value.int .u16 0, Value.int .u16 0, Value.int .u16 0, Value.int .u16 0, Value.int .u16 0, Value.int .u16 0, Value.int .u16 0, Value.int .u16 0, Value.int .u16 0] 71)).frozen? ⟨w.heap.size, y, none⟩ = false := Lib.frozen_of_heap H0.out y
  clear hf
  have HY := Lib.hid hy
  cases on
  all_goals
    go_enter Try.func132, Try.ntmps132
    go_wp2
    generalize (w.alloc (.cells (M16 f) 71)).alloc (.cells #[Value.int .u16 0, Value.int .u16 0, Value.int .u16 0, Value.int .u16 0, Value.int .u16 0, Value.int .u16 0, Value.int .u16 0, Value.int .u16 0, Value.int .u16 0, Value.int .u16 0, Value.int .u16 0, Value.int .u16 0, Value.int .u16 0, Value.int .u16 0, Value.int .u16 0, Value.int .u16 0] 71) = w1 at H1 H0 HB hcy hfy ⊢
    go_still_tail 7, (by kernel_rfl)
    change wpList _ _ _ _ _ w1.drew
    obtain ⟨W2, hW2⟩ : ∃ W2, w1.drew.setCell ⟨w.heap.size, y, none⟩ (.int .u16 (offB (f y) x)) = W2 := ⟨_, rfl⟩
    have hW2' : w1.drew.setCell ⟨w.heap.size, y, none⟩ (.int .u16 (bits .andNot .u16 (f y) (2 ^ x))) = W2 := hW2
    have K1 : Hid (W2.heap[w.heap.size + 1]? = some (.cells #[Value.int .u16 0, Value.int .u16 0, Value.int .u16 0, Value.int .u16 0, Value.int .u16 0, Value.int .u16 0, Value.int .u16 0, Value.int .u16 0, Value.int .u16 0, Value.int .u16 0, Value.int .u16 0, Value.int .u16 0, Value.int .u16 0, Value.int .u16 0, Value.int .u16 0, Value.int .u16 0] 71 (0, 0))) := Lib.hid (by rw [← hW2, mset_far (by omega)]; exact H1.out)
    have K0 : Hid (W2.heap[w.heap.size]? = some (.cells (M16 (offF f x y)) 71 (0, 0))) := Lib.hid (by rw [← hW2, mset_at (w := w1.drew) H0.out, arr_set _ _ _ _ _ HY.out]; rfl)
    have KB : Hid (Below w.heap.size w W2) := Lib.hid (by rw [← hW2]; exact HB.out.drew.setCell (p := ⟨w.heap.size, y, none⟩) (by simp) _)
    have hc2 : W2.cell? ⟨w.heap.size, y, none⟩ = some (.int .u16 (offF f x y y)) := (Lib.cell_of_heap K0.out y).trans (arr_get _ _ _ _ HY.out)
    have hf2 : W2.frozen? ⟨w.heap.size, y, none⟩ = false := Lib.frozen_of_heap K0.out y
    clear hW2
  · go_wp2_with (first | (refine wpList_load_row rfl 71 _ rfl w.heap.size rfl 71 _ _ _ K0.out Try.underlying71 rfl (mask_info _ (arr_size _ _ _)) ?_) | (refine wpList_store_row rfl 71 _ _ rfl (w.heap.size + 1) (M16 (offF f x y)) rfl rfl 71 _ K1.out (mask_info _ rfl) rfl (arr_cells _ _ _) ?_))
    refine bodyPost_ret (v := .agg (M16 (offF f x y))) ?_ rfl ⟨rfl, ?_⟩
    · exact results_cell_row Try.results132 _ _ (w.heap.size + 1) _ _ _ _ rfl (setRow_heap _ _ _ _ _ _ K1.out) Try.underlying71 rfl (mask_info _ (arr_size _ _ _))
    · exact below_setRow KB.out (by omega) _
  · go_wp2_with fail
    go_still_tail 7, (by kernel_rfl)
    change wpList _ _ _ _ _ W2.drew
    obtain ⟨W3, hW3⟩ : ∃ W3, W2.drew.setCell ⟨w.heap.size, y, none⟩ (.int .u16 (orB (offF f x y y) x)) = W3 := ⟨_, rfl⟩
    have hW3' : W2.drew.setCell ⟨w.heap.size, y, none⟩ (.int .u16 (bits .or .u16 (offF f x y y) (2 ^ x))) = W3 := hW3
    have L1 : Hid (W3.heap[w.heap.size + 1]? = some (.cells #[Value.int .u16 0, Value.int .u16 0, Value.int .u16 0, Value.int .u16 0, Value.int .u16 0, Value.int .u16 0, Value.int .u16 0, Value.int .u16 0, Value.int .u16 0, Value.int .u16 0, Value.int .u16 0, Value.int .u16 0, Value.int .u16 0, Value.int .u16 0, Value.int .u16 0, Value.int .u16 0] 71 (0, 0))) := Lib.hid (by rw [← hW3, mset_far (by omega)]; exact K1.out)
    have L0 : Hid (W3.heap[w.heap.size]? = some (.cells (M16 (withF f x y true)) 71 (0, 0))) := Lib.hid (by rw [← hW3, mset_at (w := W2.drew) K0.out, arr_set _ _ _ _ _ HY.out]; rfl)
    have LB : Hid (Below w.heap.size w W3) := Lib.hid (by rw [← hW3]; exact KB.out.drew.setCell (p := ⟨w.heap.size, y, none⟩) (by simp) _)
    clear hW3
    go_wp2_with (first | (refine wpList_load_row rfl 71 _ rfl w.heap.size rfl 71 _ _ _ L0.out Try.underlying71 rfl (mask_info _ (arr_size _ _ _)) ?_) | (refine wpList_store_row rfl 71 _ _ rfl (w.heap.size + 1) (M16 (withF f x y true)) rfl rfl 71 _ L1.out (mask_info _ rfl) rfl (arr_cells _ _ _) ?_))
    refine bodyPost_ret (v := .agg (M16 (withF f x y true))) ?_ rfl ⟨rfl, ?_⟩
    · exact results_cell_row Try.results132 _ _ (w.heap.size + 1) _ _ _ _ rfl (setRow_heap _ _ _ _ _ _ L1.out) Try.underlying71 rfl (mask_info _ (arr_size _ _ _))
    · exact below_setRow LB.out (by omega) _
end Go.Proofs.Ythfmkejdpflpcaa
/-
  HOW THE LAWS TAKE MASKS and hold them against each other.
-/
namespace Go.Proofs.Ythfmkejdpflpcaa
open Go.ChangeShapes Go.WideShapes Go.ChangeAt Go.RowKit
theorem mdrewN {B : Nat} {w w' : World} (h : Below B w w') (n : Nat) : Below B w (w'.drewN n) := h.trans ⟨rfl, rfl, rfl, Nat.le_refl _, fun _ _ => rfl⟩
set_option maxRecDepth 20000 in
set_option maxHeartbeats 2000000 in
theorem toMask_any (f : Nat → Int) (w : World) :
    Calls Try.prog 107 #[.agg (M16 f)] w fun e w' => e = .returned (.agg (M16 f)) ∧ Below w.heap.size w w' := by
  have S0 : (((w.alloc (.cells (M16 f) 70)).alloc (.cells (M16 zI) 71)).alloc (.cells (M16 zI) 71)).heap[w.heap.size]? = some (.cells (M16 f) 70 (0, 0)) := ((Below.heap_alloc _ _ _ (by simp; omega)).trans (Below.heap_alloc _ _ _ (by simp))).trans (World.alloc_heap_new w _)
  have S1 : (((w.alloc (.cells (M16 f) 70)).alloc (.cells (M16 zI) 71)).alloc (.cells (M16 zI) 71)).heap[w.heap.size + 1]? = some (.cells (M16 zI) 71 (0, 0)) := by
    refine (Below.heap_alloc _ _ _ (by simp)).trans ?_
    have := World.alloc_heap_new (w.alloc (.cells (M16 f) 70)) (.cells (M16 zI) 71)
    rw [World.size_alloc] at this
    exact this
  have S2 : (((w.alloc (.cells (M16 f) 70)).alloc (.cells (M16 zI) 71)).alloc (.cells (M16 zI) 71)).heap[w.heap.size + 1 + 1]? = some (.cells (M16 zI) 71 (0, 0)) := by
    have := World.alloc_heap_new ((w.alloc (.cells (M16 f) 70)).alloc (.cells (M16 zI) 71)) (.cells (M16 zI) 71)
    rw [World.size_alloc, World.size_alloc] at this
    exact this
  have SB : Below w.heap.size w (((w.alloc (.cells (M16 f) 70)).alloc (.cells (M16 zI) 71)).alloc (.cells (M16 zI) 71)) := (((Below.refl _ w).alloc (Nat.le_refl _) _).alloc (by simp) _).alloc (by simp; omega) _
  have H0 := Lib.hid S0
  have H1 := Lib.hid S1
  have H2 := Lib.hid S2
  have HB := Lib.hid SB
  clear S0 S1 S2 SB
  have Z : M16 zI = #[Value.int .u16 0, Value.int .u16 0, Value.int .u16 0, Value.int .u16 0, Value.int .u16 0, Value.int .u16 0, Value.int .u16 0, Value.int .u16 0, Value.int .u16 0, Value.int .u16 0, Value.int .u16 0, Value.int .u16 0, Value.int .u16 0, Value.int .u16 0, Value.int .u16 0, Value.int .u16 0] := rfl
  rw [Z] at H0 H1 H2 HB
  go_enter Try.func107, Try.ntmps107
  clear Z
  go_wp2
  generalize ((w.alloc (.cells (M16 f) 70)).alloc (.cells #[Value.int .u16 0, Value.int .u16 0, Value.int .u16 0, Value.int .u16 0, Value.int .u16 0, Value.int .u16 0, Value.int .u16 0, Value.int .u16 0, Value.int .u16 0, Value.int .u16 0, Value.int .u16 0, Value.int .u16 0, Value.int .u16 0, Value.int .u16 0, Value.int .u16 0, Value.int .u16 0] 71)).alloc (.cells #[Value.int .u16 0, Value.int .u16 0, Value.int .u16 0, Value.int .u16 0, Value.int .u16 0, Value.int .u16 0, Value.int .u16 0, Value.int .u16 0, Value.int .u16 0, Value.int .u16 0, Value.int .u16 0, Value.int .u16 0, Value.int .u16 0, Value.int .u16 0, Value.int .u16 0, Value.int .u16 0] 71) = w1 at H0 H1 H2 HB ⊢
  have H2' : Hid (w1.heap[w.heap.size + 1 + 1]? = some (.cells (M16 (mixI zI f 0)) 71 (0, 0))) := Lib.hid (by rw [mixI_zero]; exact H2.out)
  clear H2
  go_loopw [4] (fun i wr => ∃ k : Nat, k ≤ 16 ∧ i = .int .i64 k ∧ wr.heap[w.heap.size + 1 + 1]? = some (.cells (M16 (mixI zI f k)) 71 (0, 0)) ∧ wr.heap[w.heap.size]? = some (.cells (M16 f) 70 (0, 0)) ∧ wr.heap[w.heap.size + 1]? = some (.cells #[Value.int .u16 0, Value.int .u16 0, Value.int .u16 0, Value.int .u16 0, Value.int .u16 0, Value.int .u16 0, Value.int .u16 0, Value.int .u16 0, Value.int .u16 0, Value.int .u16 0, Value.int .u16 0, Value.int .u16 0, Value.int .u16 0, Value.int .u16 0, Value.int .u16 0, Value.int .u16 0] 71 (0, 0)) ∧ Below w.heap.size w wr) (fun i _ => 16 - (intOf i).toNat)
  case atStart => exact ⟨0, Nat.zero_le _, rfl, H2'.out, H0.out, H1.out, HB.out⟩
  case round =>
    obtain ⟨k, hk, rfl, h2, h0, h1, hB⟩ := hrel
    have K2 := Lib.hid h2
    have K0 := Lib.hid h0
    have K1 := Lib.hid h1
    have KB := Lib.hid hB
    clear h2 h0 h1 hB H0 H1 H2' HB
    by_cases hlt : k < 16
    · have t1 : (k : Int) < 16 := by omega
      have HK := Lib.hid hlt
      have c0 : wr.cell? ⟨w.heap.size, k, none⟩ = some (.int .u16 (f k)) := (Lib.cell_of_heap K0.out k).trans (arr_get _ _ _ _ hlt)
      have c2 : wr.cell? ⟨w.heap.size + 1 + 1, k, none⟩ = some (.int .u16 (mixI zI f k k)) := (Lib.cell_of_heap K2.out k).trans (arr_get _ _ _ _ hlt)
      have f2 : wr.frozen? ⟨w.heap.size + 1 + 1, k, none⟩ = false := Lib.frozen_of_heap K2.out k
      generalize mixI zI f k k = v at c2
      clear hlt hk
      go_wp2
      go_roundw
      case rel => exact ⟨k + 1, by have := HK.out; omega, by go_num, by rw [mset_at K2.out, arr_set _ _ _ _ _ HK.out, mixI_step], by rw [mset_far (by omega)]; exact K0.out, by rw [mset_far (by omega)]; exact K1.out, KB.out.setCell (p := ⟨w.heap.size + 1 + 1, _, none⟩) (by simp; omega) _⟩
      case measure => have := HK.out; simp [intOf]; omega
    · obtain rfl : k = 16 := by omega
      have G2 : Hid (wr.heap[w.heap.size + 1 + 1]? = some (.cells (M16 f) 71 (0, 0))) := Lib.hid (by have := K2.out; rwa [show M16 (mixI zI f 16) = M16 f from arr_mix .u16 16 zI f] at this)
      clear K2 hk hlt
      go_wp2_with (first | (refine wpList_load_row rfl 71 _ rfl (w.heap.size + 1 + 1) rfl 71 _ _ _ G2.out Try.underlying71 rfl (mask_info _ (arr_size _ _ _)) ?_) | (refine wpList_store_row rfl 71 _ _ rfl (w.heap.size + 1) (M16 f) rfl rfl 71 _ K1.out (mask_info _ rfl) rfl (arr_cells _ _ _) ?_))
      refine bodyPost_ret (v := .agg (M16 f)) ?_ rfl ⟨rfl, ?_⟩
      · exact results_cell_row Try.results107 _ _ (w.heap.size + 1) _ _ _ _ rfl (setRow_heap _ _ _ _ _ _ K1.out) Try.underlying71 rfl (mask_info _ (arr_size _ _ _))
      · exact below_setRow KB.out (by omega) _
set_option maxRecDepth 20000 in
set_option maxHeartbeats 2000000 in
theorem eqMask_any (f g : Nat → Int) (h : M16 g = M16 f) (w : World) :
    Calls Try.prog 101 #[.agg (M16 f), .agg (M16 g)] w fun e w' => e = .returned (.bool true) ∧ Below w.heap.size w w' := by
  rw [h]
  clear h
  have R0 : Hid (((w.alloc (.cells (M16 f) 71)).alloc (.cells (M16 f) 71)).heap[w.heap.size]? = some (.cells (M16 f) 71 (0, 0))) := Lib.hid ((Below.heap_alloc _ _ _ (by simp)).trans (World.alloc_heap_new w _))
  have R1 : Hid (((w.alloc (.cells (M16 f) 71)).alloc (.cells (M16 f) 71)).heap[w.heap.size + 1]? = some (.cells (M16 f) 71 (0, 0))) := Lib.hid (by
    have := World.alloc_heap_new (w.alloc (.cells (M16 f) 71)) (.cells (M16 f) 71)
    rw [World.size_alloc] at this
    exact this)
  have BB : Hid (Below w.heap.size w ((w.alloc (.cells (M16 f) 71)).alloc (.cells (M16 f) 71))) := Lib.hid (((Below.refl _ w).alloc (Nat.le_refl _) _).alloc (by simp) _)
  go_enter Try.func101, Try.ntmps101
  go_wp2
  generalize (w.alloc (.cells (M16 f) 71)).alloc (.cells (M16 f) 71) = w1 at R0 R1 BB ⊢
  go_loopw [5] (fun i wr => ∃ k n : Nat, k ≤ 16 ∧ i = .int .i64 k ∧ wr = w1.drewN n) (fun i _ => 16 - (intOf i).toNat)
  case atStart => exact ⟨0, 0, by omega, rfl, rfl⟩
  case round =>
    obtain ⟨k, n, hk, rfl, hw⟩ := hrel
    have W := Lib.hid hw
    by_cases hlt : k < 16
    · have hlt' : (k : Int) < 16 := by omega
      have c1 : wr.cell? ⟨w.heap.size, k, none⟩ = some (.int .u16 (f k)) := by rw [hw]; exact (Lib.cell_of_heap R0.out k).trans (arr_get _ _ _ _ hlt)
      have c2 : wr.cell? ⟨w.heap.size + 1, k, none⟩ = some (.int .u16 (f k)) := by rw [hw]; exact (Lib.cell_of_heap R1.out k).trans (arr_get _ _ _ _ hlt)
      clear hw
      generalize f k = v at c1 c2
      go_wp2
      go_quiet (fail)
      go_wp2
      go_roundw
      case rel => exact ⟨k + 1, _, by omega, by go_num, by rw [W.out, World.drewN_drewN]⟩
      case measure => simp [intOf]; omega
    · obtain rfl : k = 16 := by omega
      have B : Hid (Below w.heap.size w wr) := Lib.hid (by rw [hw]; exact BB.out.trans ⟨rfl, rfl, rfl, Nat.le_refl _, fun _ _ => rfl⟩)
      clear hw W
      go_wp2
      go_ret
      exact ⟨rfl, B.out⟩
end Go.Proofs.Ythfmkejdpflpcaa
/-
  CONTRACTS: HasCell, SetCell, JoinMasks, MeetMasks, MinusMasks on both sides.
-/
namespace Go.Proofs.Ythfmkejdpflpcaa
open Go.ChangeShapes Go.WideShapes Go.ChangeAt Go.RowKit
theorem l00In_any (n l h : Int) (w : World) :
    Calls Try.prog 92 #[.int .i64 n, .int .i64 l, .int .i64 h] w fun e w' => e = .returned (.bool (decide (l ≤ n) && decide (n ≤ h))) ∧ w = w' := by
  cases t1 : decide (l ≤ n) <;> cases t2 : decide (n ≤ h)
  all_goals
    go_enter Try.func92, Try.ntmps92
    go_wp2
    go_ret
    exact ⟨rfl, rfl⟩
/-- l07Has at a mask that lies in a block -/
theorem l07Has_any (g : Nat) (f : Nat → Int) (hf : MB f) (x y : Nat) (hx : x < 16) (hy : y < 16) (w : World) (hc : w.cell? ⟨g, y, none⟩ = some (.int .u16 (f y))) :
    Calls Try.prog 105 #[.pointer (some ⟨g, 0, none⟩), .int .i64 (x : Int), .int .i64 (y : Int)] w fun e w' => e = .returned (.bool (hasF f x y)) ∧ w = w' := by
  have hv := hf y hy
  have HS : Hid (bits .and .u16 (f y / 2 ^ x) 1 = if (f y).toNat.testBit x then 1 else 0) := Lib.hid (shr_bit hv x)
  obtain ⟨v0, v1⟩ := hv
  have hx' : (x : Int) ≤ 16 := by omega
  have hy' : (y : Int) < 16 := by omega
  clear hf
  unfold hasF
  generalize f y = v at hc v0 v1 HS ⊢
  go_enter Try.func105, Try.ntmps105
  go_wp2
  go_ret
  exact ⟨mret_bool (by rw [HS.out]; cases v.toNat.testBit x <;> rfl), rfl⟩
/-- what HasCell answers -/
def HcPost (f : Nat → Int) (x y : Int) (w : World) (e : Ending) (w' : World) : Prop := e = .returned (.tuple #[.bool (if inB x y then hasF f x.toNat y.toNat else false), .int .i64 (if inB x y then 0 else 2)]) ∧ Below w.heap.size w w'
end Go.Proofs.Ythfmkejdpflpcaa
/-
  CONTRACT: (Mask).inOneRow: the cells of a mask in one row.
-/
namespace Go.Proofs.Ythfmkejdpflpcaa
open Go.ChangeShapes Go.WideShapes Go.ChangeAt Go.RowKit
/-- the cell at a place of the one row -/
def bitR (f : Nat → Int) (i : Nat) : Bool := hasF f (i % 16) (i / 16)
theorem bitR_at (f : Nat → Int) {x y : Nat} (hx : x < 16) : bitR f (16 * y + x) = hasF f x y := by
  unfold bitR
  rw [show (16 * y + x) % 16 = x by omega, show (16 * y + x) / 16 = y by omega]
def rowV (f : Nat → Int) (k : Nat) : List Value := (List.range k).map fun i => Value.bool (bitR f i)
theorem rowV_len (f : Nat → Int) (k : Nat) : (rowV f k).length = k := by simp [rowV]
theorem rowV_snoc (f : Nat → Int) (k : Nat) : rowV f k ++ [.bool (bitR f k)] = rowV f (k + 1) := by simp [rowV, List.range_succ]
theorem rowV_get (f : Nat → Int) (k i : Nat) (h : i < k) : (rowV f k)[i]? = some (.bool (bitR f i)) := by simp [rowV, h]
abbrev BS : TypeId := 191
theorem info_bool : (Try.prog.info? 4).map (fun i => (i.zero, i.size, i.bytes)) = some (some (.bool false), 1, 1) := by kernel_rfl
theorem own_allocM {w : World} {base : Nat} {e : TypeId} {size : Nat} {v : Value} {n : Nat} {xs : List Value} (h : w.ownsRow base e size v n xs) (o : Obj) : (w.alloc o).ownsRow base e size v n xs := World.ownsRow.alloc h o
/-- 'row = append(row, b)' -/
theorem wpList_append_bool {ops : Array Oper} {rest : List Oper} {o : Oper} {a : Act} {W : World} {Q : Exit → Act → World → Prop} (hgd : o.guard = none) (s x : Operand)
    (ho : o.op = .call { callee := .builtin .append, args := #[s, x], argTypes := #[BS, BS] })
    (base : Nat) (v : Value) (n : Nat) (xs : List Value) (b : Bool) (hs : a.eval s = v) (hown : W.ownsRow base 4 1 v n xs) (m : Nat) (hm : W.heap.size = m) (hx : a.eval x = .slice (some ⟨m, 0, none⟩) 1 1)
    (hl : n ≤ 100000000) (hbase : base ≤ W.heap.size)
    (h : ∀ v' w', Hid (w'.ownsRow base 4 1 v' (n + 1) (xs ++ [.bool b])) → Hid (Below base W w') → wpList Try.prog ops Q rest (a.put o.dst v') w') : wpList Try.prog ops Q (o :: rest) a (W.alloc (.cells #[.bool b] 4)) := by
  subst hm
  obtain ⟨i0, hi, hz0, hz1, hz2⟩ := info_parts info_bool
  refine wpList_append_own _ hgd s x BS ho base 4 i0 (.bool false) 1 1 Try.underlying191 hi hz0 hz1 hz2 rfl (by decide) v n xs hs (own_allocM hown _) ⟨W.heap.size, 0, none⟩ 1 1 [.bool b] hx rfl ?_ ?_ (by unfold maxLen; omega) (by omega) (by simp; omega) ?_
  · intro j u hj
    match j, hj with
    | 0, hj => simp at hj; subst hj; exact Lib.cell_of_heap (World.alloc_heap_new W _) 0
    | j + 1, hj => simp at hj
  · intro u hu; simp at hu; subst hu; rfl
  · intro v' w' h1 h2 _
    exact h v' w' (Lib.hid h1) (Lib.hid (((Below.refl base W).alloc hbase _).grown h2 (by simp; omega) (fun k hk => (World.ownsRow.lt hown k hk).1)))
set_option maxRecDepth 20000 in
set_option maxHeartbeats 2000000 in
theorem inOneRow_any (f : Nat → Int) (hf : MB f) (w : World) :
    Calls Try.prog 184 #[.agg (M16 f)] w fun e w' => ∃ v, e = .returned v ∧ w'.ownsRow (w.heap.size + 1) 4 1 v 256 (rowV f 256) ∧ Below w.heap.size w w' := by
  have C0 : Hid ((w.alloc (.cells (M16 f) 71)).heap[w.heap.size]? = some (.cells (M16 f) 71 (0, 0))) := Lib.hid (World.alloc_heap_new w _)
  have B0 : Hid (Below w.heap.size w (w.alloc (.cells (M16 f) 71))) := Lib.hid ((Below.refl _ w).alloc (Nat.le_refl _) _)
  have HF := Lib.hid hf
  have V0 : Hid (rowV f (16 * 0) = []) := Lib.hid rfl
  clear hf
  go_enter Try.func184, Try.ntmps184
  go_wp2
  generalize w.alloc (.cells (M16 f) 71) = w1 at C0 B0 ⊢
  go_loopw [3, 6] (fun v i wr => ∃ y : Nat, y ≤ 16 ∧ i = .int .i64 (y : Int) ∧ wr.ownsRow (w.heap.size + 1) 4 1 v (16 * y) (rowV f (16 * y)) ∧ Below w.heap.size w wr ∧ wr.heap[w.heap.size]? = some (.cells (M16 f) 71 (0, 0))) (fun _ i _ => 16 - (intOf i).toNat)
  case atStart => exact ⟨0, by omega, rfl, by rw [V0.out]; exact World.ownsRow_nil _ _ _ _, B0.out, C0.out⟩
  case round =>
    obtain ⟨y, hy, rfl, hO, hB, h0⟩ := hrel
    have KO := Lib.hid hO
    have KB := Lib.hid hB
    have K0 := Lib.hid h0
    clear hO hB h0 B0 C0
    by_cases hlt : y < 16
    · have ty : (y : Int) < 16 := by omega
      have HY := Lib.hid hlt
      clear hlt hy
      go_wp2
      go_loopw [3, 9] (fun v i w2 => ∃ x : Nat, x ≤ 16 ∧ i = .int .i64 (x : Int) ∧ w2.ownsRow (w.heap.size + 1) 4 1 v (16 * y + x) (rowV f (16 * y + x)) ∧ Below w.heap.size w w2 ∧ w2.heap[w.heap.size]? = some (.cells (M16 f) 71 (0, 0))) (fun _ i _ => 16 - (intOf i).toNat)
      case atStart => exact ⟨0, by omega, rfl, KO.out, KB.out, K0.out⟩
      case round =>
        obtain ⟨x, hx, rfl, hO, hB, h0⟩ := hrel
        have LO := Lib.hid hO
        have LB := Lib.hid hB
        have L0 := Lib.hid h0
        clear hO hB h0 KO KB K0
        by_cases hlx : x < 16
        · have tx : (x : Int) < 16 := by omega
          have HX := Lib.hid hlx
          have MH := Lib.hid (fun w => mhas_any f HF.out x y hlx HY.out w)
          have NV : Hid (rowV f (16 * y + x) ++ [.bool (hasF f x y)] = rowV f (16 * y + (x + 1))) := Lib.hid (by rw [← bitR_at f hlx]; exact rowV_snoc _ _)
          have LZ : Hid (w.heap.size + 1 ≤ wr.heap.size) := Lib.hid (Array.getElem?_eq_some_iff.1 L0.out).1
          have LL : Hid (16 * y + x ≤ 100000000) := Lib.hid (by have := HY.out; omega)
          generalize hasF f x y = b at MH NV
          generalize rowV f (16 * y + x) = xs at LO NV
          obtain ⟨kn, hkn⟩ : ∃ kn, 16 * y + x = kn := ⟨_, rfl⟩
          rw [hkn] at LO LL
          have HKN := Lib.hid hkn
          clear hkn hlx hx
          go_wp2_with (first | (refine wpList_load_row rfl 71 _ rfl w.heap.size rfl 71 _ _ _ L0.out Try.underlying71 rfl (mask_info _ (arr_size _ _ _)) ?_) | ((with_reducible refine (MH.out _).mono ?_); rintro e w' ⟨rfl, rfl⟩) | (at_builtin; refine wpList_append_bool rfl (.tmp 12) (.tmp 17) rfl (w.heap.size + 1) _ kn xs b rfl (own_allocM LO.out _) (wr.heap.size + 1) (by simp) rfl LL.out (by have := LZ.out; simp; omega) ?_; intro v' w3 hown' hbel'))
          have B3 := Lib.hid ((LB.out.alloc (by have := LZ.out; omega) _).trans (hbel'.out.mono (by omega)))
          have G3 := Lib.hid ((hbel'.out.block w.heap.size (by omega)).trans ((Below.heap_alloc _ _ _ LZ.out).trans L0.out))
          go_roundw
          case rel => exact ⟨x + 1, HX.out, by go_num, by rw [← NV.out, ← Nat.add_assoc, HKN.out]; exact hown'.out, B3.out, G3.out⟩
          case measure => have := HX.out; simp [intOf]; omega
        · obtain rfl : x = 16 := by omega
          clear hlx hx
          go_wp2
          go_roundw
          case rel => exact ⟨y + 1, HY.out, by go_num, by rw [show 16 * (y + 1) = 16 * y + 16 by omega]; exact LO.out, LB.out, L0.out⟩
          case measure => have := HY.out; simp [intOf]; omega
    · obtain rfl : y = 16 := by omega
      clear hlt hy
      go_wp2
      go_ret
      exact ⟨_, rfl, KO.out, KB.out⟩
end Go.Proofs.Ythfmkejdpflpcaa
/-
  CONTRACTS: PackMask on both sides.
-/
namespace Go.Proofs.Ythfmkejdpflpcaa
open Go.ChangeShapes Go.WideShapes Go.ChangeAt Go.RowKit
/-- the runs that are at an end, what the run that goes on is of, and how long it is -/
def pkS (s : List Nat × Bool × Nat) (b : Bool) : List Nat × Bool × Nat := if b = s.2.1 then (s.1, s.2.1, s.2.2 + 1) else (s.1 ++ [s.2.2], b, 1)
def pkK (g : Nat → Bool) (k : Nat) : List Nat × Bool × Nat := ((List.range k).map g).foldl pkS ([], false, 0)
theorem pkK_zero (g : Nat → Bool) : pkK g 0 = ([], false, 0) := rfl
theorem pkK_succ (g : Nat → Bool) (k : Nat) : pkK g (k + 1) = pkS (pkK g k) (g k) := by simp [pkK, List.range_succ]
theorem pkK_same {g : Nat → Bool} {k : Nat} {l : List Nat} {on : Bool} {n : Nat} (h : pkK g k = (l, on, n)) (hb : g k = on) : pkK g (k + 1) = (l, on, n + 1) := by rw [pkK_succ, h]; unfold pkS; rw [if_pos hb]
theorem pkK_other {g : Nat → Bool} {k : Nat} {l : List Nat} {on : Bool} {n : Nat} (h : pkK g k = (l, on, n)) (hb : g k ≠ on) : pkK g (k + 1) = (l ++ [n], !on, 1) := by
  rw [pkK_succ, h]; unfold pkS; rw [if_neg hb]
  cases hg : g k <;> cases on <;> simp_all
theorem pkK_bound (g : Nat → Bool) (k : Nat) : (pkK g k).1.length ≤ k ∧ (pkK g k).2.2 ≤ k ∧ ∀ n ∈ (pkK g k).1, n ≤ k := by
  induction k with
  | zero => simp [pkK]
  | succ k ih =>
    obtain ⟨h1, h2, h3⟩ := ih
    rw [pkK_succ]
    unfold pkS
    split
    · exact ⟨by simp; omega, by simp; omega, fun n hn => by have := h3 n hn; omega⟩
    · refine ⟨by simp; omega, by simp, fun n hn => ?_⟩
      rw [List.mem_append, List.mem_singleton] at hn
      rcases hn with hn | rfl
      · have := h3 n hn; omega
      · omega
def bytesN (l : List Nat) : List Value := l.map fun n : Nat => Value.int .u8 (n : Int)
theorem bytesN_snoc (l : List Nat) (n : Nat) : bytesN (l ++ [n]) = bytesN l ++ [.int .u8 (n : Int)] := by simp [bytesN]
theorem info_byte : (Try.prog.info? 5).map (fun i => (i.zero, i.size, i.bytes)) = some (some (.int .u8 0), 1, 1) := by kernel_rfl
abbrev YS : TypeId := 95
/-- 'out = append(out, b)' -/
theorem wpList_append_u8 {ops : Array Oper} {rest : List Oper} {o : Oper} {a : Act} {W : World} {Q : Exit → Act → World → Prop} (hgd : o.guard = none) (s x : Operand)
    (ho : o.op = .call { callee := .builtin .append, args := #[s, x], argTypes := #[YS, YS] })
    (base : Nat) (v : Value) (n : Nat) (xs : List Value) (b : Int) (hs : a.eval s = v) (hown : W.ownsRow base 5 1 v n xs) (m : Nat) (hm : W.heap.size = m) (hx : a.eval x = .slice (some ⟨m, 0, none⟩) 1 1)
    (hl : n ≤ 100000000) (hbase : base ≤ W.heap.size)
    (h : ∀ v' w', Hid (w'.ownsRow base 5 1 v' (n + 1) (xs ++ [.int .u8 b])) → Hid (Below base W w') → wpList Try.prog ops Q rest (a.put o.dst v') w') : wpList Try.prog ops Q (o :: rest) a (W.alloc (.cells #[.int .u8 b] 5)) := by
  subst hm
  obtain ⟨i0, hi, hz0, hz1, hz2⟩ := info_parts info_byte
  refine wpList_append_own _ hgd s x YS ho base 5 i0 (.int .u8 0) 1 1 Try.underlying95 hi hz0 hz1 hz2 rfl (by decide) v n xs hs (own_allocM hown _) ⟨W.heap.size, 0, none⟩ 1 1 [.int .u8 b] hx rfl ?_ ?_ (by unfold maxLen; omega) (by omega) (by simp; omega) ?_
  · intro j u hj
    match j, hj with
    | 0, hj => simp at hj; subst hj; exact Lib.cell_of_heap (World.alloc_heap_new W _) 0
    | j + 1, hj => simp at hj
  · intro u hu; simp at hu; subst hu; rfl
  · intro v' w' h1 h2 _
    exact h v' w' (Lib.hid h1) (Lib.hid (((Below.refl base W).alloc hbase _).grown h2 (by simp; omega) (fun k hk => (World.ownsRow.lt hown k hk).1)))
def PmPost (f : Nat → Int) (w : World) (e : Ending) (w' : World) : Prop := ∃ v, e = .returned v ∧ w'.ownsRow w.heap.size 5 1 v (pkK (bitR f) 256).1.length (bytesN (pkK (bitR f) 256).1) ∧ Below w.heap.size w w'
theorem u8_nat {n : Nat} (h : n ≤ 255) : IntKind.u8.wrap (n : Int) = (n : Int) := by simp [IntKind.wrap, IntKind.bits, IntKind.signed]; omega
theorem own_mono' {w : World} {base base' : Nat} {e : TypeId} {size : Nat} {v : Value} {n : Nat} {xs : List Value} (hb : base' ≤ base) (h : w.ownsRow base e size v n xs) : w.ownsRow base' e size v n xs := by
  obtain ⟨h1, h2⟩ := h
  refine ⟨h1, ?_⟩
  rcases h2 with h | ⟨g, cap, cur, hv, hg, h⟩
  · exact .inl h
  · exact .inr ⟨g, cap, cur, hv, Nat.le_trans hb hg, h⟩
set_option maxRecDepth 20000 in
set_option maxHeartbeats 2000000 in
theorem spack_any (f : Nat → Int) (hf : MB f) (w : World) : Calls Try.prog 80 #[.agg (M16 f)] w (PmPost f w) := by
  unfold PmPost
  have S0 : ((w.alloc (.cells (M16 f) 71)).alloc (.cells #[] 5)).heap[w.heap.size]? = some (.cells (M16 f) 71 (0, 0)) := (Below.heap_alloc _ _ _ (by simp)).trans (World.alloc_heap_new w _)
  have SB : Below w.heap.size w ((w.alloc (.cells (M16 f) 71)).alloc (.cells #[] 5)) := ((Below.refl _ w).alloc (Nat.le_refl _) _).alloc (by simp) _
  have SO : ((w.alloc (.cells (M16 f) 71)).alloc (.cells #[] 5)).ownsRow (w.heap.size + 1) 5 1 (.slice (some ⟨w.heap.size + 1, 0, none⟩) 0 0) 0 [] := by
    have := World.ownsRow_made (base := w.heap.size + 1) (size := 1) (e := 5) (w.alloc (.cells (M16 f) 71)) #[] 0 (by simp) (by unfold maxLen; omega) rfl
    rwa [World.size_alloc] at this
  have H0 := Lib.hid S0
  have HB := Lib.hid SB
  have HO := Lib.hid SO
  have HF := Lib.hid hf
  have PZ := Lib.hid (pkK_zero (bitR f))
  clear S0 SB SO hf
  go_enter Try.func80, Try.ntmps80
  go_wp2
  generalize (w.alloc (.cells (M16 f) 71)).alloc (.cells #[] 5) = w1 at H0 HB HO ⊢
  go_loopw [3, 4, 5, 6] (fun v on run i wr => ∃ k : Nat, k ≤ 256 ∧ i = .int .i64 (k : Int) ∧ (∃ l b n, pkK (bitR f) k = (l, b, n) ∧ on = .bool b ∧ run = .int .i64 (n : Int) ∧ wr.ownsRow (w.heap.size + 1) 5 1 v l.length (bytesN l)) ∧ Below w.heap.size w wr ∧ wr.heap[w.heap.size]? = some (.cells (M16 f) 71 (0, 0))) (fun _ _ _ i _ => 256 - (intOf i).toNat)
  case atStart => exact ⟨0, by omega, rfl, ⟨_, _, _, PZ.out, rfl, rfl, HO.out⟩, HB.out, H0.out⟩
  case round =>
    obtain ⟨k, hk, rfl, ⟨l, b, n, hpk, rfl, rfl, hO⟩, hB, h0⟩ := hrel
    have KO := Lib.hid hO
    have KB := Lib.hid hB
    have K0 := Lib.hid h0
    clear hO hB h0 HO HB H0
    by_cases hlt : k < 256
    · have tk : (k : Int) < 256 := by omega
      have HK := Lib.hid hlt
      obtain ⟨x, y, hx, hy, hxy⟩ : ∃ x y, x < 16 ∧ y < 16 ∧ k = 16 * y + x := ⟨k % 16, k / 16, by omega, by omega, by omega⟩
      have q1 : (k : Int) / 16 = (y : Int) := by omega
      have q2 : (k : Int) % 16 = (x : Int) := by omega
      have MH := Lib.hid (l07Has_any w.heap.size f HF.out x y hx hy wr ((Lib.cell_of_heap K0.out y).trans (arr_get _ _ _ _ hy)))
      have hbit : bitR f k = hasF f x y := by rw [hxy]; exact bitR_at f hx
      obtain ⟨bl, bn, bm⟩ := pkK_bound (bitR f) k
      rw [hpk] at bl bn
      have LN : Hid (l.length ≤ 100000000) := Lib.hid (by have : l.length ≤ k := bl; omega)
      have bn' : n ≤ k := bn
      have NI : (n : Int) ≤ 255 := by omega
      have wn := u8_nat (n := n) (by omega)
      have LZ : Hid (w.heap.size + 1 ≤ wr.heap.size) := Lib.hid (Array.getElem?_eq_some_iff.1 K0.out).1
      rw [← hbit] at MH
      have P1 := Lib.hid fun h : bitR f k = b => pkK_same hpk h
      have P2 := Lib.hid fun h : bitR f k ≠ b => pkK_other hpk h
      clear bl bn bm bn' hpk hxy hbit hlt hk hx hy
      generalize bitR f k = c at MH P1 P2
      by_cases hc : c = b
      · subst hc
        have NX := Lib.hid (P1.out rfl)
        have tb : (c != c) = false := by simp
        clear P1 P2
        go_wp2_with ((with_reducible refine MH.out.mono ?_); rintro e w' ⟨rfl, rfl⟩)
        go_roundw
        case rel => exact ⟨k + 1, HK.out, by go_num, ⟨_, _, _, NX.out, rfl, by go_num, KO.out⟩, KB.out, K0.out⟩
        case measure => have := HK.out; simp [intOf]; omega
      · have NX := Lib.hid (P2.out hc)
        have tb : (c == b) = false := by simpa using hc
        have tb2 : (!c == b) = true := by cases c <;> cases b <;> simp_all
        have SN := Lib.hid (bytesN_snoc l n)
        have SL : Hid ((l ++ [n]).length = l.length + 1) := Lib.hid (by simp)
        obtain ⟨kn, hkn⟩ : ∃ kn, l.length = kn := ⟨_, rfl⟩
        rw [hkn] at KO LN SL
        clear P1 P2 hc hkn
        generalize bytesN l = xs at KO SN
        go_wp2_with (first | ((with_reducible refine MH.out.mono ?_); rintro e w' ⟨rfl, rfl⟩) | (at_builtin; refine wpList_append_u8 rfl (.tmp 19) (.tmp 22) rfl (w.heap.size + 1) _ kn xs (n : Int) rfl KO.out wr.heap.size rfl rfl LN.out LZ.out ?_; intro v' w3 hown' hbel'))
        have B3 := Lib.hid (KB.out.trans (hbel'.out.mono (by omega)))
        have G3 := Lib.hid ((hbel'.out.block w.heap.size (by omega)).trans K0.out)
        go_roundw
        case rel => exact ⟨k + 1, HK.out, by go_num, ⟨_, _, _, NX.out, rfl, by go_num, by rw [SL.out, SN.out]; exact hown'.out⟩, B3.out, G3.out⟩
        case measure => have := HK.out; simp [intOf]; omega
    · obtain rfl : k = 256 := by omega
      have PE := Lib.hid hpk
      clear hlt hk hpk
      go_wp2
      go_ret
      exact ⟨_, rfl, by rw [PE.out]; exact own_mono' (by omega) KO.out, KB.out⟩
set_option maxRecDepth 20000 in
set_option maxHeartbeats 2000000 in
theorem ipack_any (f : Nat → Int) (hf : MB f) (w : World) : Calls Try.prog 155 #[.agg (M16 f)] w (PmPost f w) := by
  unfold PmPost
  have C0 : Hid ((w.alloc (.cells (M16 f) 71)).heap[w.heap.size]? = some (.cells (M16 f) 71 (0, 0))) := Lib.hid (World.alloc_heap_new w _)
  have B0 : Hid (Below w.heap.size w (w.alloc (.cells (M16 f) 71))) := Lib.hid ((Below.refl _ w).alloc (Nat.le_refl _) _)
  have Z0 : Hid ((w.alloc (.cells (M16 f) 71)).heap.size = w.heap.size + 1) := Lib.hid (by simp)
  have IR := Lib.hid (fun w => inOneRow_any f hf w)
  have PZ := Lib.hid (pkK_zero (bitR f))
  clear hf
  go_enter Try.func155, Try.ntmps155
  go_wp2_with (refine wpList_load_row rfl 71 _ rfl w.heap.size rfl 71 _ _ _ C0.out Try.underlying71 rfl (mask_info _ (arr_size _ _ _)) ?_)
  generalize w.alloc (.cells (M16 f) 71) = w1 at C0 B0 Z0 ⊢
  refine (IR.out _).mono ?_
  rintro e w2 ⟨v, rfl, hO, b2⟩
  obtain ⟨g, cap, rfl, hg⟩ : ∃ g cap, v = .slice (some ⟨g, 0, none⟩) 256 cap ∧ g < w2.heap.size := by
    rcases hO.2 with ⟨_, h0⟩ | ⟨g, cap, cur, rfl, _⟩
    · omega
    · exact ⟨g, cap, rfl, (hO.lt g rfl).2⟩
  have RC : Hid (∀ i, i < 256 → w2.cell? ⟨g, i, none⟩ = some (.bool (bitR f i))) := Lib.hid fun i hi => by rw [hO.cellAt i (by omega)]; exact rowV_get _ _ _ hi
  have B2 := Lib.hid (B0.out.trans (b2.mono (by have := Z0.out; omega)))
  have HG := Lib.hid hg
  have S2 : Hid (w.heap.size ≤ w2.heap.size) := Lib.hid (by have := b2.size; have := Z0.out; omega)
  clear hO b2 C0 B0 Z0 hg IR
  go_wp2
  go_loopw [3, 4, 5, 11] (fun v on run i wr => ∃ k : Nat, k ≤ 256 ∧ i = .int .i64 (k : Int) ∧ (∃ l b n, pkK (bitR f) k = (l, b, n) ∧ on = .bool b ∧ run = .int .i64 (n : Int) ∧ wr.ownsRow w2.heap.size 5 1 v l.length (bytesN l)) ∧ Below w2.heap.size w2 wr) (fun _ _ _ i _ => 256 - (intOf i).toNat)
  case atStart => exact ⟨0, by omega, rfl, ⟨_, _, _, PZ.out, rfl, rfl, World.ownsRow_nil _ _ _ _⟩, Below.refl _ _⟩
  case round =>
    obtain ⟨k, hk, rfl, ⟨l, b, n, hpk, rfl, rfl, hO⟩, hB⟩ := hrel
    have KO := Lib.hid hO
    have KB := Lib.hid hB
    clear hO hB
    by_cases hlt : k < 256
    · have tk : (k : Int) < 256 := by omega
      have HK := Lib.hid hlt
      have cx : wr.cell? ⟨g, k, none⟩ = some (.bool (bitR f k)) := (KB.out.cell (p := ⟨g, k, none⟩) HG.out).trans (RC.out k hlt)
      obtain ⟨bl, bn, bm⟩ := pkK_bound (bitR f) k
      rw [hpk] at bl bn
      have LN : Hid (l.length ≤ 100000000) := Lib.hid (by have : l.length ≤ k := bl; omega)
      have bn' : n ≤ k := bn
      have NI : (n : Int) ≤ 255 := by omega
      have wn := u8_nat (n := n) (by omega)
      have P1 := Lib.hid fun h : bitR f k = b => pkK_same hpk h
      have P2 := Lib.hid fun h : bitR f k ≠ b => pkK_other hpk h
      clear bl bn bm bn' hpk hlt hk
      generalize bitR f k = c at cx P1 P2
      by_cases hc : c = b
      · subst hc
        have NX := Lib.hid (P1.out rfl)
        have tb : (c != c) = false := by simp
        clear P1 P2
        go_wp2
        go_roundw
        case rel => exact ⟨k + 1, HK.out, by go_num, ⟨_, _, _, NX.out, rfl, by go_num, KO.out⟩, KB.out⟩
        case measure => have := HK.out; simp [intOf]; omega
      · have NX := Lib.hid (P2.out hc)
        have tb : (c == b) = false := by simpa using hc
        have tb2 : (!c == b) = true := by cases c <;> cases b <;> simp_all
        have cb : Hid (c = !b) := Lib.hid (by cases c <;> cases b <;> simp_all)
        have SN := Lib.hid (bytesN_snoc l n)
        have SL : Hid ((l ++ [n]).length = l.length + 1) := Lib.hid (by simp)
        obtain ⟨kn, hkn⟩ : ∃ kn, l.length = kn := ⟨_, rfl⟩
        rw [hkn] at KO LN SL
        clear P1 P2 hc hkn
        generalize bytesN l = xs at KO SN
        go_wp2_with (at_builtin; refine wpList_append_u8 rfl (.tmp 18) (.tmp 21) rfl w2.heap.size _ kn xs (n : Int) rfl KO.out wr.heap.size rfl rfl LN.out KB.out.size ?_; intro v' w3 hown' hbel')
        have B3 := Lib.hid (KB.out.trans hbel'.out)
        go_roundw
        case rel => exact ⟨k + 1, HK.out, by go_num, ⟨_, _, _, NX.out, by rw [cb.out], rfl, by rw [SL.out, SN.out]; exact hown'.out⟩, B3.out⟩
        case measure => have := HK.out; simp [intOf]; omega
    · obtain rfl : k = 256 := by omega
      have PE := Lib.hid hpk
      clear hlt hk hpk
      go_wp2
      go_ret
      exact ⟨_, rfl, by rw [PE.out]; exact own_mono' S2.out KO.out, B2.out.trans (KB.out.mono S2.out)⟩
end Go.Proofs.Ythfmkejdpflpcaa
