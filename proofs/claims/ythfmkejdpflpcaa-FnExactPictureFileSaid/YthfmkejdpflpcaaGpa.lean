/-
  SEVERAL TEXTS IN ONE: XFt,XFo,XRi,XPr,XGc,XFw
-/
import Derived.Test.YthfmkejdpflpcaaChecked
import Derived.Test.YthfmkejdpflpcaaArr
import Derived.Outline
import Derived.LoopTactic
import Derived.Deep.QuietTactic
import Derived.BigQuiet
import Derived.Laws.Rows
import Derived.Laws.ResultCell
import Derived.RegionTactic
import Derived.Lib.Builder
import Derived.Deep.OwnRows
import Derived.RangeFuncRecord
import Derived.BigRegion
import Derived.Shelf.Abstract
import Derived.TacticsInMore
import Derived.LoopIn
import Derived.StillTailTactics
import Derived.Laws.CopyOwn
import Derived.Laws.BitsAllLaws
import Derived.Laws.Closers25b
import Derived.Test.YthfmkejdpflpcaaPar
import Derived.Deep.Slices
import Derived.OpenShut
import Derived.ChangeOld
import Derived.Carry
import Derived.WalkKit
import Derived.ProofKit
import Derived.Orders
import Derived.Tactics
import Derived.Lib.Hide
import Derived.WalkLawsBesides
import Derived.ChangeShapes
import Derived.OwnWalk
import Derived.Below
/-
  FRAMES AND PAYLOADS: arrays of bytes; how the laws copy and compare them.
-/
namespace Go.Proofs.Ythfmkejdpflpcaa
open Go.ChangeShapes Go.WideShapes Go.ChangeAt Go.RowKit
/-- n bytes -/
def ByF (n : Nat) (f : Nat → Int) : Prop := ∀ j, j < n → 0 ≤ f j ∧ f j ≤ 255
abbrev Q16 (f : Nat → Int) : Array Value := arr .u8 16 f
abbrev Q12 (f : Nat → Int) : Array Value := arr .u8 12 f
theorem fr_info (A : Array Value) (h : A.size = 16) : (Try.prog.info? 104).map (·.size) = some A.size := by rw [h]; kernel_rfl
theorem f16_info (A : Array Value) (h : A.size = 16) : (Try.prog.info? 103).map (·.size) = some A.size := by rw [h]; kernel_rfl
theorem p12_info (A : Array Value) (h : A.size = 12) : (Try.prog.info? 145).map (·.size) = some A.size := by rw [h]; kernel_rfl
theorem fset_at {w : World} {g : Nat} {A : Array Value} {t : TypeId} (h : w.heap[g]? = some (.cells A t (0, 0))) (x : Nat) (v : Value) : (w.setCell ⟨g, x, none⟩ v).heap[g]? = some (.cells (A.setIfInBounds x v) t (0, 0)) := by
  simp [World.setCell, Array.getElem?_modify, h]
theorem fset_far {w : World} {g k x : Nat} (h : k ≠ g) (v : Value) : (w.setCell ⟨g, x, none⟩ v).heap[k]? = w.heap[k]? := Below.heap_setCell _ _ _ _ h
theorem fdrewN {B : Nat} {w w' : World} (h : Below B w w') (n : Nat) : Below B w (w'.drewN n) := h.trans ⟨rfl, rfl, rfl, Nat.le_refl _, fun _ _ => rfl⟩
theorem fret_bool {a b : Bool} (h : a = b) : Ending.returned (.bool a) = .returned (.bool b) := by rw [h]
theorem fret_int {k : IntKind} {a b : Int} (h : a = b) : Ending.returned (.int k a) = .returned (.int k b) := by rw [h]
set_option maxRecDepth 20000 in
set_option maxHeartbeats 2000000 in
theorem toFrame_any (f : Nat → Int) (w : World) :
    Calls Try.prog 89 #[.agg (Q16 f)] w fun e w' => e = .returned (.agg (Q16 f)) ∧ Below w.heap.size w w' := by
  have S0 : (((w.alloc (.cells (Q16 f) 103)).alloc (.cells (Q16 zI) 104)).alloc (.cells (Q16 zI) 104)).heap[w.heap.size]? = some (.cells (Q16 f) 103 (0, 0)) := ((Below.heap_alloc _ _ _ (by simp; omega)).trans (Below.heap_alloc _ _ _ (by simp))).trans (World.alloc_heap_new w _)
  have S1 : (((w.alloc (.cells (Q16 f) 103)).alloc (.cells (Q16 zI) 104)).alloc (.cells (Q16 zI) 104)).heap[w.heap.size + 1]? = some (.cells (Q16 zI) 104 (0, 0)) := by
    refine (Below.heap_alloc _ _ _ (by simp)).trans ?_
    have := World.alloc_heap_new (w.alloc (.cells (Q16 f) 103)) (.cells (Q16 zI) 104)
    rw [World.size_alloc] at this
    exact this
  have S2 : (((w.alloc (.cells (Q16 f) 103)).alloc (.cells (Q16 zI) 104)).alloc (.cells (Q16 zI) 104)).heap[w.heap.size + 1 + 1]? = some (.cells (Q16 zI) 104 (0, 0)) := by
    have := World.alloc_heap_new ((w.alloc (.cells (Q16 f) 103)).alloc (.cells (Q16 zI) 104)) (.cells (Q16 zI) 104)
    rw [World.size_alloc, World.size_alloc] at this
    exact this
  have SB : Below w.heap.size w (((w.alloc (.cells (Q16 f) 103)).alloc (.cells (Q16 zI) 104)).alloc (.cells (Q16 zI) 104)) := (((Below.refl _ w).alloc (Nat.le_refl _) _).alloc (by simp) _).alloc (by simp; omega) _
  have H0 := Lib.hid S0
  have H1 := Lib.hid S1
  have H2 := Lib.hid S2
  have HB := Lib.hid SB
  clear S0 S1 S2 SB
  have Z : Q16 zI = #[Value.int .u8 0, Value.int .u8 0, Value.int .u8 0, Value.int .u8 0, Value.int .u8 0, Value.int .u8 0, Value.int .u8 0, Value.int .u8 0, Value.int .u8 0, Value.int .u8 0, Value.int .u8 0, Value.int .u8 0, Value.int .u8 0, Value.int .u8 0, Value.int .u8 0, Value.int .u8 0] := rfl
  rw [Z] at H0 H1 H2 HB
  go_enter Try.func89, Try.ntmps89
  clear Z
  go_wp2
  generalize ((w.alloc (.cells (Q16 f) 103)).alloc (.cells #[Value.int .u8 0, Value.int .u8 0, Value.int .u8 0, Value.int .u8 0, Value.int .u8 0, Value.int .u8 0, Value.int .u8 0, Value.int .u8 0, Value.int .u8 0, Value.int .u8 0, Value.int .u8 0, Value.int .u8 0, Value.int .u8 0, Value.int .u8 0, Value.int .u8 0, Value.int .u8 0] 104)).alloc (.cells #[Value.int .u8 0, Value.int .u8 0, Value.int .u8 0, Value.int .u8 0, Value.int .u8 0, Value.int .u8 0, Value.int .u8 0, Value.int .u8 0, Value.int .u8 0, Value.int .u8 0, Value.int .u8 0, Value.int .u8 0, Value.int .u8 0, Value.int .u8 0, Value.int .u8 0, Value.int .u8 0] 104) = w1 at H0 H1 H2 HB ⊢
  have H2' : Hid (w1.heap[w.heap.size + 1 + 1]? = some (.cells (Q16 (mixI zI f 0)) 104 (0, 0))) := Lib.hid (by rw [mixI_zero]; exact H2.out)
  clear H2
  go_loopw [4] (fun i wr => ∃ k : Nat, k ≤ 16 ∧ i = .int .i64 k ∧ wr.heap[w.heap.size + 1 + 1]? = some (.cells (Q16 (mixI zI f k)) 104 (0, 0)) ∧ wr.heap[w.heap.size]? = some (.cells (Q16 f) 103 (0, 0)) ∧ wr.heap[w.heap.size + 1]? = some (.cells #[Value.int .u8 0, Value.int .u8 0, Value.int .u8 0, Value.int .u8 0, Value.int .u8 0, Value.int .u8 0, Value.int .u8 0, Value.int .u8 0, Value.int .u8 0, Value.int .u8 0, Value.int .u8 0, Value.int .u8 0, Value.int .u8 0, Value.int .u8 0, Value.int .u8 0, Value.int .u8 0] 104 (0, 0)) ∧ Below w.heap.size w wr) (fun i _ => 16 - (intOf i).toNat)
  case atStart => exact ⟨0, Nat.zero_le _, rfl, H2'.out, H0.out, H1.out, HB.out⟩
  case round =>
    obtain ⟨k, hk, rfl, h2, h0, h1, hB⟩ := hrel
    have K2 := Lib.hid h2
    have K0 := Lib.hid h0
    have K1 := Lib.hid h1
    have KB := Lib.hid hB
    clear h2 h0 h1 hB H0 H1 H2' HB
    by_cases hlt : k < 16
    · have t1 : (k : Int) < 16 := by omega
      have HK := Lib.hid hlt
      have c0 : wr.cell? ⟨w.heap.size, k, none⟩ = some (.int .u8 (f k)) := (Lib.cell_of_heap K0.out k).trans (arr_get _ _ _ _ hlt)
      have c2 : wr.cell? ⟨w.heap.size + 1 + 1, k, none⟩ = some (.int .u8 (mixI zI f k k)) := (Lib.cell_of_heap K2.out k).trans (arr_get _ _ _ _ hlt)
      have f2 : wr.frozen? ⟨w.heap.size + 1 + 1, k, none⟩ = false := Lib.frozen_of_heap K2.out k
      generalize mixI zI f k k = v at c2
      clear hlt hk
      go_wp2
      go_roundw
      case rel => exact ⟨k + 1, by have := HK.out; omega, by go_num, by rw [fset_at K2.out, arr_set _ _ _ _ _ HK.out, mixI_step], by rw [fset_far (by omega)]; exact K0.out, by rw [fset_far (by omega)]; exact K1.out, KB.out.setCell (p := ⟨w.heap.size + 1 + 1, _, none⟩) (by simp; omega) _⟩
      case measure => have := HK.out; simp [intOf]; omega
    · obtain rfl : k = 16 := by omega
      have G2 : Hid (wr.heap[w.heap.size + 1 + 1]? = some (.cells (Q16 f) 104 (0, 0))) := Lib.hid (by have := K2.out; rwa [show Q16 (mixI zI f 16) = Q16 f from arr_mix .u8 16 zI f] at this)
      clear K2 hk hlt
      go_wp2_with (first | (refine wpList_load_row rfl 104 _ rfl (w.heap.size + 1 + 1) rfl 104 _ _ _ G2.out Try.underlying104 rfl (fr_info _ (arr_size _ _ _)) ?_) | (refine wpList_store_row rfl 104 _ _ rfl (w.heap.size + 1) (Q16 f) rfl rfl 104 _ K1.out (fr_info _ rfl) rfl (arr_cells _ _ _) ?_))
      refine bodyPost_ret (v := .agg (Q16 f)) ?_ rfl ⟨rfl, ?_⟩
      · exact results_cell_row Try.results89 _ _ (w.heap.size + 1) _ _ _ _ rfl (setRow_heap _ _ _ _ _ _ K1.out) Try.underlying104 rfl (fr_info _ (arr_size _ _ _))
      · exact below_setRow KB.out (by omega) _
set_option maxRecDepth 20000 in
set_option maxHeartbeats 2000000 in
theorem eqFrame_any (f g : Nat → Int) (h : Q16 g = Q16 f) (w : World) :
    Calls Try.prog 84 #[.agg (Q16 f), .agg (Q16 g)] w fun e w' => e = .returned (.bool true) ∧ Below w.heap.size w w' := by
  rw [h]
  clear h
  have R0 : Hid (((w.alloc (.cells (Q16 f) 104)).alloc (.cells (Q16 f) 104)).heap[w.heap.size]? = some (.cells (Q16 f) 104 (0, 0))) := Lib.hid ((Below.heap_alloc _ _ _ (by simp)).trans (World.alloc_heap_new w _))
  have R1 : Hid (((w.alloc (.cells (Q16 f) 104)).alloc (.cells (Q16 f) 104)).heap[w.heap.size + 1]? = some (.cells (Q16 f) 104 (0, 0))) := Lib.hid (by
    have := World.alloc_heap_new (w.alloc (.cells (Q16 f) 104)) (.cells (Q16 f) 104)
    rw [World.size_alloc] at this
    exact this)
  have BB : Hid (Below w.heap.size w ((w.alloc (.cells (Q16 f) 104)).alloc (.cells (Q16 f) 104))) := Lib.hid (((Below.refl _ w).alloc (Nat.le_refl _) _).alloc (by simp) _)
  go_enter Try.func84, Try.ntmps84
  go_wp2
  generalize (w.alloc (.cells (Q16 f) 104)).alloc (.cells (Q16 f) 104) = w1 at R0 R1 BB ⊢
  go_loopw [5] (fun i wr => ∃ k n : Nat, k ≤ 16 ∧ i = .int .i64 k ∧ wr = w1.drewN n) (fun i _ => 16 - (intOf i).toNat)
  case atStart => exact ⟨0, 0, by omega, rfl, rfl⟩
  case round =>
    obtain ⟨k, n, hk, rfl, hw⟩ := hrel
    have W := Lib.hid hw
    by_cases hlt : k < 16
    · have hlt' : (k : Int) < 16 := by omega
      have c1 : wr.cell? ⟨w.heap.size, k, none⟩ = some (.int .u8 (f k)) := by rw [hw]; exact (Lib.cell_of_heap R0.out k).trans (arr_get _ _ _ _ hlt)
      have c2 : wr.cell? ⟨w.heap.size + 1, k, none⟩ = some (.int .u8 (f k)) := by rw [hw]; exact (Lib.cell_of_heap R1.out k).trans (arr_get _ _ _ _ hlt)
      clear hw
      generalize f k = v at c1 c2
      go_wp2
      go_quiet (fail)
      go_wp2
      go_roundw
      case rel => exact ⟨k + 1, _, by omega, by go_num, by rw [W.out, World.drewN_drewN]⟩
      case measure => simp [intOf]; omega
    · obtain rfl : k = 16 := by omega
      have B : Hid (Below w.heap.size w wr) := Lib.hid (by rw [hw]; exact BB.out.trans ⟨rfl, rfl, rfl, Nat.le_refl _, fun _ _ => rfl⟩)
      clear hw W
      go_wp2
      go_ret
      exact ⟨rfl, B.out⟩
end Go.Proofs.Ythfmkejdpflpcaa
/-
  A SLICE OF FRAMES THAT CAME IN, OPENED; the law's copy of it.
-/
namespace Go.Proofs.Ythfmkejdpflpcaa
open Go.ChangeShapes Go.WideShapes Go.ChangeAt Go.RowKit Go.Deep
/-- a slice of frames below B -/
def FrR (B : Nat) (w : World) (a : Option Addr) (n : Nat) (f : Nat → Int) : Prop := n = 0 ∨ ∃ g off, a = some ⟨g, off, none⟩ ∧ g < B ∧ ∀ j, j < 16 * n → w.cell? ⟨g, off + j, none⟩ = some (.int .u8 (f j))
theorem FrR.below {B B' : Nat} {w w' : World} {a : Option Addr} {n : Nat} {f : Nat → Int} (h : FrR B w a n f) (hb : Below B w w') (hB : B ≤ B') : FrR B' w' a n f := by
  rcases h with h | ⟨g, off, ha, hg, hc⟩
  · exact .inl h
  · exact .inr ⟨g, off, ha, by omega, fun j hj => (hb.cell (p := ⟨g, off + j, none⟩) hg).trans (hc j hj)⟩
theorem FrR.mono' {B B' : Nat} {w : World} {a : Option Addr} {n : Nat} {f : Nat → Int} (h : FrR B w a n f) (hB : B ≤ B') : FrR B' w a n f := by
  rcases h with h | ⟨g, off, ha, hg, hc⟩
  · exact .inl h
  · exact .inr ⟨g, off, ha, by omega, hc⟩
section
variable {H : Type} {enc : TypeId × Value → H} {W : World} {base : Nat} {spare : Nat → Bool} {held : Bool}
theorem trodf_u8 {n : Nat} {v : Value} {y : DataW H × List MemPlace}
    (ht : DataW.trod enc Try.prog W base spare held n 5 [v] = some y) : ∃ c : Int, (0 ≤ c ∧ c ≤ 255) ∧ v = .int .u8 c := by
  cases n with
  | zero => simp [DataW.trod] at ht
  | succ n =>
    obtain ⟨c, e1, _, hw⟩ := DataW.trod_int Try.underlying5 ht
    obtain rfl := (List.cons.inj e1).1
    refine ⟨c, ?_, rfl⟩
    simp [Lit.wf, IntKind.min, IntKind.max, IntKind.bits, IntKind.signed] at hw
    omega
theorem fro_elem {P : Program} {t e : TypeId} {n fuel : Nat} {cs : List Value} {x : DataW H × List MemPlace} (ht : P.underlying t = some (.array n e)) (hc : P.cellsOf e = 1) (hn : P.cellsOf t = n)
    (h : DataW.trod enc P W base spare held fuel t cs = some x) (r : Nat) (hr : r < n) : ∃ v y m, cs[r]? = some v ∧ DataW.trod enc P W base spare held m e [v] = some y := by
  obtain ⟨xs, m, rfl, -, hlen, hxl, hel⟩ := DataW.trod_array ht h
  have e1 := hel r hr
  rw [hc, Nat.mul_one, List.getElem?_eq_getElem (by omega), List.drop_eq_getElem_cons (by omega), List.take_succ_cons, List.take_zero] at e1
  exact ⟨_, _, m, List.getElem?_eq_getElem (by omega), e1⟩
theorem fro_of {a : Option Addr} {len cap : Nat} {d : DataW H} {ps : List MemPlace}
    (h : DataW.Trod enc Try.prog W base spare held 56 (.slice a len cap) d ps) : ∃ f, ByF (16 * len) f ∧ FrR W.heap.size W a len f ∧ len ≤ maxLen := by
  obtain ⟨fuel, hf⟩ := h
  have c16 : Try.prog.cellsOf 103 = 16 := by kernel_rfl
  have c1 : Try.prog.cellsOf 5 = 1 := by kernel_rfl
  rcases open_slice Try.underlying56 hf with ⟨hcs, _⟩ | ⟨x, l, c, m, n, D, Pl, hcs, _, hl, hcm, hm, _, hcell⟩
  · simp [Value.cells] at hcs
    obtain ⟨rfl, rfl, rfl⟩ := hcs
    exact ⟨fun _ => 0, fun j hj => by omega, .inl rfl, Nat.zero_le _⟩
  · simp [Value.cells] at hcs
    obtain ⟨rfl, rfl, rfl⟩ := hcs
    rw [c16] at hcell
    have hlm : len ≤ m := by rw [hm]; split <;> omega
    by_cases h0 : len = 0
    · exact ⟨fun _ => 0, fun j hj => by omega, .inl h0, by omega⟩
    · obtain ⟨b, off, spot⟩ := x
      have hspot : spot = none := by
        obtain ⟨cs', h1, _⟩ := hcell 0 (by omega)
        obtain ⟨_, hlen, hcc⟩ := World.cells?_some h1
        have hc0 := hcc 0 (by omega)
        rw [List.getElem?_eq_getElem (by omega)] at hc0
        have hc1 : W.cell? ((⟨b, off, spot⟩ : Addr).add 0) = some (cs'[0]'(by omega)) := by simpa [Addr.add] using hc0
        simpa [Addr.add] using World.cell?_spot hc1
      subst hspot
      have key : ∀ j, j < 16 * len → ∃ z : Int, (0 ≤ z ∧ z ≤ 255) ∧ W.cell? ⟨b, off + j, none⟩ = some (.int .u8 z) := by
        intro j hj
        obtain ⟨cs', h1, h2⟩ := hcell (j / 16) (by omega)
        obtain ⟨_, hlen, hcc⟩ := World.cells?_some h1
        have hcj := hcc (j % 16) (by omega)
        rw [Go.WideShapes.add_plain, Go.WideShapes.add_plain, show off + j / 16 * 16 + j % 16 = off + j by omega] at hcj
        obtain ⟨v, y, _, hv, hty⟩ := fro_elem Try.underlying103 c1 c16 h2 (j % 16) (by omega)
        obtain ⟨z, hz, rfl⟩ := trodf_u8 hty
        exact ⟨z, hz, by rw [hcj, hv]⟩
      have hb : b < W.heap.size := by
        obtain ⟨z, _, hc0⟩ := key 0 (by omega)
        unfold World.cell? at hc0
        split at hc0
        · rename_i hb; exact (Array.getElem?_eq_some_iff.1 hb).1
        · cases hc0
      refine ⟨fun j => if hj : j < 16 * len then Classical.choose (key j hj) else 0, fun j hj => ?_, .inr ⟨b, off, rfl, hb, fun j hj => ?_⟩, by omega⟩
      · simp only [dif_pos hj]
        exact (Classical.choose_spec (key j hj)).1
      · simp only [dif_pos hj]
        exact (Classical.choose_spec (key j hj)).2
end
/-- the frame number k of cells f -/
def frK (f : Nat → Int) (k : Nat) : Nat → Int := fun y => f (k * 16 + y)
def fbl (f : Nat → Int) (k : Nat) : Array Value := Q16 (frK f k)
theorem fbl_get (f : Nat → Int) (k r : Nat) (hr : r < 16) : (fbl f k)[r]? = some (.int .u8 (f (k * 16 + r))) := arr_get .u8 16 _ r hr
theorem fbl_size (f : Nat → Int) (k : Nat) : (fbl f k).size = 16 := arr_size _ _ _
/-- n blocks, k of them copied -/
def rowFr (f : Nat → Int) (k n : Nat) : Array Value := ((List.range (16 * n)).map fun i => if i < 16 * k then Value.int .u8 (f i) else Value.int .u8 0).toArray
theorem rowFr_size (f : Nat → Int) (k n : Nat) : (rowFr f k n).size = 16 * n := by simp [rowFr]
theorem rowFr_get (f : Nat → Int) (k n i : Nat) (h : i < 16 * n) : (rowFr f k n)[i]? = some (if i < 16 * k then Value.int .u8 (f i) else Value.int .u8 0) := by simp [rowFr, h]
theorem rowFr_set (f : Nat → Int) (k n : Nat) (h : k < n) : (splice (rowFr f k n).toList (k * 16) (fbl f k).toList).toArray = rowFr f (k + 1) n := by
  apply Array.ext_getElem?
  intro i
  have hl : (rowFr f k n).toList.length = 16 * n := by simp [rowFr_size]
  have hb : (fbl f k).toList.length = 16 := by simp [fbl_size]
  rw [List.getElem?_toArray]
  unfold splice
  by_cases hi : i < 16 * n
  · rw [rowFr_get f (k + 1) n i hi]
    by_cases h1 : i < k * 16
    · rw [List.getElem?_append_left (by simp [rowFr_size]; omega), List.getElem?_take_of_lt h1, Array.getElem?_toList, rowFr_get f k n i hi, if_pos (by omega), if_pos (by omega)]
    · rw [List.getElem?_append_right (by simp [rowFr_size]; omega), List.length_take, hl, Nat.min_eq_left (by omega)]
      by_cases h2 : i < k * 16 + 16
      · rw [List.getElem?_append_left (by rw [hb]; omega), Array.getElem?_toList, fbl_get f k _ (by omega), if_pos (by omega), show k * 16 + (i - k * 16) = i by omega]
      · rw [List.getElem?_append_right (by rw [hb]; omega), hb, List.getElem?_drop, Array.getElem?_toList, show k * 16 + 16 + (i - k * 16 - 16) = i by omega, rowFr_get f k n i hi, if_neg (by omega), if_neg (by omega)]
  · have e1 : (rowFr f (k + 1) n)[i]? = none := Array.getElem?_eq_none (by rw [rowFr_size]; omega)
    rw [e1]
    apply List.getElem?_eq_none
    simp [rowFr_size, fbl_size]
    omega
theorem madeF16 (f : Nat → Int) (n : Nat) : madeCells #[Value.int .u8 0, Value.int .u8 0, Value.int .u8 0, Value.int .u8 0, Value.int .u8 0, Value.int .u8 0, Value.int .u8 0, Value.int .u8 0, Value.int .u8 0, Value.int .u8 0, Value.int .u8 0, Value.int .u8 0, Value.int .u8 0, Value.int .u8 0, Value.int .u8 0, Value.int .u8 0] (n * 16) = rowFr f 0 n := by
  have key : ∀ (Z : Array Value), Z.size = 16 → (∀ r, r < 16 → Z.getD r undef = Value.int .u8 0) → madeCells Z (n * 16) = rowFr f 0 n := by
    intro Z hs hz
    apply Array.ext_getElem?
    intro i
    by_cases hi : i < 16 * n
    · rw [rowFr_get _ _ _ _ hi, if_neg (by omega)]
      have h2 : i < n * 16 := by omega
      have e := hz (i % 16) (Nat.mod_lt _ (by omega))
      have e2 : Z[i % 16]! = Z.getD (i % 16) undef := by
        have hm : i % 16 < Z.size := by rw [hs]; exact Nat.mod_lt _ (by omega)
        simp [getElem!_pos, hm]
      rw [← e, ← e2]
      simp [madeCells, h2, hs]
    · rw [Array.getElem?_eq_none (by simp [madeCells]; omega), Array.getElem?_eq_none (by rw [rowFr_size]; omega)]
  refine key _ rfl fun r hr => ?_
  have : r = 0 ∨ r = 1 ∨ r = 2 ∨ r = 3 ∨ r = 4 ∨ r = 5 ∨ r = 6 ∨ r = 7 ∨ r = 8 ∨ r = 9 ∨ r = 10 ∨ r = 11 ∨ r = 12 ∨ r = 13 ∨ r = 14 ∨ r = 15 := by omega
  rcases this with rfl | rfl | rfl | rfl | rfl | rfl | rfl | rfl | rfl | rfl | rfl | rfl | rfl | rfl | rfl | rfl <;> rfl
theorem info_fr : (Try.prog.info? 104).map (fun i => (i.zero, i.size, i.bytes)) = some (some (.agg #[Value.int .u8 0, Value.int .u8 0, Value.int .u8 0, Value.int .u8 0, Value.int .u8 0, Value.int .u8 0, Value.int .u8 0, Value.int .u8 0, Value.int .u8 0, Value.int .u8 0, Value.int .u8 0, Value.int .u8 0, Value.int .u8 0, Value.int .u8 0, Value.int .u8 0, Value.int .u8 0]), 16, 16) := by kernel_rfl
theorem make_fr (f : Nat → Int) (n : Nat) (h : n ≤ 1048576) (w : World) : (Instr.makeSlice 51 (.int .i64 (n : Int)) (.int .i64 (n : Int))).run Try.prog w = .ok (.slice (some ⟨w.heap.size, 0, none⟩) n n) (w.alloc (.cells (rowFr f 0 n) 104)) := by
  obtain ⟨i, hi, hz, hs, hb⟩ := info_parts info_fr
  have hr := run_make (P := Try.prog) w 51 104 i _ Try.underlying51 hi hz .i64 .i64 n n (by omega) (Int.le_refl _) (by rw [hb]; omega) (by omega)
  simp only [Int.toNat_natCast, hs] at hr
  rw [← madeF16 f]
  exact hr
set_option maxHeartbeats 4000000 in
set_option maxRecDepth 20000 in
theorem toFS_any (a : Option Addr) (cap n : Nat) (f : Nat → Int) (B : Nat) (w : World) (hB : B ≤ w.heap.size) (h : FrR B w a n f) (hl : n ≤ 1048576) :
    Calls Try.prog 50 #[.slice a n cap] w fun e w' => e = .returned (.slice (some ⟨w.heap.size, 0, none⟩) n n) ∧ FrR (w.heap.size + 1) w' (some ⟨w.heap.size, 0, none⟩) n f ∧ Below w.heap.size w w' ∧ w.heap.size < w'.heap.size ∧ w'.heap[w.heap.size]? = some (.cells (rowFr f n n) 104 (0, 0)) := by
  have hmk := fun w => make_fr f n hl w
  have hl' : (n : Int) ≤ 1048576 := by omega
  have H0 : Hid ((w.alloc (.cells (rowFr f 0 n) 104)).heap[w.heap.size]? = some (.cells (rowFr f 0 n) 104 (0, 0))) := Lib.hid (World.alloc_heap_new w _)
  have B0 : Hid (Below w.heap.size w (w.alloc (.cells (rowFr f 0 n) 104))) := Lib.hid ((Below.refl _ w).alloc (Nat.le_refl _) _)
  have HP := Lib.hid h
  clear h
  go_enter Try.func50, Try.ntmps50
  go_wp2
  generalize w.alloc (.cells (rowFr f 0 n) 104) = w1 at H0 B0 ⊢
  go_loopw [4] (fun i wr => ∃ k : Nat, k ≤ n ∧ i = .int .i64 k ∧ wr.heap[w.heap.size]? = some (.cells (rowFr f k n) 104 (0, 0)) ∧ Below w.heap.size w wr) (fun i _ => n - (intOf i).toNat)
  case atStart => exact ⟨0, Nat.zero_le _, rfl, H0.out, B0.out⟩
  case round =>
    obtain ⟨k, hk, rfl, h0, hB'⟩ := hrel
    have L0 := Lib.hid h0
    have LB := Lib.hid hB'
    clear h0 hB' H0 B0
    by_cases hlt : k < n
    · obtain ⟨g, off, rfl, hg, hc⟩ : ∃ g off, a = some ⟨g, off, none⟩ ∧ g < B ∧ ∀ j, j < 16 * n → w.cell? ⟨g, off + j, none⟩ = some (.int .u8 (f j)) := by
        rcases HP.out with h | h
        · omega
        · exact h
      have tk : (k : Int) < (n : Int) := by omega
      have GC : Hid (∀ j v, (fbl f k)[j]? = some v → wr.cell? ⟨g, off + k * 16 + j, none⟩ = some v) := Lib.hid fun j v e => by
        have hj : j < 16 := by
          rcases Nat.lt_or_ge j 16 with h | h
          · exact h
          · rw [Array.getElem?_eq_none (by rw [fbl_size]; exact h)] at e; cases e
        rw [LB.out.cell (p := ⟨g, off + k * 16 + j, none⟩) (by show g < _; omega), Nat.add_assoc, hc (k * 16 + j) (by omega), ← fbl_get f k j hj]
        exact e
      have HK := Lib.hid hlt
      have SET := Lib.hid (rowFr_set f k n hlt)
      have LZ : Hid (w.heap.size < wr.heap.size) := Lib.hid (Array.getElem?_eq_some_iff.1 L0.out).1
      have RB := Lib.hid (rowFr_size f k n)
      have TB : Hid (∀ w, Calls Try.prog 89 #[.agg (fbl f k)] w fun e w' => e = .returned (.agg (fbl f k)) ∧ Below w.heap.size w w') := Lib.hid (toFrame_any _)
      have B18 := Lib.hid (fbl_size f k)
      have BON : Hid ((fbl f k).all (·.oneCell') = true) := Lib.hid (arr_cells _ _ _)
      clear hc hlt hk hg
      generalize fbl f k = A at GC SET TB B18 BON
      go_wp2_with (refine wpList_load_part rfl 103 _ rfl g (off + k * 16) rfl A _ GC.out Try.underlying103 rfl (f16_info _ B18.out) ?_)
      refine (TB.out _).mono ?_
      rintro e w2 ⟨rfl, b2⟩
      have M0 := Lib.hid ((b2.block _ LZ.out).trans L0.out)
      have MB2 := Lib.hid (LB.out.trans (b2.mono (Nat.le_of_lt LZ.out)))
      have I0 : Hid ((w2.setRow w.heap.size (rowFr f (k + 1) n)).heap[w.heap.size]? = some (.cells (rowFr f (k + 1) n) 104 (0, 0))) := Lib.hid (setRow_heap _ _ _ _ _ _ M0.out)
      have IB' : Hid (Below w.heap.size w (w2.setRow w.heap.size (rowFr f (k + 1) n))) := Lib.hid (below_setRow MB2.out (Nat.le_refl _) _)
      clear b2 GC L0 LB
      go_wp2_with (refine wpList_store_part rfl 104 _ _ rfl w.heap.size (k * 16) A rfl rfl 104 _ M0.out (fr_info _ B18.out) (by rw [RB.out, B18.out]; have := HK.out; omega) BON.out ?_; rw [SET.out])
      go_roundw
      case rel => exact ⟨k + 1, HK.out, by go_num, I0.out, IB'.out⟩
      case measure => have := HK.out; simp [intOf]; omega
    · obtain rfl : k = n := by omega
      have hD : FrR (w.heap.size + 1) wr (some ⟨w.heap.size, 0, none⟩) k f := .inr ⟨_, 0, rfl, Nat.lt_succ_self _, fun j hj => by
        rw [Nat.zero_add, Lib.cell_of_heap L0.out j, rowFr_get _ _ _ _ hj, if_pos hj]⟩
      have LZ : Hid (w.heap.size < wr.heap.size) := Lib.hid (Array.getElem?_eq_some_iff.1 L0.out).1
      have HDD := Lib.hid hD
      clear hD
      go_wp2
      go_ret
      exact ⟨rfl, HDD.out, LB.out, LZ.out, L0.out⟩
end Go.Proofs.Ythfmkejdpflpcaa
/-
  A REGION THAT DRAWS ITS ORDER, BY AN INVARIANT: one step an operation, whatever has come before it (no program in sight).
-/
namespace Go.Proofs.Ythfmkejdpflpcaa
open Go Go.RowKit
section
variable {P : Program} {ops : Array Oper} {Q : Exit → Act → World → Prop}
theorem Oper.wp_then {o : Oper} {a : Act} {w : World} {K : Act → World → Prop} (hh : o.wp P a w K (Exit.then K Q)) : o.wp P a w K Q := by
  unfold Oper.wp at *
  generalize (execOp a.eval o).run P w = r at *
  cases r with
  | ok n w' =>
    cases n <;> simp only [Oper.upon] at hh ⊢ <;>
      first
        | exact hh
        | exact Calls.mono hh (fun e w'' he => by cases e <;> exact he)
  | halt x w' => cases x <;> simp only [Oper.upon] at hh ⊢ <;> exact hh
theorem wpOp_of_list {i : Nat} {o : Oper} {a : Act} {w : World} {K : Act → World → Prop} (ho : ops[i]? = some o) (h : wpList P ops (Exit.then K Q) [o] a w) : wpOp P ops Q i K a w := by
  unfold wpOp
  simp only [ho]
  unfold wpList at h
  split
  · rename_i hw
    simp only [hw, if_true] at h
    rcases h with h | ⟨h1, h2⟩
    · refine .inl (Oper.wp_then (Oper.wp_mono (fun a' w' hk => ?_) h))
      exact hk
    · exact .inr ⟨h1, h2⟩
  · rename_i hw
    simp only [hw, Bool.false_eq_true, if_false] at h
    exact h
theorem wpOp_by {i : Nat} {o : Oper} {a : Act} {w : World} {K0 : Act → World → Prop} (ho : ops[i]? = some o) (h : ∀ K : Act → World → Prop, Hid (∀ a' w', K0 a' w' → K a' w') → wpList P ops (Exit.then K Q) [o] a w) : wpOp P ops Q i K0 a w :=
  wpOp_of_list ho (h K0 (Lib.hid fun _ _ h => h))
/-- edges lead backwards -/
def topB (ops : Array Oper) : Bool := (List.range ops.size).all fun i => match ops[i]? with | none => true | some o => o.after.all fun e => decide (e.on < i)
theorem all_listed {md : Region.Mode} (ht : topB ops = true) {listed : Array Bool} (hs : listed.size = ops.size) (hr : Region.ready md ops listed = []) : ∀ j, j < ops.size → listed.getD j false = true := by
  intro j
  induction j using Nat.strongRecOn with
  | ind j ih =>
    intro hj
    cases hl : listed.getD j false with
    | true => rfl
    | false =>
      have hmem : j ∈ Region.ready md ops listed := by
        rw [mem_ready]
        refine ⟨?_, ops[j], by simp [hj], fun e he _ => ?_⟩
        · have : j < listed.size := by omega
          simp [Array.getD, this] at hl ⊢
          exact hl
        · unfold topB at ht
          rw [List.all_eq_true] at ht
          have h1 := ht j (by simp [hj])
          rw [Array.getElem?_eq_getElem hj] at h1
          have h2 := Array.all_eq_true_iff_forall_mem.1 h1 e he
          have h3 : e.on < j := by simpa using h2
          exact ih _ h3 (by omega)
      rw [hr] at hmem
      cases hmem
theorem count_set {listed : Array Bool} {i : Nat} (h : listed.getD i true = false) : (listed.setIfInBounds i true).toList.count false + 1 = listed.toList.count false := by
  have hi : i < listed.size := by
    rcases Nat.lt_or_ge i listed.size with h' | h'
    · exact h'
    · simp [Array.getD, Nat.not_lt.2 h'] at h
  have hv : listed.toList[i]'(by simpa using hi) = false := by simpa [Array.getD, hi] using h
  have hl : i < listed.toList.length := by simpa using hi
  rw [Array.toList_setIfInBounds, List.count_set hl, hv]
  have hp : 0 < listed.toList.count false := List.count_pos_iff.2 (hv ▸ List.getElem_mem hl)
  simp
  have : 0 < Array.count false listed := by simpa using hp
  omega
theorem wpAny_inv {md : Region.Mode} {I : Array Bool → Act → World → Prop} (ht : topB ops = true) (hsz : ∀ listed a w, I listed a w → listed.size = ops.size)
    (hstep : ∀ listed a w i o, I listed a w → listed.getD i true = false → ops[i]? = some o → (∀ e ∈ o.after, Region.binds md e = true → listed.getD e.on false = true) → wpOp P ops Q i (fun a' w' => I (listed.setIfInBounds i true) a' w') a w)
    (hend : ∀ listed a w, I listed a w → (∀ j, j < ops.size → listed.getD j false = true) → Q .normal a w) :
    ∀ (fuel : Nat) (listed : Array Bool) (a : Act) (w : World), listed.toList.count false = fuel → I listed a w → wpAny P md ops Q fuel listed a w
  | 0, listed, a, w, hc, h => by
    have hr : Region.ready md ops listed = [] := by
      cases hl : Region.ready md ops listed with
      | nil => rfl
      | cons i r =>
        have hi : i ∈ Region.ready md ops listed := by rw [hl]; simp
        have := count_set (mem_ready.1 hi).1
        omega
    exact ⟨hr, hend _ _ _ h (all_listed ht (hsz _ _ _ h) hr)⟩
  | fuel + 1, listed, a, w, hc, h => by
    refine ⟨fun hr => hend _ _ _ h (all_listed ht (hsz _ _ _ h) hr), fun i hi => ?_⟩
    obtain ⟨h1, o, ho, h2⟩ := mem_ready.1 hi
    have h3 := count_set h1
    exact wpOp_mono (fun a' w' h' => wpAny_inv ht hsz hstep hend fuel _ a' w' (by omega) h') (hstep _ _ _ i o h h1 ho h2)
/-- THE LAW. -/
theorem wp_region_inv {id : Nat} {a : Act} {w : World} (hm : P.follows .mixedOrders = true) (I : Array Bool → Act → World → Prop) (ht : topB ops = true) (h0 : I (Array.replicate ops.size false) a w.drew) (hsz : ∀ listed a w, I listed a w → listed.size = ops.size)
    (hstep : ∀ listed a w i o, I listed a w → listed.getD i true = false → ops[i]? = some o → (∀ e ∈ o.after, Region.binds .any e = true → listed.getD e.on false = true) → wpOp P ops Q i (fun a' w' => I (listed.setIfInBounds i true) a' w') a w)
    (hend : ∀ listed a w, I listed a w → (∀ j, j < ops.size → listed.getD j false = true) → Q .normal a w) : (Code.region id ops true).wp P Q a w := by
  refine wp_region_any hm (wpAny_inv ht hsz hstep hend ops.size _ a _ ?_ h0)
  simp
end
/-- what is listed when one more is -/
theorem listed_set {listed : Array Bool} {i j : Nat} (h : (listed.setIfInBounds i true).getD j false = true) : j = i ∨ listed.getD j false = true := by
  by_cases hij : i = j
  · exact .inl hij.symm
  · right
    simp only [Array.getD_eq_getD_getElem?, Array.getElem?_setIfInBounds, if_neg hij] at h ⊢
    exact h
theorem listed_keep {listed : Array Bool} {i j : Nat} (h : listed.getD j false = true) : (listed.setIfInBounds i true).getD j false = true := by
  simp only [Array.getD_eq_getD_getElem?, Array.getElem?_setIfInBounds] at h ⊢
  split
  · rename_i hij
    subst hij
    have : i < listed.size := by
      rcases Nat.lt_or_ge i listed.size with h' | h'
      · exact h'
      · rw [Array.getElem?_eq_none h'] at h
        cases h
    simp [this]
  · exact h
theorem listed_new {listed : Array Bool} {i : Nat} (h : i < listed.size) : (listed.setIfInBounds i true).getD i false = true := by
  simp only [Array.getD_eq_getD_getElem?, Array.getElem?_setIfInBounds]
  simp [h]
theorem unlisted {listed : Array Bool} {i : Nat} (h : listed.getD i true = false) : listed.getD i false = false := by
  simp only [Array.getD_eq_getD_getElem?] at h ⊢
  cases hl : listed[i]? with
  | none => rfl
  | some b => rw [hl] at h; exact h
end Go.Proofs.Ythfmkejdpflpcaa
/-
  ROWS OF CELLS BETWEEN TWO BLOCKS (no program in sight): what a slice that a call has made holds, and that later calls leave it.
-/
namespace Go.Proofs.Ythfmkejdpflpcaa
open Go.ChangeShapes Go.WideShapes Go.ChangeAt Go.RowKit
/-- v is a slice of n elements of s cells each that hold f; its block lies from lo on and below hi -/
def PR (s lo hi : Nat) (w : World) (v : Value) (n : Nat) (f : Nat → Value) : Prop :=
  ∃ a cap, v = .slice a n cap ∧ (n = 0 ∨ ∃ g, a = some ⟨g, 0, none⟩ ∧ lo ≤ g ∧ g < hi ∧ hi ≤ w.heap.size ∧ (∀ j, j < n * s → w.cell? ⟨g, j, none⟩ = some (f j)) ∧ ∀ j, j < n * s → w.frozen? ⟨g, j, none⟩ = false)
theorem PR.below {s lo hi B : Nat} {w w' : World} {v : Value} {n : Nat} {f : Nat → Value} (hb : Below B w w') (hB : hi ≤ B) (h : PR s lo hi w v n f) : PR s lo hi w' v n f := by
  obtain ⟨a, cap, rfl, h0 | ⟨g, rfl, h1, h2, h3, h4, h5⟩⟩ := h
  · exact ⟨a, cap, rfl, .inl h0⟩
  · refine ⟨_, cap, rfl, .inr ⟨g, rfl, h1, h2, Nat.le_trans h3 hb.size, fun j hj => ?_, fun j hj => ?_⟩⟩
    · rw [hb.cell (p := ⟨g, j, none⟩) (Nat.lt_of_lt_of_le h2 hB)]; exact h4 j hj
    · rw [hb.frozen (p := ⟨g, j, none⟩) (Nat.lt_of_lt_of_le h2 hB)]; exact h5 j hj
/-- as a list of cells tells it -/
def listF (xs : List Value) (j : Nat) : Value := xs[j]?.getD undef
theorem PR.of_own {s lo : Nat} {w : World} {e : TypeId} {v : Value} {n : Nat} {xs : List Value} (h : w.ownsRow lo e s v n xs) : PR s lo w.heap.size w v n (listF xs) := by
  have hl := h.1
  rcases h.2 with ⟨rfl, h0⟩ | ⟨g, cap, cur, rfl, hb, hg, _⟩
  · exact ⟨none, 0, by rw [h0], .inl h0⟩
  · refine ⟨_, cap, rfl, .inr ⟨g, rfl, hb, (h.lt g rfl).2, Nat.le_refl _, fun j hj => ?_, fun j _ => h.frozenAt j⟩⟩
    rw [h.cellAt j hj]
    unfold listF
    rw [List.getElem?_eq_getElem (by omega)]
    rfl
end Go.Proofs.Ythfmkejdpflpcaa
/-
  SLICES OF FRAMES, as the laws look at them, nil or not: compared, marked, held.
-/
namespace Go.Proofs.Ythfmkejdpflpcaa
open Go.ChangeShapes Go.WideShapes Go.ChangeAt Go.RowKit
/-- bytes as cells -/
def FF (f : Nat → Int) : Nat → Value := fun j => .int .u8 (f j)
/-- nothing has turned but blocks from lo on and below hi -/
def OnlIn (lo hi : Nat) (w w' : World) : Prop := w'.os = w.os ∧ w'.tape = w.tape ∧ w'.output = w.output ∧ w'.heap.size = w.heap.size ∧ ∀ k, k < lo ∨ hi ≤ k → w'.heap[k]? = w.heap[k]?
theorem OnlIn.refl (lo hi : Nat) (w : World) : OnlIn lo hi w w := ⟨rfl, rfl, rfl, rfl, fun _ _ => rfl⟩
theorem OnlIn.below {lo hi B : Nat} {w w' : World} (h : OnlIn lo hi w w') (hB : B ≤ lo) : Below B w w' := ⟨h.1, h.2.1, h.2.2.1, by rw [h.2.2.2.1]; exact Nat.le_refl _, fun k hk => h.2.2.2.2 k (.inl (by omega))⟩
theorem PR.onl {s lo hi lo' hi' : Nat} {w w' : World} {v : Value} {n : Nat} {f : Nat → Value} (h : OnlIn lo hi w w') (hd : hi' ≤ lo ∨ hi ≤ lo') (hp : PR s lo' hi' w v n f) : PR s lo' hi' w' v n f := by
  obtain ⟨a, cap, rfl, h0 | ⟨g, rfl, h1, h2, h3, h4, h5⟩⟩ := hp
  · exact ⟨a, cap, rfl, .inl h0⟩
  · have e : w'.heap[g]? = w.heap[g]? := h.2.2.2.2 g (by omega)
    refine ⟨_, cap, rfl, .inr ⟨g, rfl, h1, h2, by rw [h.2.2.2.1]; exact h3, fun j hj => ?_, fun j hj => ?_⟩⟩
    · rw [World.cell?_of_block (a := ⟨g, j, none⟩) e]; exact h4 j hj
    · rw [World.frozen?_of_block (a := ⟨g, j, none⟩) e]; exact h5 j hj
theorem FrR.onl {lo hi B n : Nat} {w w' : World} {a : Option Addr} {f : Nat → Int} (h : OnlIn lo hi w w') (hd : B ≤ lo) (hp : FrR B w a n f) : FrR B w' a n f := hp.below (h.below hd) (Nat.le_refl _)
theorem PR.fr {lo hi : Nat} {w : World} {v : Value} {n : Nat} {f : Nat → Int} (h : PR 16 lo hi w v n (FF f)) : ∃ a cap, v = .slice a n cap ∧ FrR w.heap.size w a n f := by
  obtain ⟨a, cap, rfl, h0 | ⟨g, rfl, h1, h2, h3, h4, h5⟩⟩ := h
  · exact ⟨a, cap, rfl, .inl h0⟩
  · exact ⟨_, cap, rfl, .inr ⟨g, 0, rfl, by omega, fun j hj => by rw [Nat.zero_add]; exact h4 j (by omega)⟩⟩
theorem FrR.congr {B n : Nat} {w : World} {a : Option Addr} {f g : Nat → Int} (h : FrR B w a n f) (e : ∀ j, j < 16 * n → f j = g j) : FrR B w a n g := by
  rcases h with h | ⟨b, off, ha, hg, hc⟩
  · exact .inl h
  · exact .inr ⟨b, off, ha, hg, fun j hj => by rw [← e j hj]; exact hc j hj⟩
set_option maxRecDepth 20000 in
set_option maxHeartbeats 8000000 in
theorem eqFS_any (a1 a2 : Option Addr) (n c1 c2 : Nat) (f : Nat → Int) (B : Nat) (w : World) (hB : B ≤ w.heap.size) (hn : n ≤ 1048576) (h1 : FrR B w a1 n f) (h2 : FrR B w a2 n f) :
    Calls Try.prog 45 #[.slice a1 n c1, .slice a2 n c2] w fun e w' => e = .returned (.bool true) ∧ Below w.heap.size w w' := by
  have hl' : (n : Int) ≤ 1048576 := by omega
  have HP1 := Lib.hid h1
  have HP2 := Lib.hid h2
  clear h1 h2
  go_enter Try.func45, Try.ntmps45
  go_wp2
  go_loopw [5] (fun i wr => ∃ k : Nat, k ≤ n ∧ i = .int .i64 k ∧ Below w.heap.size w wr) (fun i _ => n - (intOf i).toNat)
  case atStart => exact ⟨0, Nat.zero_le _, rfl, Below.refl _ _⟩
  case round =>
    obtain ⟨k, hk, rfl, hb⟩ := hrel
    have HB := Lib.hid hb
    clear hb
    by_cases hlt : k < n
    · obtain ⟨g1, o1, rfl, hg1, hc1⟩ : ∃ g off, a1 = some ⟨g, off, none⟩ ∧ g < B ∧ ∀ j, j < 16 * n → w.cell? ⟨g, off + j, none⟩ = some (.int .u8 (f j)) := by
        rcases HP1.out with h | h
        · omega
        · exact h
      obtain ⟨g2, o2, rfl, hg2, hc2⟩ : ∃ g off, a2 = some ⟨g, off, none⟩ ∧ g < B ∧ ∀ j, j < 16 * n → w.cell? ⟨g, off + j, none⟩ = some (.int .u8 (f j)) := by
        rcases HP2.out with h | h
        · omega
        · exact h
      have tk : (k : Int) < (n : Int) := by omega
      have GC1 : Hid (∀ W, Below wr.heap.size wr W → ∀ j v, (fbl f k)[j]? = some v → W.cell? ⟨g1, o1 + k * 16 + j, none⟩ = some v) := Lib.hid fun W hW j v e => by
        have hj : j < 16 := by
          rcases Nat.lt_or_ge j 16 with h | h
          · exact h
          · rw [Array.getElem?_eq_none (by rw [fbl_size]; exact h)] at e; cases e
        have hs := HB.out.size
        rw [hW.cell (p := ⟨g1, o1 + k * 16 + j, none⟩) (by show g1 < _; omega), HB.out.cell (p := ⟨g1, o1 + k * 16 + j, none⟩) (by show g1 < _; omega), Nat.add_assoc, hc1 (k * 16 + j) (by omega), ← fbl_get f k j hj]
        exact e
      have GC2 : Hid (∀ W, Below wr.heap.size wr W → ∀ j v, (fbl f k)[j]? = some v → W.cell? ⟨g2, o2 + k * 16 + j, none⟩ = some v) := Lib.hid fun W hW j v e => by
        have hj : j < 16 := by
          rcases Nat.lt_or_ge j 16 with h | h
          · exact h
          · rw [Array.getElem?_eq_none (by rw [fbl_size]; exact h)] at e; cases e
        have hs := HB.out.size
        rw [hW.cell (p := ⟨g2, o2 + k * 16 + j, none⟩) (by show g2 < _; omega), HB.out.cell (p := ⟨g2, o2 + k * 16 + j, none⟩) (by show g2 < _; omega), Nat.add_assoc, hc2 (k * 16 + j) (by omega), ← fbl_get f k j hj]
        exact e
      have HK := Lib.hid hlt
      have TB : Hid (∀ w, Calls Try.prog 84 #[.agg (fbl f k), .agg (fbl f k)] w fun e w' => e = .returned (.bool true) ∧ Below w.heap.size w w') := Lib.hid (eqFrame_any _ _ rfl)
      have B18 := Lib.hid (fbl_size f k)
      clear hc1 hc2 hlt hk hg1 hg2 HP1 HP2
      generalize fbl f k = A at GC1 GC2 TB B18
      go_wp2
      refine wp_region_inv (by kernel_rfl) (fun listed act W => listed.size = 10 ∧ Below wr.heap.size wr W ∧ ∃ x0 x1 x2 x3 x4 x5 x6 x7 x8 x9, act = { tmps := #[.slice (some ⟨g1, o1, none⟩) n c1, .slice (some ⟨g2, o2, none⟩) n c2, undef, undef, u4, .int .i64 (k : Int), .slice (some ⟨g1, o1, none⟩) n c1, .int .i64 (n : Int), .slice (some ⟨g2, o2, none⟩) n c2, .int .i64 (n : Int), .bool false, .int .i64 (k : Int), .slice (some ⟨g1, o1, none⟩) n c1, .int .i64 (n : Int), .bool true, u15, u16, x0, x1, x2, x3, x4, x5, x6, x7, x8, x9], defers := [] } ∧ (listed.getD 0 false = true → x0 = .slice (some ⟨g1, o1, none⟩) n c1) ∧ (listed.getD 1 false = true → x1 = .int .i64 (k : Int)) ∧ (listed.getD 2 false = true → x2 = .pointer (some ⟨g1, o1 + k * 16, none⟩)) ∧ (listed.getD 3 false = true → x3 = .agg A) ∧ (listed.getD 4 false = true → x4 = .slice (some ⟨g2, o2, none⟩) n c2) ∧ (listed.getD 5 false = true → x5 = .int .i64 (k : Int)) ∧ (listed.getD 6 false = true → x6 = .pointer (some ⟨g2, o2 + k * 16, none⟩)) ∧ (listed.getD 7 false = true → x7 = .agg A) ∧ (listed.getD 8 false = true → x8 = .bool true) ∧ (listed.getD 9 false = true → x9 = .bool false)) (by kernel_rfl) ?h01 (fun _ _ _ h => h.1) ?hstep1 ?hend1
      case h01 =>
        refine ⟨rfl, (Below.refl _ _).drew, _, _, _, _, _, _, _, _, _, _, rfl, ?_, ?_, ?_, ?_, ?_, ?_, ?_, ?_, ?_, ?_⟩ <;> (intro h; exact absurd h (by decide))
      case hstep1 =>
        rintro listed act W i o ⟨hs, hB, x0, x1, x2, x3, x4, x5, x6, x7, x8, x9, rfl, e0, e1, e2, e3, e4, e5, e6, e7, e8, e9⟩ hun hio hpre
        have HB := Lib.hid hB
        have E0 := Lib.hid e0
        have E1 := Lib.hid e1
        have E2 := Lib.hid e2
        have E3 := Lib.hid e3
        have E4 := Lib.hid e4
        have E5 := Lib.hid e5
        have E6 := Lib.hid e6
        have E7 := Lib.hid e7
        have E8 := Lib.hid e8
        have E9 := Lib.hid e9
        have HS := Lib.hid hs
        have HU := Lib.hid hun
        have PRE := Lib.hid hpre
        clear e0 e1 e2 e3 e4 e5 e6 e7 e8 e9 hs hpre hB hun
        match i, hio with
        | 0, hio =>
          clear hio
          refine wpOp_by rfl fun K HK => ?_
          go_wp2_with (fail)
          exact HK.out _ _ ⟨by rw [Array.size_setIfInBounds, HS.out], HB.out, _, _, _, _, _, _, _, _, _, _, rfl, fun _ => rfl, fun h => E1.out ((listed_set h).resolve_left (by decide)), fun h => E2.out ((listed_set h).resolve_left (by decide)), fun h => E3.out ((listed_set h).resolve_left (by decide)), fun h => E4.out ((listed_set h).resolve_left (by decide)), fun h => E5.out ((listed_set h).resolve_left (by decide)), fun h => E6.out ((listed_set h).resolve_left (by decide)), fun h => E7.out ((listed_set h).resolve_left (by decide)), fun h => E8.out ((listed_set h).resolve_left (by decide)), fun h => E9.out ((listed_set h).resolve_left (by decide))⟩
        | 1, hio =>
          clear hio
          refine wpOp_by rfl fun K HK => ?_
          go_wp2_with (fail)
          exact HK.out _ _ ⟨by rw [Array.size_setIfInBounds, HS.out], HB.out, _, _, _, _, _, _, _, _, _, _, rfl, fun h => E0.out ((listed_set h).resolve_left (by decide)), fun _ => rfl, fun h => E2.out ((listed_set h).resolve_left (by decide)), fun h => E3.out ((listed_set h).resolve_left (by decide)), fun h => E4.out ((listed_set h).resolve_left (by decide)), fun h => E5.out ((listed_set h).resolve_left (by decide)), fun h => E6.out ((listed_set h).resolve_left (by decide)), fun h => E7.out ((listed_set h).resolve_left (by decide)), fun h => E8.out ((listed_set h).resolve_left (by decide)), fun h => E9.out ((listed_set h).resolve_left (by decide))⟩
        | 2, hio =>
          simp only [List.getElem?_toArray, List.getElem?_cons_succ, List.getElem?_cons_zero, Option.some.injEq] at hio
          subst hio
          have p0 := PRE.out ⟨0, .data⟩ (by simp) rfl
          have p1 := PRE.out ⟨1, .data⟩ (by simp) rfl
          obtain rfl := E0.out p0
          obtain rfl := E1.out p1
          refine wpOp_by rfl fun K HK => ?_
          go_wp2_with (fail)
          exact HK.out _ _ ⟨by rw [Array.size_setIfInBounds, HS.out], HB.out, _, _, _, _, _, _, _, _, _, _, rfl, fun _ => rfl, fun _ => rfl, fun _ => rfl, fun h => E3.out ((listed_set h).resolve_left (by decide)), fun h => E4.out ((listed_set h).resolve_left (by decide)), fun h => E5.out ((listed_set h).resolve_left (by decide)), fun h => E6.out ((listed_set h).resolve_left (by decide)), fun h => E7.out ((listed_set h).resolve_left (by decide)), fun h => E8.out ((listed_set h).resolve_left (by decide)), fun h => E9.out ((listed_set h).resolve_left (by decide))⟩
        | 3, hio =>
          simp only [List.getElem?_toArray, List.getElem?_cons_succ, List.getElem?_cons_zero, Option.some.injEq] at hio
          subst hio
          have p2 := PRE.out ⟨2, .data⟩ (by simp) rfl
          obtain rfl := E2.out p2
          refine wpOp_by rfl fun K HK => ?_
          go_wp2_with (refine wpList_load_part rfl 104 _ rfl g1 (o1 + k * 16) rfl A _ (fun j v e => GC1.out W HB.out j v e) Try.underlying104 rfl (fr_info _ B18.out) ?_)
          exact HK.out _ _ ⟨by rw [Array.size_setIfInBounds, HS.out], HB.out, _, _, _, _, _, _, _, _, _, _, rfl, fun h => E0.out ((listed_set h).resolve_left (by decide)), fun h => E1.out ((listed_set h).resolve_left (by decide)), fun _ => rfl, fun _ => rfl, fun h => E4.out ((listed_set h).resolve_left (by decide)), fun h => E5.out ((listed_set h).resolve_left (by decide)), fun h => E6.out ((listed_set h).resolve_left (by decide)), fun h => E7.out ((listed_set h).resolve_left (by decide)), fun h => E8.out ((listed_set h).resolve_left (by decide)), fun h => E9.out ((listed_set h).resolve_left (by decide))⟩
        | 4, hio =>
          clear hio
          refine wpOp_by rfl fun K HK => ?_
          go_wp2_with (fail)
          exact HK.out _ _ ⟨by rw [Array.size_setIfInBounds, HS.out], HB.out, _, _, _, _, _, _, _, _, _, _, rfl, fun h => E0.out ((listed_set h).resolve_left (by decide)), fun h => E1.out ((listed_set h).resolve_left (by decide)), fun h => E2.out ((listed_set h).resolve_left (by decide)), fun h => E3.out ((listed_set h).resolve_left (by decide)), fun _ => rfl, fun h => E5.out ((listed_set h).resolve_left (by decide)), fun h => E6.out ((listed_set h).resolve_left (by decide)), fun h => E7.out ((listed_set h).resolve_left (by decide)), fun h => E8.out ((listed_set h).resolve_left (by decide)), fun h => E9.out ((listed_set h).resolve_left (by decide))⟩
        | 5, hio =>
          clear hio
          refine wpOp_by rfl fun K HK => ?_
          go_wp2_with (fail)
          exact HK.out _ _ ⟨by rw [Array.size_setIfInBounds, HS.out], HB.out, _, _, _, _, _, _, _, _, _, _, rfl, fun h => E0.out ((listed_set h).resolve_left (by decide)), fun h => E1.out ((listed_set h).resolve_left (by decide)), fun h => E2.out ((listed_set h).resolve_left (by decide)), fun h => E3.out ((listed_set h).resolve_left (by decide)), fun h => E4.out ((listed_set h).resolve_left (by decide)), fun _ => rfl, fun h => E6.out ((listed_set h).resolve_left (by decide)), fun h => E7.out ((listed_set h).resolve_left (by decide)), fun h => E8.out ((listed_set h).resolve_left (by decide)), fun h => E9.out ((listed_set h).resolve_left (by decide))⟩
        | 6, hio =>
          simp only [List.getElem?_toArray, List.getElem?_cons_succ, List.getElem?_cons_zero, Option.some.injEq] at hio
          subst hio
          have p4 := PRE.out ⟨4, .data⟩ (by simp) rfl
          have p5 := PRE.out ⟨5, .data⟩ (by simp) rfl
          obtain rfl := E4.out p4
          obtain rfl := E5.out p5
          refine wpOp_by rfl fun K HK => ?_
          go_wp2_with (fail)
          exact HK.out _ _ ⟨by rw [Array.size_setIfInBounds, HS.out], HB.out, _, _, _, _, _, _, _, _, _, _, rfl, fun h => E0.out ((listed_set h).resolve_left (by decide)), fun h => E1.out ((listed_set h).resolve_left (by decide)), fun h => E2.out ((listed_set h).resolve_left (by decide)), fun h => E3.out ((listed_set h).resolve_left (by decide)), fun _ => rfl, fun _ => rfl, fun _ => rfl, fun h => E7.out ((listed_set h).resolve_left (by decide)), fun h => E8.out ((listed_set h).resolve_left (by decide)), fun h => E9.out ((listed_set h).resolve_left (by decide))⟩
        | 7, hio =>
          simp only [List.getElem?_toArray, List.getElem?_cons_succ, List.getElem?_cons_zero, Option.some.injEq] at hio
          subst hio
          have p6 := PRE.out ⟨6, .data⟩ (by simp) rfl
          obtain rfl := E6.out p6
          refine wpOp_by rfl fun K HK => ?_
          go_wp2_with (refine wpList_load_part rfl 104 _ rfl g2 (o2 + k * 16) rfl A _ (fun j v e => GC2.out W HB.out j v e) Try.underlying104 rfl (fr_info _ B18.out) ?_)
          exact HK.out _ _ ⟨by rw [Array.size_setIfInBounds, HS.out], HB.out, _, _, _, _, _, _, _, _, _, _, rfl, fun h => E0.out ((listed_set h).resolve_left (by decide)), fun h => E1.out ((listed_set h).resolve_left (by decide)), fun h => E2.out ((listed_set h).resolve_left (by decide)), fun h => E3.out ((listed_set h).resolve_left (by decide)), fun h => E4.out ((listed_set h).resolve_left (by decide)), fun h => E5.out ((listed_set h).resolve_left (by decide)), fun _ => rfl, fun _ => rfl, fun h => E8.out ((listed_set h).resolve_left (by decide)), fun h => E9.out ((listed_set h).resolve_left (by decide))⟩
        | 8, hio =>
          simp only [List.getElem?_toArray, List.getElem?_cons_succ, List.getElem?_cons_zero, Option.some.injEq] at hio
          subst hio
          have p3 := PRE.out ⟨3, .data⟩ (by simp) rfl
          have p7 := PRE.out ⟨7, .data⟩ (by simp) rfl
          obtain rfl := E3.out p3
          obtain rfl := E7.out p7
          refine wpOp_by rfl fun K HK => ?_
          go_wp2_with fail
          refine (TB.out _).mono ?_
          rintro e W' ⟨rfl, hb⟩
          go_wp2
          exact HK.out _ _ ⟨by rw [Array.size_setIfInBounds, HS.out], HB.out.trans (hb.mono HB.out.size), _, _, _, _, _, _, _, _, _, _, rfl, fun h => E0.out ((listed_set h).resolve_left (by decide)), fun h => E1.out ((listed_set h).resolve_left (by decide)), fun h => E2.out ((listed_set h).resolve_left (by decide)), fun _ => rfl, fun h => E4.out ((listed_set h).resolve_left (by decide)), fun h => E5.out ((listed_set h).resolve_left (by decide)), fun h => E6.out ((listed_set h).resolve_left (by decide)), fun _ => rfl, fun _ => rfl, fun h => E9.out ((listed_set h).resolve_left (by decide))⟩
        | 9, hio =>
          simp only [List.getElem?_toArray, List.getElem?_cons_succ, List.getElem?_cons_zero, Option.some.injEq] at hio
          subst hio
          have p8 := PRE.out ⟨8, .data⟩ (by simp) rfl
          obtain rfl := E8.out p8
          refine wpOp_by rfl fun K HK => ?_
          go_wp2_with (fail)
          exact HK.out _ _ ⟨by rw [Array.size_setIfInBounds, HS.out], HB.out, _, _, _, _, _, _, _, _, _, _, rfl, fun h => E0.out ((listed_set h).resolve_left (by decide)), fun h => E1.out ((listed_set h).resolve_left (by decide)), fun h => E2.out ((listed_set h).resolve_left (by decide)), fun h => E3.out ((listed_set h).resolve_left (by decide)), fun h => E4.out ((listed_set h).resolve_left (by decide)), fun h => E5.out ((listed_set h).resolve_left (by decide)), fun h => E6.out ((listed_set h).resolve_left (by decide)), fun h => E7.out ((listed_set h).resolve_left (by decide)), fun _ => rfl, fun _ => rfl⟩
        | k + 10, hio => simp at hio
      case hend1 =>
        rintro listed act W1 ⟨hs, hB, x0, x1, x2, x3, x4, x5, x6, x7, x8, x9, rfl, e0, e1, e2, e3, e4, e5, e6, e7, e8, e9⟩ hall
        obtain rfl := e0 (hall 0 (by decide))
        obtain rfl := e1 (hall 1 (by decide))
        obtain rfl := e2 (hall 2 (by decide))
        obtain rfl := e3 (hall 3 (by decide))
        obtain rfl := e4 (hall 4 (by decide))
        obtain rfl := e5 (hall 5 (by decide))
        obtain rfl := e6 (hall 6 (by decide))
        obtain rfl := e7 (hall 7 (by decide))
        obtain rfl := e8 (hall 8 (by decide))
        obtain rfl := e9 (hall 9 (by decide))
        clear hs hall 
        have HB1 := Lib.hid (HB.out.trans (hB.mono HB.out.size))
        clear hB
        go_wp2
        go_roundw
        case rel => exact ⟨k + 1, HK.out, by go_num, HB1.out⟩
        case measure => have := HK.out; simp [intOf]; omega
    · obtain rfl : k = n := by omega
      go_wp2
      go_ret
      exact ⟨rfl, HB.out⟩

theorem eqF_any {lo hi lo' hi' n : Nat} {v v' : Value} {f g : Nat → Int} {w : World} (hf : ∀ j, j < 16 * n → f j = g j) (hn : n ≤ 1048576) (h : PR 16 lo hi w v n (FF f)) (h' : PR 16 lo' hi' w v' n (FF g)) :
    Calls Try.prog 45 #[v, v'] w fun e w' => e = .returned (.bool true) ∧ Below w.heap.size w w' := by
  obtain ⟨a, c, rfl, h0⟩ := h.fr
  obtain ⟨a', c', rfl, h0'⟩ := h'.fr
  exact eqFS_any a a' n c c' g w.heap.size w (Nat.le_refl _) hn (h0.congr hf) h0'
theorem fcell_set {w : World} {g i j : Nat} {v u : Value} (h : w.cell? ⟨g, j, none⟩ = some u) : (w.setCell ⟨g, i, none⟩ v).cell? ⟨g, j, none⟩ = some (if i = j then v else u) := by
  unfold World.cell? at h ⊢
  simp only [World.setCell, Array.getElem?_modify, ↓reduceIte]
  cases hh : w.heap[g]? with
  | none => simp [hh] at h
  | some o =>
    rw [hh] at h
    cases o with
    | cells c t fr =>
      simp only [Option.map_some] at h ⊢
      have hlt : j < c.size := by
        simp at h
        exact (Array.getElem?_eq_some_iff.1 h).1
      by_cases hij : i = j
      · subst hij; simp [Array.getElem?_setIfInBounds, hlt]
      · simp at h; simp [Array.getElem?_setIfInBounds, hij, h]
    | _ => simp at h
def markU : Nat → Value := fun j => .int .u8 (((1 + j : Nat) : Int) % 256)
/-- only block g has turned -/
def FOnl (g : Nat) (w w' : World) : Prop := w'.os = w.os ∧ w'.tape = w.tape ∧ w'.output = w.output ∧ w'.heap.size = w.heap.size ∧ ∀ k, k ≠ g → w'.heap[k]? = w.heap[k]?
theorem FOnl.refl (g : Nat) (w : World) : FOnl g w w := ⟨rfl, rfl, rfl, rfl, fun _ _ => rfl⟩
theorem FOnl.put {g i : Nat} {w w' : World} {v : Value} (h : FOnl g w w') : FOnl g w (w'.setCell ⟨g, i, none⟩ v) :=
  ⟨h.1, h.2.1, h.2.2.1, by simp [h.2.2.2.1], fun k hk => by rw [← h.2.2.2.2 k hk]; exact Below.heap_setCell _ _ _ k hk⟩
theorem FOnl.onl {g lo hi : Nat} {w w' : World} (h : FOnl g w w') (h1 : lo ≤ g) (h2 : g < hi) : OnlIn lo hi w w' := ⟨h.1, h.2.1, h.2.2.1, h.2.2.2.1, fun k hk => h.2.2.2.2 k (by omega)⟩
/-- the first m of N cells of a block are marks; all N can be written -/
def FMk (g N m : Nat) (w : World) : Prop := (∀ j, j < m → w.cell? ⟨g, j, none⟩ = some (markU j)) ∧ ∀ j, j < N → (∃ x, w.cell? ⟨g, j, none⟩ = some (.int .u8 x)) ∧ w.frozen? ⟨g, j, none⟩ = false
theorem FMk.put {g N m : Nat} {w : World} (h : FMk g N m w) (hm : m < N) : FMk g N (m + 1) (w.setCell ⟨g, m, none⟩ (markU m)) := by
  refine ⟨fun j hj => ?_, fun j hj => ⟨?_, ?_⟩⟩
  · obtain ⟨x, hx⟩ := (h.2 j (by omega)).1
    rw [fcell_set hx]
    by_cases e : m = j
    · subst e; simp
    · rw [if_neg e, ← hx]; exact h.1 j (by omega)
  · obtain ⟨x, hx⟩ := (h.2 j hj).1
    rw [fcell_set hx]
    by_cases e : m = j
    · exact ⟨_, by rw [if_pos e]; rfl⟩
    · exact ⟨x, by rw [if_neg e]⟩
  · rw [World.frozen?_setCell]; exact (h.2 j hj).2
set_option maxHeartbeats 2000000 in
theorem markFS_any (g cap n : Nat) (hn : n ≤ 1048576) (w : World) (ho : FMk g (16 * n) 0 w) :
    Calls Try.prog 46 #[.slice (some ⟨g, 0, none⟩) n cap, .int .i64 1] w fun e w' => e = .returned (.int .i64 ((1 + 16 * n : Nat) : Int)) ∧ FMk g (16 * n) (16 * n) w' ∧ FOnl g w w' := by
  have HO := Lib.hid ho
  have hn' : (n : Int) ≤ 1048576 := by omega
  clear ho
  go_enter Try.func46, Try.ntmps46
  go_wp2
  go_loopw [1, 5, 6] (fun q i _ wr => ∃ k : Nat, k ≤ n ∧ i = .int .i64 k ∧ q = .int .i64 ((1 + 16 * k : Nat) : Int) ∧ FMk g (16 * n) (16 * k) wr ∧ FOnl g w wr) (fun _ i _ _ => n - (intOf i).toNat)
  case atStart => exact ⟨0, Nat.zero_le _, rfl, rfl, HO.out, FOnl.refl _ _⟩
  case round =>
    obtain ⟨k, hk, rfl, rfl, hm, hb⟩ := hrel
    have HM := Lib.hid hm
    have HB := Lib.hid hb
    clear hm hb
    by_cases hlt : k < n
    · have hlt' : (k : Int) < n := by omega
      have HK := Lib.hid hlt
      clear hlt hk
      go_wp2
      go_loopw [1, 6] (fun q i wx => ∃ j : Nat, j ≤ 16 ∧ i = .int .i64 (j : Int) ∧ q = .int .i64 ((1 + (16 * k + j) : Nat) : Int) ∧ FMk g (16 * n) (16 * k + j) wx ∧ FOnl g w wx) (fun _ i _ => 16 - (intOf i).toNat)
      case atStart => exact ⟨0, by omega, rfl, rfl, HM.out, HB.out⟩
      case round =>
        obtain ⟨j, hj, rfl, rfl, hm, hb⟩ := hrel
        have HM2 := Lib.hid hm
        have HB2 := Lib.hid hb
        clear hm hb
        by_cases hjl : j < 16
        · have hjl' : (j : Int) < 16 := by omega
          have HJ := Lib.hid hjl
          obtain ⟨x, hx⟩ := (HM2.out.2 (16 * k + j) (by have := HK.out; omega)).1
          have hf := (HM2.out.2 (16 * k + j) (by have := HK.out; omega)).2
          have HP := Lib.hid (HM2.out.put (by have := HK.out; omega))
          have hx' : wr.cell? ⟨g, k * 16 + j, none⟩ = some (.int .u8 x) := by rw [Nat.mul_comm]; exact hx
          have hf' : wr.frozen? ⟨g, k * 16 + j, none⟩ = false := by rw [Nat.mul_comm]; exact hf
          have HE : Hid (wr.setCell ⟨g, 16 * k + j, none⟩ (markU (16 * k + j)) = wr.setCell ⟨g, k * 16 + j, none⟩ (.int .u8 (((1 + (16 * k + j) : Nat) : Int) % 256))) := Lib.hid (by rw [Nat.mul_comm 16 k]; rfl)
          rw [HE.out] at HP
          clear hx hf hjl hj HE
          obtain ⟨z, hz⟩ : ∃ z : Nat, 1 + (16 * k + j) = z := ⟨_, rfl⟩
          have HZ := Lib.hid hz
          rw [hz] at HP ⊢
          have hzl : (z : Int) ≤ 20000000 := by have := HK.out; omega
          clear hz
          go_wp2
          go_roundw
          case rel => exact ⟨j + 1, HJ.out, by go_num, by rw [← HZ.out]; go_num, HP.out, HB2.out.put⟩
          case measure => have := HJ.out; simp [intOf]; omega
        · obtain rfl : j = 16 := by omega
          clear hjl hj
          go_wp2
          go_roundw
          case rel => exact ⟨k + 1, HK.out, by go_num, by rw [show 1 + (16 * k + 16) = 1 + 16 * (k + 1) by omega], HM2.out, HB2.out⟩
          case measure => have := HK.out; simp [intOf]; omega
    · obtain rfl : k = n := by omega
      go_wp2
      go_ret
      exact ⟨rfl, HM.out, HB.out⟩
set_option maxHeartbeats 2000000 in
theorem heldFS_any (g cap n : Nat) (hn : n ≤ 1048576) (w : World) (ho : ∀ j, j < 16 * n → w.cell? ⟨g, j, none⟩ = some (markU j)) :
    Calls Try.prog 47 #[.slice (some ⟨g, 0, none⟩) n cap, .int .i64 1] w fun e w' => e = .returned (.int .i64 ((1 + 16 * n : Nat) : Int)) ∧ w = w' := by
  have HO := Lib.hid ho
  have hn' : (n : Int) ≤ 1048576 := by omega
  clear ho
  go_enter Try.func47, Try.ntmps47
  go_wp2
  go_loop [1, 5, 6] (fun q i _ => ∃ k : Nat, k ≤ n ∧ i = .int .i64 k ∧ q = .int .i64 ((1 + 16 * k : Nat) : Int)) (fun _ i _ => n - (intOf i).toNat)
  case atStart => exact ⟨0, Nat.zero_le _, rfl, rfl⟩
  case round =>
    obtain ⟨k, hk, rfl, rfl⟩ := hrel
    by_cases hlt : k < n
    · have hlt' : (k : Int) < n := by omega
      have HK := Lib.hid hlt
      clear hlt hk
      go_wp2
      go_loop [1, 6] (fun q i => ∃ j : Nat, j ≤ 16 ∧ i = .int .i64 (j : Int) ∧ q = .int .i64 ((1 + (16 * k + j) : Nat) : Int)) (fun _ i => 16 - (intOf i).toNat)
      case atStart => exact ⟨0, by omega, rfl, rfl⟩
      case round =>
        obtain ⟨j, hj, rfl, rfl⟩ := hrel
        by_cases hjl : j < 16
        · have hjl' : (j : Int) < 16 := by omega
          have HJ := Lib.hid hjl
          have hx : w.cell? ⟨g, k * 16 + j, none⟩ = some (.int .u8 (((1 + (16 * k + j) : Nat) : Int) % 256)) := by
            rw [Nat.mul_comm]; exact HO.out (16 * k + j) (by have := HK.out; omega)
          obtain ⟨z, hz⟩ : ∃ z : Nat, 1 + (16 * k + j) = z := ⟨_, rfl⟩
          have HZ := Lib.hid hz
          rw [hz] at hx ⊢
          have hzl : (z : Int) ≤ 20000000 := by have := HK.out; omega
          clear hz hjl hj
          go_wp2
          go_round
          case rel => exact ⟨j + 1, HJ.out, by go_num, by rw [← HZ.out]; go_num⟩
          case measure => have := HJ.out; simp [intOf]; omega
        · obtain rfl : j = 16 := by omega
          clear hjl hj
          go_wp2
          go_round
          case rel => exact ⟨k + 1, HK.out, by go_num, by rw [show 1 + (16 * k + 16) = 1 + 16 * (k + 1) by omega]⟩
          case measure => have := HK.out; simp [intOf]; omega
    · obtain rfl : k = n := by omega
      go_wp2
      go_ret
      exact ⟨rfl, rfl⟩
theorem markFNone_any (x : Option Addr) (c : Nat) (w : World) :
    Calls Try.prog 46 #[.slice x 0 c, .int .i64 1] w fun e w' => e = .returned (.int .i64 1) ∧ w = w' := by
  go_enter Try.func46, Try.ntmps46
  go_wp2
  refine wp_loop_rounds 1 ?_
  rw [rounds_succ]
  go_wp2
  go_ret
  exact ⟨rfl, rfl⟩
theorem heldFNone_any (x : Option Addr) (c : Nat) (w : World) :
    Calls Try.prog 47 #[.slice x 0 c, .int .i64 1] w fun e w' => e = .returned (.int .i64 1) ∧ w = w' := by
  go_enter Try.func47, Try.ntmps47
  go_wp2
  refine wp_loop_rounds 1 ?_
  rw [rounds_succ]
  go_wp2
  go_ret
  exact ⟨rfl, rfl⟩
theorem markF_any {lo hi n : Nat} {v : Value} {f : Nat → Int} {w : World} (hn : n ≤ 1048576) (h : PR 16 lo hi w v n (FF f)) :
    Calls Try.prog 46 #[v, .int .i64 1] w fun e w' => e = .returned (.int .i64 ((1 + 16 * n : Nat) : Int)) ∧ PR 16 lo hi w' v n markU ∧ OnlIn lo hi w w' := by
  obtain ⟨a, c, rfl, h0⟩ := h
  rcases h0 with rfl | ⟨g, rfl, h1, h2, h3, h4, h5⟩
  · exact (markFNone_any a c w).mono fun e w' h => ⟨h.1, ⟨a, c, rfl, .inl rfl⟩, by rw [← h.2]; exact OnlIn.refl _ _ _⟩
  · refine (markFS_any g c n hn w ⟨fun j hj => absurd hj (by omega), fun j hj => ⟨⟨f j, h4 j (by omega)⟩, h5 j (by omega)⟩⟩).mono ?_
    rintro e w' ⟨he, hm, ho⟩
    exact ⟨he, ⟨_, c, rfl, .inr ⟨g, rfl, h1, h2, by rw [ho.2.2.2.1]; exact h3, fun j hj => hm.1 j (by omega), fun j hj => (hm.2 j (by omega)).2⟩⟩, ho.onl h1 h2⟩
theorem heldF_any {lo hi n : Nat} {v : Value} {w : World} (hn : n ≤ 1048576) (h : PR 16 lo hi w v n markU) :
    Calls Try.prog 47 #[v, .int .i64 1] w fun e w' => e = .returned (.int .i64 ((1 + 16 * n : Nat) : Int)) ∧ w = w' := by
  obtain ⟨a, c, rfl, h0⟩ := h
  rcases h0 with rfl | ⟨g, rfl, h1, h2, h3, h4, h5⟩
  · exact (heldFNone_any a c w).mono fun e w' h => ⟨h.1, h.2⟩
  · exact heldFS_any g c n hn w fun j hj => h4 j (by omega)
end Go.Proofs.Ythfmkejdpflpcaa
/-
  BYTES IN ROWS: the bytes of a word; slices of bytes that a call builds itself, told by a function.
-/
namespace Go.Proofs.Ythfmkejdpflpcaa
open Go.ChangeShapes Go.WideShapes Go.ChangeAt Go.RowKit
/-- the bytes of a word, the highest first -/
def byW (r : Nat) : Nat → Int
  | 0 => (r : Int) / 16777216 % 256
  | 1 => (r : Int) / 65536 % 256
  | 2 => (r : Int) / 256 % 256
  | _ => (r : Int) % 256
theorem byW_By (r n : Nat) : ByF n (byW r) := fun j _ => by
  unfold byW
  split <;> omega
/-- n cells of bytes -/
def rowU (q : Nat → Int) (n : Nat) : List Value := (List.range n).map fun j => .int .u8 (q j)
theorem rowU_len (q : Nat → Int) (n : Nat) : (rowU q n).length = n := by simp [rowU]
theorem rowU_get (q : Nat → Int) (n j : Nat) (h : j < n) : (rowU q n)[j]? = some (.int .u8 (q j)) := by simp [rowU, h]
theorem rowU_congr {q r : Nat → Int} {n : Nat} (h : ∀ j, j < n → q j = r j) : rowU q n = rowU r n := by
  unfold rowU
  refine List.map_congr_left fun j hj => ?_
  rw [h j (by simpa using hj)]
theorem rowU_one (q : Nat → Int) (n : Nat) : ∀ u ∈ rowU q n, u.oneCell' = true := by
  intro u hu
  obtain ⟨j, _, rfl⟩ := List.mem_map.1 hu
  rfl
/-- q up to n, then p -/
def catU (q : Nat → Int) (n : Nat) (p : Nat → Int) : Nat → Int := fun j => if j < n then q j else p (j - n)
theorem catU_lo {q p : Nat → Int} {n j : Nat} (h : j < n) : catU q n p j = q j := if_pos h
theorem catU_hi (q p : Nat → Int) (n j : Nat) : catU q n p (n + j) = p j := by unfold catU; rw [if_neg (by omega), Nat.add_sub_cancel_left]
theorem rowU_cat (q p : Nat → Int) (n m : Nat) : rowU q n ++ rowU p m = rowU (catU q n p) (n + m) := by
  apply List.ext_getElem?
  intro j
  by_cases h : j < n
  · rw [List.getElem?_append_left (by rw [rowU_len]; exact h), rowU_get _ _ _ h, rowU_get _ _ _ (by omega), catU_lo h]
  · rw [List.getElem?_append_right (by rw [rowU_len]; omega), rowU_len]
    by_cases h2 : j < n + m
    · rw [rowU_get _ _ _ (by omega), rowU_get _ _ _ h2]
      unfold catU
      rw [if_neg h]
    · rw [List.getElem?_eq_none (by rw [rowU_len]; omega), List.getElem?_eq_none (by rw [rowU_len]; omega)]
theorem rowU_succ (q : Nat → Int) (n : Nat) : rowU q n ++ [.int .u8 (q n)] = rowU q (n + 1) := by
  unfold rowU
  rw [List.range_succ, List.map_append]
  rfl
theorem rowU_zero (q : Nat → Int) : rowU q 0 = [] := rfl
/-- v is a slice of the call's own that holds n bytes q -/
def OwnU (base : Nat) (v : Value) (n : Nat) (q : Nat → Int) (w : World) : Prop := w.ownsRow base 5 1 v n (rowU q n)
theorem OwnU.alloc {base : Nat} {v : Value} {n : Nat} {q : Nat → Int} {w : World} (h : OwnU base v n q w) (o : Obj) : OwnU base v n q (w.alloc o) := World.ownsRow.alloc h o
theorem OwnU.congr {base : Nat} {v : Value} {n : Nat} {q r : Nat → Int} {w : World} (h : OwnU base v n q w) (e : ∀ j, j < n → q j = r j) : OwnU base v n r w := by
  unfold OwnU at *
  rw [← rowU_congr e]; exact h
theorem OwnU.base {base b2 : Nat} {v : Value} {n : Nat} {q : Nat → Int} {w : World} (hb : base ≤ b2) (h : OwnU b2 v n q w) : OwnU base v n q w := by
  refine ⟨h.1, ?_⟩
  rcases h.2 with h0 | ⟨g, cap, cur, h1, h2, h3⟩
  · exact .inl h0
  · exact .inr ⟨g, cap, cur, h1, Nat.le_trans hb h2, h3⟩
theorem OwnU.nil (base : Nat) (q : Nat → Int) (w : World) : OwnU base (.slice none 0 0) 0 q w := World.ownsRow_nil _ _ _ _
theorem OwnU.form {base : Nat} {v : Value} {n : Nat} {q : Nat → Int} {w : World} (h : OwnU base v n q w) (hn : 0 < n) : ∃ g cap, v = .slice (some ⟨g, 0, none⟩) n cap ∧ n ≤ cap ∧ base ≤ g ∧ g < w.heap.size ∧ ∀ j, j < n → w.cell? ⟨g, j, none⟩ = some (.int .u8 (q j)) := by
  have hlt := h.lt
  rcases h.2 with ⟨_, h0⟩ | ⟨g, cap, cur, rfl, hb, hg, h3, _⟩
  · omega
  · refine ⟨g, cap, rfl, h3, hb, (hlt g rfl).2, fun j hj => ?_⟩
    rw [h.cellAt j (by omega)]
    rw [← rowU_get q n j hj, List.getElem?_eq_getElem (by rw [rowU_len]; exact hj)]
theorem info_u8' : (Try.prog.info? 5).map (fun i => (i.zero, i.size, i.bytes)) = some (some (.int .u8 0), 1, 1) := by kernel_rfl
theorem cells4_at (w : World) (r : Nat) : ∀ j u, (rowU (byW r) 4)[j]? = some u → (w.alloc (.cells #[.int .u8 ((r : Int) / 16777216 % 256), .int .u8 ((r : Int) / 65536 % 256), .int .u8 ((r : Int) / 256 % 256), .int .u8 ((r : Int) % 256)] 5)).cell? ((⟨w.heap.size, 0, none⟩ : Addr).add j) = some u := by
  intro j u h
  have e : (⟨w.heap.size, 0, none⟩ : Addr).add j = ⟨w.heap.size, j, none⟩ := by rw [Go.WideShapes.add_plain, Nat.zero_add]
  rw [e, World.cell?_alloc_new]
  match j, h with
  | 0, h => exact h
  | 1, h => exact h
  | 2, h => exact h
  | 3, h => exact h
  | k + 4, h => rw [List.getElem?_eq_none (by rw [rowU_len]; omega)] at h; cases h
/-- append of cells that lie behind an address -/
theorem wpList_append_u {ops : Array Oper} {rest : List Oper} {o : Oper} {a : Act} {W : World} {Q : Exit → Act → World → Prop} (hgd : o.guard = none) (s x : Operand)
    (ho : o.op = .call { callee := .builtin .append, args := #[s, x], argTypes := #[95, 95] })
    (base : Nat) (v : Value) (n : Nat) (q : Nat → Int) (hs : a.eval s = v) (hown : OwnU base v n q W) (g off m c : Nat) (p : Nat → Int) (hx : a.eval x = .slice (some ⟨g, off, none⟩) m c)
    (hc : ∀ j, j < m → W.cell? ⟨g, off + j, none⟩ = some (.int .u8 (p j))) (hl : n + m ≤ 100000000) (hbase : base ≤ W.heap.size)
    (w0 : World) (hb : Below base w0 W)
    (h : ∀ v' w', OwnU base v' (n + m) (catU q n p) w' → Below base w0 w' → wpList Try.prog ops Q rest (a.put o.dst v') w') : wpList Try.prog ops Q (o :: rest) a W := by
  obtain ⟨i0, hi, hz0, hz1, hz2⟩ := info_parts info_u8'
  refine wpList_append_own W hgd s x 95 ho base 5 i0 (.int .u8 0) 1 1 Try.underlying95 hi hz0 hz1 hz2 rfl (by decide) v n (rowU q n) hs hown ⟨g, off, none⟩ m c (rowU p m) hx (by rw [rowU_len, Nat.mul_one]) ?_ (rowU_one p m) (by unfold maxLen; omega) (by omega) hbase ?_
  · intro j u hj
    have hlt : j < m := by
      rcases Nat.lt_or_ge j m with h | h
      · exact h
      · rw [List.getElem?_eq_none (by rw [rowU_len]; exact h)] at hj; cases hj
    rw [rowU_get _ _ _ hlt] at hj
    rw [Go.WideShapes.add_plain, hc j hlt]; exact hj
  · intro v' w' h1 h2 _
    refine h v' w' ?_ ?_
    · unfold OwnU
      rw [← rowU_cat]
      exact h1
    · exact hb.grown h2 hbase (fun k hk => (World.ownsRow.lt hown k hk).1)
/-- a slice that is full grows: a row of the call's own -/
theorem wpList_append_full {ops : Array Oper} {rest : List Oper} {o : Oper} {a : Act} {W : World} {Q : Exit → Act → World → Prop} (hgd : o.guard = none) (s x : Operand)
    (ho : o.op = .call { callee := .builtin .append, args := #[s, x], argTypes := #[95, 95] })
    (g0 off0 n : Nat) (q : Nat → Int) (hs : a.eval s = .slice (some ⟨g0, off0, none⟩) n n) (hq : ∀ j, j < n → W.cell? ⟨g0, off0 + j, none⟩ = some (.int .u8 (q j))) (g off m c : Nat) (p : Nat → Int) (hx : a.eval x = .slice (some ⟨g, off, none⟩) m c)
    (hc : ∀ j, j < m → W.cell? ⟨g, off + j, none⟩ = some (.int .u8 (p j))) (hm : 0 < m) (hl : n + m ≤ 100000) (base : Nat) (hbase : base ≤ W.heap.size)
    (w0 : World) (hb : Below base w0 W)
    (h : ∀ v' w', OwnU base v' (n + m) (catU q n p) w' → Below base w0 w' → wpList Try.prog ops Q rest (a.put o.dst v') w') : wpList Try.prog ops Q (o :: rest) a W := by
  obtain ⟨i0, hi, hz0, hz1, hz2⟩ := info_parts info_u8'
  have e1 : ∀ j u, (rowU q n)[j]? = some u → W.cell? ((⟨g0, off0, none⟩ : Addr).add j) = some u := fun j u hj => by
    have hlt : j < n := by
      rcases Nat.lt_or_ge j n with h | h
      · exact h
      · rw [List.getElem?_eq_none (by rw [rowU_len]; exact h)] at hj; cases hj
    rw [rowU_get _ _ _ hlt] at hj
    rw [Go.WideShapes.add_plain, hq j hlt]; exact hj
  have e2 : ∀ j u, (rowU p m)[j]? = some u → W.cell? ((⟨g, off, none⟩ : Addr).add j) = some u := fun j u hj => by
    have hlt : j < m := by
      rcases Nat.lt_or_ge j m with h | h
      · exact h
      · rw [List.getElem?_eq_none (by rw [rowU_len]; exact h)] at hj; cases hj
    rw [rowU_get _ _ _ hlt] at hj
    rw [Go.WideShapes.add_plain, hc j hlt]; exact hj
  have hr := run_append_grow (P := Try.prog) W 95 o.type 5 i0 (.int .u8 0) Try.underlying95 hi hz0 ⟨g0, off0, none⟩ n n (rowU q n) (by rw [rowU_len, hz1, Nat.mul_one]) e1 ⟨g, off, none⟩ m c (rowU p m) (by rw [rowU_len, hz1, Nat.mul_one]) e2 (by omega) (by omega) (growslice_fits (by omega) (by rw [hz2]; omega))
  have hcm : grownCap W (n + m) n 5 ≤ maxLen := grownCap_le_maxLen W (n + m) n 5 (by unfold maxLen; omega)
  have hge := grownCap_ge W (n + m) n 5
  obtain ⟨C, hC⟩ : ∃ C, grownCap W (n + m) n 5 = C := ⟨_, rfl⟩
  rw [hC] at hr hcm hge
  have hzc : (Value.int .u8 0).cells = #[Value.int .u8 0] := rfl
  refine wpList_plain hgd fun K hK => ?_
  unfold Oper.wp execOp
  simp only [ho, resolve, invoke, builtin, Sem.run_bind, Sem.run_pure, Result.andThen_ok, List.map_toArray, List.map_cons, List.map_nil, hs, hx, hr]
  refine hK _ _ (h _ _ ⟨by rw [rowU_len, Nat.mul_one], .inr ⟨W.heap.size, _, _, rfl, hbase, heap_alloc_new W.drew _, hge, hcm, ?_, ?_⟩⟩ ?_)
  · simp only [Array.size_append, List.size_toArray, size_zeroCells, rowU_len, hzc]
    simp
    omega
  · simp only [Array.toList_append, List.append_assoc]
    rw [← List.append_assoc, rowU_cat, Nat.mul_one]
    have e3 := rowU_len (catU q n p) (n + m)
    rw [List.take_append_of_le_length (by rw [e3]; exact Nat.le_refl _), List.take_of_length_le (by rw [e3]; exact Nat.le_refl _)]
  · exact (hb.drew).alloc hbase _
end Go.Proofs.Ythfmkejdpflpcaa
