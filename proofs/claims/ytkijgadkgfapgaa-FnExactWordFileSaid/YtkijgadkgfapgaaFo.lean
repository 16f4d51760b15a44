/-
  A SLICE OF FRAMES THAT CAME IN, OPENED; the law's copy of it.
-/
import Derived.Test.YtkijgadkgfapgaaFt
import Derived.Test.YtkijgadkgfapgaaPar
import Derived.Deep.Slices
import Derived.OpenShut
import Derived.ChangeOld
import Derived.Carry
namespace Go.Proofs.Ytkijgadkgfapgaa
open Go.ChangeShapes Go.WideShapes Go.ChangeAt Go.RowKit Go.Deep
/-- a slice of frames below B -/
def FrR (B : Nat) (w : World) (a : Option Addr) (n : Nat) (f : Nat → Int) : Prop := n = 0 ∨ ∃ g off, a = some ⟨g, off, none⟩ ∧ g < B ∧ ∀ j, j < 16 * n → w.cell? ⟨g, off + j, none⟩ = some (.int .u8 (f j))
theorem FrR.below {B B' : Nat} {w w' : World} {a : Option Addr} {n : Nat} {f : Nat → Int} (h : FrR B w a n f) (hb : Below B w w') (hB : B ≤ B') : FrR B' w' a n f := by
  rcases h with h | ⟨g, off, ha, hg, hc⟩
  · exact .inl h
  · exact .inr ⟨g, off, ha, by omega, fun j hj => (hb.cell (p := ⟨g, off + j, none⟩) hg).trans (hc j hj)⟩
theorem FrR.mono' {B B' : Nat} {w : World} {a : Option Addr} {n : Nat} {f : Nat → Int} (h : FrR B w a n f) (hB : B ≤ B') : FrR B' w a n f := by
  rcases h with h | ⟨g, off, ha, hg, hc⟩
  · exact .inl h
  · exact .inr ⟨g, off, ha, by omega, hc⟩
section
variable {H : Type} {enc : TypeId × Value → H} {W : World} {base : Nat} {spare : Nat → Bool} {held : Bool}
theorem trodf_u8 {n : Nat} {v : Value} {y : DataW H × List MemPlace}
    (ht : DataW.trod enc Try.prog W base spare held n 5 [v] = some y) : ∃ c : Int, (0 ≤ c ∧ c ≤ 255) ∧ v = .int .u8 c := by
  cases n with
  | zero => simp [DataW.trod] at ht
  | succ n =>
    obtain ⟨c, e1, _, hw⟩ := DataW.trod_int Try.underlying5 ht
    obtain rfl := (List.cons.inj e1).1
    refine ⟨c, ?_, rfl⟩
    simp [Lit.wf, IntKind.min, IntKind.max, IntKind.bits, IntKind.signed] at hw
    omega
theorem fro_elem {P : Program} {t e : TypeId} {n fuel : Nat} {cs : List Value} {x : DataW H × List MemPlace} (ht : P.underlying t = some (.array n e)) (hc : P.cellsOf e = 1) (hn : P.cellsOf t = n)
    (h : DataW.trod enc P W base spare held fuel t cs = some x) (r : Nat) (hr : r < n) : ∃ v y m, cs[r]? = some v ∧ DataW.trod enc P W base spare held m e [v] = some y := by
  obtain ⟨xs, m, rfl, -, hlen, hxl, hel⟩ := DataW.trod_array ht h
  have e1 := hel r hr
  rw [hc, Nat.mul_one, List.getElem?_eq_getElem (by omega), List.drop_eq_getElem_cons (by omega), List.take_succ_cons, List.take_zero] at e1
  exact ⟨_, _, m, List.getElem?_eq_getElem (by omega), e1⟩
theorem fro_of {a : Option Addr} {len cap : Nat} {d : DataW H} {ps : List MemPlace}
    (h : DataW.Trod enc Try.prog W base spare held 43 (.slice a len cap) d ps) : ∃ f, ByF (16 * len) f ∧ FrR W.heap.size W a len f ∧ len ≤ maxLen := by
  obtain ⟨fuel, hf⟩ := h
  have c16 : Try.prog.cellsOf 24 = 16 := by kernel_rfl
  have c1 : Try.prog.cellsOf 5 = 1 := by kernel_rfl
  rcases open_slice Try.underlying43 hf with ⟨hcs, _⟩ | ⟨x, l, c, m, n, D, Pl, hcs, _, hl, hcm, hm, _, hcell⟩
  · simp [Value.cells] at hcs
    obtain ⟨rfl, rfl, rfl⟩ := hcs
    exact ⟨fun _ => 0, fun j hj => by omega, .inl rfl, Nat.zero_le _⟩
  · simp [Value.cells] at hcs
    obtain ⟨rfl, rfl, rfl⟩ := hcs
    rw [c16] at hcell
    have hlm : len ≤ m := by rw [hm]; split <;> omega
    by_cases h0 : len = 0
    · exact ⟨fun _ => 0, fun j hj => by omega, .inl h0, by omega⟩
    · obtain ⟨b, off, spot⟩ := x
      have hspot : spot = none := by
        obtain ⟨cs', h1, _⟩ := hcell 0 (by omega)
        obtain ⟨_, hlen, hcc⟩ := World.cells?_some h1
        have hc0 := hcc 0 (by omega)
        rw [List.getElem?_eq_getElem (by omega)] at hc0
        have hc1 : W.cell? ((⟨b, off, spot⟩ : Addr).add 0) = some (cs'[0]'(by omega)) := by simpa [Addr.add] using hc0
        simpa [Addr.add] using World.cell?_spot hc1
      subst hspot
      have key : ∀ j, j < 16 * len → ∃ z : Int, (0 ≤ z ∧ z ≤ 255) ∧ W.cell? ⟨b, off + j, none⟩ = some (.int .u8 z) := by
        intro j hj
        obtain ⟨cs', h1, h2⟩ := hcell (j / 16) (by omega)
        obtain ⟨_, hlen, hcc⟩ := World.cells?_some h1
        have hcj := hcc (j % 16) (by omega)
        rw [Go.WideShapes.add_plain, Go.WideShapes.add_plain, show off + j / 16 * 16 + j % 16 = off + j by omega] at hcj
        obtain ⟨v, y, _, hv, hty⟩ := fro_elem Try.underlying24 c1 c16 h2 (j % 16) (by omega)
        obtain ⟨z, hz, rfl⟩ := trodf_u8 hty
        exact ⟨z, hz, by rw [hcj, hv]⟩
      have hb : b < W.heap.size := by
        obtain ⟨z, _, hc0⟩ := key 0 (by omega)
        unfold World.cell? at hc0
        split at hc0
        · rename_i hb; exact (Array.getElem?_eq_some_iff.1 hb).1
        · cases hc0
      refine ⟨fun j => if hj : j < 16 * len then Classical.choose (key j hj) else 0, fun j hj => ?_, .inr ⟨b, off, rfl, hb, fun j hj => ?_⟩, by omega⟩
      · simp only [dif_pos hj]
        exact (Classical.choose_spec (key j hj)).1
      · simp only [dif_pos hj]
        exact (Classical.choose_spec (key j hj)).2
end
/-- the frame number k of cells f -/
def frK (f : Nat → Int) (k : Nat) : Nat → Int := fun y => f (k * 16 + y)
def fbl (f : Nat → Int) (k : Nat) : Array Value := Q16 (frK f k)
theorem fbl_get (f : Nat → Int) (k r : Nat) (hr : r < 16) : (fbl f k)[r]? = some (.int .u8 (f (k * 16 + r))) := arr_get .u8 16 _ r hr
theorem fbl_size (f : Nat → Int) (k : Nat) : (fbl f k).size = 16 := arr_size _ _ _
/-- n blocks, k of them copied -/
def rowFr (f : Nat → Int) (k n : Nat) : Array Value := ((List.range (16 * n)).map fun i => if i < 16 * k then Value.int .u8 (f i) else Value.int .u8 0).toArray
theorem rowFr_size (f : Nat → Int) (k n : Nat) : (rowFr f k n).size = 16 * n := by simp [rowFr]
theorem rowFr_get (f : Nat → Int) (k n i : Nat) (h : i < 16 * n) : (rowFr f k n)[i]? = some (if i < 16 * k then Value.int .u8 (f i) else Value.int .u8 0) := by simp [rowFr, h]
theorem rowFr_set (f : Nat → Int) (k n : Nat) (h : k < n) : (splice (rowFr f k n).toList (k * 16) (fbl f k).toList).toArray = rowFr f (k + 1) n := by
  apply Array.ext_getElem?
  intro i
  have hl : (rowFr f k n).toList.length = 16 * n := by simp [rowFr_size]
  have hb : (fbl f k).toList.length = 16 := by simp [fbl_size]
  rw [List.getElem?_toArray]
  unfold splice
  by_cases hi : i < 16 * n
  · rw [rowFr_get f (k + 1) n i hi]
    by_cases h1 : i < k * 16
    · rw [List.getElem?_append_left (by simp [rowFr_size]; omega), List.getElem?_take_of_lt h1, Array.getElem?_toList, rowFr_get f k n i hi, if_pos (by omega), if_pos (by omega)]
    · rw [List.getElem?_append_right (by simp [rowFr_size]; omega), List.length_take, hl, Nat.min_eq_left (by omega)]
      by_cases h2 : i < k * 16 + 16
      · rw [List.getElem?_append_left (by rw [hb]; omega), Array.getElem?_toList, fbl_get f k _ (by omega), if_pos (by omega), show k * 16 + (i - k * 16) = i by omega]
      · rw [List.getElem?_append_right (by rw [hb]; omega), hb, List.getElem?_drop, Array.getElem?_toList, show k * 16 + 16 + (i - k * 16 - 16) = i by omega, rowFr_get f k n i hi, if_neg (by omega), if_neg (by omega)]
  · have e1 : (rowFr f (k + 1) n)[i]? = none := Array.getElem?_eq_none (by rw [rowFr_size]; omega)
    rw [e1]
    apply List.getElem?_eq_none
    simp [rowFr_size, fbl_size]
    omega
theorem madeF16 (f : Nat → Int) (n : Nat) : madeCells #[Value.int .u8 0, Value.int .u8 0, Value.int .u8 0, Value.int .u8 0, Value.int .u8 0, Value.int .u8 0, Value.int .u8 0, Value.int .u8 0, Value.int .u8 0, Value.int .u8 0, Value.int .u8 0, Value.int .u8 0, Value.int .u8 0, Value.int .u8 0, Value.int .u8 0, Value.int .u8 0] (n * 16) = rowFr f 0 n := by
  have key : ∀ (Z : Array Value), Z.size = 16 → (∀ r, r < 16 → Z.getD r undef = Value.int .u8 0) → madeCells Z (n * 16) = rowFr f 0 n := by
    intro Z hs hz
    apply Array.ext_getElem?
    intro i
    by_cases hi : i < 16 * n
    · rw [rowFr_get _ _ _ _ hi, if_neg (by omega)]
      have h2 : i < n * 16 := by omega
      have e := hz (i % 16) (Nat.mod_lt _ (by omega))
      have e2 : Z[i % 16]! = Z.getD (i % 16) undef := by
        have hm : i % 16 < Z.size := by rw [hs]; exact Nat.mod_lt _ (by omega)
        simp [getElem!_pos, hm]
      rw [← e, ← e2]
      simp [madeCells, h2, hs]
    · rw [Array.getElem?_eq_none (by simp [madeCells]; omega), Array.getElem?_eq_none (by rw [rowFr_size]; omega)]
  refine key _ rfl fun r hr => ?_
  have : r = 0 ∨ r = 1 ∨ r = 2 ∨ r = 3 ∨ r = 4 ∨ r = 5 ∨ r = 6 ∨ r = 7 ∨ r = 8 ∨ r = 9 ∨ r = 10 ∨ r = 11 ∨ r = 12 ∨ r = 13 ∨ r = 14 ∨ r = 15 := by omega
  rcases this with rfl | rfl | rfl | rfl | rfl | rfl | rfl | rfl | rfl | rfl | rfl | rfl | rfl | rfl | rfl | rfl <;> rfl
theorem info_fr : (Try.prog.info? 93).map (fun i => (i.zero, i.size, i.bytes)) = some (some (.agg #[Value.int .u8 0, Value.int .u8 0, Value.int .u8 0, Value.int .u8 0, Value.int .u8 0, Value.int .u8 0, Value.int .u8 0, Value.int .u8 0, Value.int .u8 0, Value.int .u8 0, Value.int .u8 0, Value.int .u8 0, Value.int .u8 0, Value.int .u8 0, Value.int .u8 0, Value.int .u8 0]), 16, 16) := by kernel_rfl
theorem make_fr (f : Nat → Int) (n : Nat) (h : n ≤ 1048576) (w : World) : (Instr.makeSlice 48 (.int .i64 (n : Int)) (.int .i64 (n : Int))).run Try.prog w = .ok (.slice (some ⟨w.heap.size, 0, none⟩) n n) (w.alloc (.cells (rowFr f 0 n) 93)) := by
  obtain ⟨i, hi, hz, hs, hb⟩ := info_parts info_fr
  have hr := run_make (P := Try.prog) w 48 93 i _ Try.underlying48 hi hz .i64 .i64 n n (by omega) (Int.le_refl _) (by rw [hb]; omega) (by omega)
  simp only [Int.toNat_natCast, hs] at hr
  rw [← madeF16 f]
  exact hr
set_option maxHeartbeats 4000000 in
set_option maxRecDepth 20000 in
theorem toFS_any (a : Option Addr) (cap n : Nat) (f : Nat → Int) (B : Nat) (w : World) (hB : B ≤ w.heap.size) (h : FrR B w a n f) (hl : n ≤ 1048576) :
    Calls Try.prog 26 #[.slice a n cap] w fun e w' => e = .returned (.slice (some ⟨w.heap.size, 0, none⟩) n n) ∧ FrR (w.heap.size + 1) w' (some ⟨w.heap.size, 0, none⟩) n f ∧ Below w.heap.size w w' ∧ w.heap.size < w'.heap.size ∧ w'.heap[w.heap.size]? = some (.cells (rowFr f n n) 93 (0, 0)) := by
  have hmk := fun w => make_fr f n hl w
  have hl' : (n : Int) ≤ 1048576 := by omega
  have H0 : Hid ((w.alloc (.cells (rowFr f 0 n) 93)).heap[w.heap.size]? = some (.cells (rowFr f 0 n) 93 (0, 0))) := Lib.hid (World.alloc_heap_new w _)
  have B0 : Hid (Below w.heap.size w (w.alloc (.cells (rowFr f 0 n) 93))) := Lib.hid ((Below.refl _ w).alloc (Nat.le_refl _) _)
  have HP := Lib.hid h
  clear h
  go_enter Try.func26, Try.ntmps26
  go_wp2
  generalize w.alloc (.cells (rowFr f 0 n) 93) = w1 at H0 B0 ⊢
  go_loopw [4] (fun i wr => ∃ k : Nat, k ≤ n ∧ i = .int .i64 k ∧ wr.heap[w.heap.size]? = some (.cells (rowFr f k n) 93 (0, 0)) ∧ Below w.heap.size w wr) (fun i _ => n - (intOf i).toNat)
  case atStart => exact ⟨0, Nat.zero_le _, rfl, H0.out, B0.out⟩
  case round =>
    obtain ⟨k, hk, rfl, h0, hB'⟩ := hrel
    have L0 := Lib.hid h0
    have LB := Lib.hid hB'
    clear h0 hB' H0 B0
    by_cases hlt : k < n
    · obtain ⟨g, off, rfl, hg, hc⟩ : ∃ g off, a = some ⟨g, off, none⟩ ∧ g < B ∧ ∀ j, j < 16 * n → w.cell? ⟨g, off + j, none⟩ = some (.int .u8 (f j)) := by
        rcases HP.out with h | h
        · omega
        · exact h
      have tk : (k : Int) < (n : Int) := by omega
      have GC : Hid (∀ j v, (fbl f k)[j]? = some v → wr.cell? ⟨g, off + k * 16 + j, none⟩ = some v) := Lib.hid fun j v e => by
        have hj : j < 16 := by
          rcases Nat.lt_or_ge j 16 with h | h
          · exact h
          · rw [Array.getElem?_eq_none (by rw [fbl_size]; exact h)] at e; cases e
        rw [LB.out.cell (p := ⟨g, off + k * 16 + j, none⟩) (by show g < _; omega), Nat.add_assoc, hc (k * 16 + j) (by omega), ← fbl_get f k j hj]
        exact e
      have HK := Lib.hid hlt
      have SET := Lib.hid (rowFr_set f k n hlt)
      have LZ : Hid (w.heap.size < wr.heap.size) := Lib.hid (Array.getElem?_eq_some_iff.1 L0.out).1
      have RB := Lib.hid (rowFr_size f k n)
      have TB : Hid (∀ w, Calls Try.prog 63 #[.agg (fbl f k)] w fun e w' => e = .returned (.agg (fbl f k)) ∧ Below w.heap.size w w') := Lib.hid (toFrame_any _)
      have B18 := Lib.hid (fbl_size f k)
      have BON : Hid ((fbl f k).all (·.oneCell') = true) := Lib.hid (arr_cells _ _ _)
      clear hc hlt hk hg
      generalize fbl f k = A at GC SET TB B18 BON
      go_wp2_with (refine wpList_load_part rfl 24 _ rfl g (off + k * 16) rfl A _ GC.out Try.underlying24 rfl (f16_info _ B18.out) ?_)
      refine (TB.out _).mono ?_
      rintro e w2 ⟨rfl, b2⟩
      have M0 := Lib.hid ((b2.block _ LZ.out).trans L0.out)
      have MB2 := Lib.hid (LB.out.trans (b2.mono (Nat.le_of_lt LZ.out)))
      have I0 : Hid ((w2.setRow w.heap.size (rowFr f (k + 1) n)).heap[w.heap.size]? = some (.cells (rowFr f (k + 1) n) 93 (0, 0))) := Lib.hid (setRow_heap _ _ _ _ _ _ M0.out)
      have IB' : Hid (Below w.heap.size w (w2.setRow w.heap.size (rowFr f (k + 1) n))) := Lib.hid (below_setRow MB2.out (Nat.le_refl _) _)
      clear b2 GC L0 LB
      go_wp2_with (refine wpList_store_part rfl 93 _ _ rfl w.heap.size (k * 16) A rfl rfl 93 _ M0.out (fr_info _ B18.out) (by rw [RB.out, B18.out]; have := HK.out; omega) BON.out ?_; rw [SET.out])
      go_roundw
      case rel => exact ⟨k + 1, HK.out, by go_num, I0.out, IB'.out⟩
      case measure => have := HK.out; simp [intOf]; omega
    · obtain rfl : k = n := by omega
      have hD : FrR (w.heap.size + 1) wr (some ⟨w.heap.size, 0, none⟩) k f := .inr ⟨_, 0, rfl, Nat.lt_succ_self _, fun j hj => by
        rw [Nat.zero_add, Lib.cell_of_heap L0.out j, rowFr_get _ _ _ _ hj, if_pos hj]⟩
      have LZ : Hid (w.heap.size < wr.heap.size) := Lib.hid (Array.getElem?_eq_some_iff.1 L0.out).1
      have HDD := Lib.hid hD
      clear hD
      go_wp2
      go_ret
      exact ⟨rfl, HDD.out, LB.out, LZ.out, L0.out⟩
end Go.Proofs.Ytkijgadkgfapgaa
