/-
  A SLICE OF FRAMES THAT CAME IN, OPENED; the law's copy of it.
-/
import Derived.Test.YtkijgadkgfapgaaDoorFt
import Derived.Test.YtkijgadkgfapgaaDoorPar
import Derived.Deep.Slices
import Derived.OpenShut
import Derived.ChangeOld
import Derived.Carry
namespace Go.Proofs.YtkijgadkgfapgaaDoor
open Go.ChangeShapes Go.WideShapes Go.ChangeAt Go.RowKit Go.Deep
/-- a slice of frames below B -/
def FrR (B : Nat) (w : World) (a : Option Addr) (n : Nat) (f : Nat → Int) : Prop := n = 0 ∨ ∃ g off, a = some ⟨g, off, none⟩ ∧ g < B ∧ ∀ j, j < 16 * n → w.cell? ⟨g, off + j, none⟩ = some (.int .u8 (f j))
theorem FrR.below {B B' : Nat} {w w' : World} {a : Option Addr} {n : Nat} {f : Nat → Int} (h : FrR B w a n f) (hb : Below B w w') (hB : B ≤ B') : FrR B' w' a n f := by
  rcases h with h | ⟨g, off, ha, hg, hc⟩
  · exact .inl h
  · exact .inr ⟨g, off, ha, by omega, fun j hj => (hb.cell (p := ⟨g, off + j, none⟩) hg).trans (hc j hj)⟩
theorem FrR.mono' {B B' : Nat} {w : World} {a : Option Addr} {n : Nat} {f : Nat → Int} (h : FrR B w a n f) (hB : B ≤ B') : FrR B' w a n f := by
  rcases h with h | ⟨g, off, ha, hg, hc⟩
  · exact .inl h
  · exact .inr ⟨g, off, ha, by omega, hc⟩
section
variable {H : Type} {enc : TypeId × Value → H} {W : World} {base : Nat} {spare : Nat → Bool} {held : Bool}
theorem trodf_u8 {n : Nat} {v : Value} {y : DataW H × List MemPlace}
    (ht : DataW.trod enc Tryd.prog W base spare held n 5 [v] = some y) : ∃ c : Int, (0 ≤ c ∧ c ≤ 255) ∧ v = .int .u8 c := by
  cases n with
  | zero => simp [DataW.trod] at ht
  | succ n =>
    obtain ⟨c, e1, _, hw⟩ := DataW.trod_int Tryd.underlying5 ht
    obtain rfl := (List.cons.inj e1).1
    refine ⟨c, ?_, rfl⟩
    simp [Lit.wf, IntKind.min, IntKind.max, IntKind.bits, IntKind.signed] at hw
    omega
theorem fro_elem {P : Program} {t e : TypeId} {n fuel : Nat} {cs : List Value} {x : DataW H × List MemPlace} (ht : P.underlying t = some (.array n e)) (hc : P.cellsOf e = 1) (hn : P.cellsOf t = n)
    (h : DataW.trod enc P W base spare held fuel t cs = some x) (r : Nat) (hr : r < n) : ∃ v y m, cs[r]? = some v ∧ DataW.trod enc P W base spare held m e [v] = some y := by
  obtain ⟨xs, m, rfl, -, hlen, hxl, hel⟩ := DataW.trod_array ht h
  have e1 := hel r hr
  rw [hc, Nat.mul_one, List.getElem?_eq_getElem (by omega), List.drop_eq_getElem_cons (by omega), List.take_succ_cons, List.take_zero] at e1
  exact ⟨_, _, m, List.getElem?_eq_getElem (by omega), e1⟩
end
/-- the frame number k of cells f -/
def frK (f : Nat → Int) (k : Nat) : Nat → Int := fun y => f (k * 16 + y)
def fbl (f : Nat → Int) (k : Nat) : Array Value := Q16 (frK f k)
theorem fbl_get (f : Nat → Int) (k r : Nat) (hr : r < 16) : (fbl f k)[r]? = some (.int .u8 (f (k * 16 + r))) := arr_get .u8 16 _ r hr
theorem fbl_size (f : Nat → Int) (k : Nat) : (fbl f k).size = 16 := arr_size _ _ _
/-- n blocks, k of them copied -/
def rowFr (f : Nat → Int) (k n : Nat) : Array Value := ((List.range (16 * n)).map fun i => if i < 16 * k then Value.int .u8 (f i) else Value.int .u8 0).toArray
theorem rowFr_size (f : Nat → Int) (k n : Nat) : (rowFr f k n).size = 16 * n := by simp [rowFr]
theorem rowFr_get (f : Nat → Int) (k n i : Nat) (h : i < 16 * n) : (rowFr f k n)[i]? = some (if i < 16 * k then Value.int .u8 (f i) else Value.int .u8 0) := by simp [rowFr, h]
theorem rowFr_set (f : Nat → Int) (k n : Nat) (h : k < n) : (splice (rowFr f k n).toList (k * 16) (fbl f k).toList).toArray = rowFr f (k + 1) n := by
  apply Array.ext_getElem?
  intro i
  have hl : (rowFr f k n).toList.length = 16 * n := by simp [rowFr_size]
  have hb : (fbl f k).toList.length = 16 := by simp [fbl_size]
  rw [List.getElem?_toArray]
  unfold splice
  by_cases hi : i < 16 * n
  · rw [rowFr_get f (k + 1) n i hi]
    by_cases h1 : i < k * 16
    · rw [List.getElem?_append_left (by simp [rowFr_size]; omega), List.getElem?_take_of_lt h1, Array.getElem?_toList, rowFr_get f k n i hi, if_pos (by omega), if_pos (by omega)]
    · rw [List.getElem?_append_right (by simp [rowFr_size]; omega), List.length_take, hl, Nat.min_eq_left (by omega)]
      by_cases h2 : i < k * 16 + 16
      · rw [List.getElem?_append_left (by rw [hb]; omega), Array.getElem?_toList, fbl_get f k _ (by omega), if_pos (by omega), show k * 16 + (i - k * 16) = i by omega]
      · rw [List.getElem?_append_right (by rw [hb]; omega), hb, List.getElem?_drop, Array.getElem?_toList, show k * 16 + 16 + (i - k * 16 - 16) = i by omega, rowFr_get f k n i hi, if_neg (by omega), if_neg (by omega)]
  · have e1 : (rowFr f (k + 1) n)[i]? = none := Array.getElem?_eq_none (by rw [rowFr_size]; omega)
    rw [e1]
    apply List.getElem?_eq_none
    simp [rowFr_size, fbl_size]
    omega
theorem madeF16 (f : Nat → Int) (n : Nat) : madeCells #[Value.int .u8 0, Value.int .u8 0, Value.int .u8 0, Value.int .u8 0, Value.int .u8 0, Value.int .u8 0, Value.int .u8 0, Value.int .u8 0, Value.int .u8 0, Value.int .u8 0, Value.int .u8 0, Value.int .u8 0, Value.int .u8 0, Value.int .u8 0, Value.int .u8 0, Value.int .u8 0] (n * 16) = rowFr f 0 n := by
  have key : ∀ (Z : Array Value), Z.size = 16 → (∀ r, r < 16 → Z.getD r undef = Value.int .u8 0) → madeCells Z (n * 16) = rowFr f 0 n := by
    intro Z hs hz
    apply Array.ext_getElem?
    intro i
    by_cases hi : i < 16 * n
    · rw [rowFr_get _ _ _ _ hi, if_neg (by omega)]
      have h2 : i < n * 16 := by omega
      have e := hz (i % 16) (Nat.mod_lt _ (by omega))
      have e2 : Z[i % 16]! = Z.getD (i % 16) undef := by
        have hm : i % 16 < Z.size := by rw [hs]; exact Nat.mod_lt _ (by omega)
        simp [getElem!_pos, hm]
      rw [← e, ← e2]
      simp [madeCells, h2, hs]
    · rw [Array.getElem?_eq_none (by simp [madeCells]; omega), Array.getElem?_eq_none (by rw [rowFr_size]; omega)]
  refine key _ rfl fun r hr => ?_
  have : r = 0 ∨ r = 1 ∨ r = 2 ∨ r = 3 ∨ r = 4 ∨ r = 5 ∨ r = 6 ∨ r = 7 ∨ r = 8 ∨ r = 9 ∨ r = 10 ∨ r = 11 ∨ r = 12 ∨ r = 13 ∨ r = 14 ∨ r = 15 := by omega
  rcases this with rfl | rfl | rfl | rfl | rfl | rfl | rfl | rfl | rfl | rfl | rfl | rfl | rfl | rfl | rfl | rfl <;> rfl
theorem info_fr : (Tryd.prog.info? 47).map (fun i => (i.zero, i.size, i.bytes)) = some (some (.agg #[Value.int .u8 0, Value.int .u8 0, Value.int .u8 0, Value.int .u8 0, Value.int .u8 0, Value.int .u8 0, Value.int .u8 0, Value.int .u8 0, Value.int .u8 0, Value.int .u8 0, Value.int .u8 0, Value.int .u8 0, Value.int .u8 0, Value.int .u8 0, Value.int .u8 0, Value.int .u8 0]), 16, 16) := by kernel_rfl
theorem make_fr (f : Nat → Int) (n : Nat) (h : n ≤ 1048576) (w : World) : (Instr.makeSlice 35 (.int .i64 (n : Int)) (.int .i64 (n : Int))).run Tryd.prog w = .ok (.slice (some ⟨w.heap.size, 0, none⟩) n n) (w.alloc (.cells (rowFr f 0 n) 47)) := by
  obtain ⟨i, hi, hz, hs, hb⟩ := info_parts info_fr
  have hr := run_make (P := Tryd.prog) w 35 47 i _ Tryd.underlying35 hi hz .i64 .i64 n n (by omega) (Int.le_refl _) (by rw [hb]; omega) (by omega)
  simp only [Int.toNat_natCast, hs] at hr
  rw [← madeF16 f]
  exact hr
end Go.Proofs.YtkijgadkgfapgaaDoor
