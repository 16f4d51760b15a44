/-
  A SLICE OF BLOCKS THAT CAME IN, OPENED.
-/
import Derived.Test.YthfmkejdpflpcaaGpc
import Derived.Test.YthfmkejdpflpcaaPar
import Derived.Deep.Slices
import Derived.OpenShut
import Derived.ChangeOld
import Derived.Carry
namespace Go.Proofs.Ythfmkejdpflpcaa
open Go.ChangeShapes Go.WideShapes Go.ChangeAt Go.RowKit Go.Deep
/-- a cell of a block, or of blocks in a row -/
def bcell (f : Nat → Int) (j : Nat) : Value := if j % 18 < 2 then .int .i32 (f j) else .int .u16 (f j)
/-- a slice of blocks below B -/
def BlR (B : Nat) (w : World) (a : Option Addr) (n : Nat) (f : Nat → Int) : Prop := n = 0 ∨ ∃ g off, a = some ⟨g, off, none⟩ ∧ g < B ∧ ∀ j, j < 18 * n → w.cell? ⟨g, off + j, none⟩ = some (bcell f j)
def BlF (n : Nat) (f : Nat → Int) : Prop := ∀ j, j < 18 * n → if j % 18 < 2 then -2147483648 ≤ f j ∧ f j ≤ 2147483647 else 0 ≤ f j ∧ f j ≤ 65535
theorem BlR.below {B B' : Nat} {w w' : World} {a : Option Addr} {n : Nat} {f : Nat → Int} (h : BlR B w a n f) (hb : Below B w w') (hB : B ≤ B') : BlR B' w' a n f := by
  rcases h with h | ⟨g, off, ha, hg, hc⟩
  · exact .inl h
  · exact .inr ⟨g, off, ha, by omega, fun j hj => (hb.cell (p := ⟨g, off + j, none⟩) hg).trans (hc j hj)⟩
section
variable {H : Type} {enc : TypeId × Value → H} {W : World} {base : Nat} {spare : Nat → Bool} {held : Bool}
theorem trodb_i32 {n : Nat} {v : Value} {y : DataW H × List MemPlace}
    (ht : DataW.trod enc Try.prog W base spare held n 21 [v] = some y) : ∃ c : Int, (-2147483648 ≤ c ∧ c ≤ 2147483647) ∧ v = .int .i32 c := by
  cases n with
  | zero => simp [DataW.trod] at ht
  | succ n =>
    obtain ⟨c, e1, _, hw⟩ := DataW.trod_int Try.underlying21 ht
    obtain rfl := (List.cons.inj e1).1
    refine ⟨c, ?_, rfl⟩
    simp [Lit.wf, IntKind.min, IntKind.max, IntKind.bits, IntKind.signed] at hw
    omega
theorem trodb_u16 {n : Nat} {v : Value} {y : DataW H × List MemPlace}
    (ht : DataW.trod enc Try.prog W base spare held n 69 [v] = some y) : ∃ c : Int, (0 ≤ c ∧ c ≤ 65535) ∧ v = .int .u16 c := by
  cases n with
  | zero => simp [DataW.trod] at ht
  | succ n =>
    obtain ⟨c, e1, _, hw⟩ := DataW.trod_int Try.underlying69 ht
    obtain rfl := (List.cons.inj e1).1
    refine ⟨c, ?_, rfl⟩
    simp [Lit.wf, IntKind.min, IntKind.max, IntKind.bits, IntKind.signed] at hw
    omega
theorem arr_elem {P : Program} {t e : TypeId} {n fuel : Nat} {cs : List Value} {x : DataW H × List MemPlace} (ht : P.underlying t = some (.array n e)) (hc : P.cellsOf e = 1) (hn : P.cellsOf t = n)
    (h : DataW.trod enc P W base spare held fuel t cs = some x) (r : Nat) (hr : r < n) : ∃ v y m, cs[r]? = some v ∧ DataW.trod enc P W base spare held m e [v] = some y := by
  obtain ⟨xs, m, rfl, -, hlen, hxl, hel⟩ := DataW.trod_array ht h
  have e1 := hel r hr
  rw [hc, Nat.mul_one, List.getElem?_eq_getElem (by omega), List.drop_eq_getElem_cons (by omega), List.take_succ_cons, List.take_zero] at e1
  exact ⟨_, _, m, List.getElem?_eq_getElem (by omega), e1⟩
theorem blrow_of {a : Option Addr} {len cap : Nat} {d : DataW H} {ps : List MemPlace}
    (h : DataW.Trod enc Try.prog W base spare held 32 (.slice a len cap) d ps) : ∃ f, BlF len f ∧ BlR W.heap.size W a len f ∧ len ≤ maxLen := by
  obtain ⟨fuel, hf⟩ := h
  have c18 : Try.prog.cellsOf 79 = 18 := by kernel_rfl
  have c2 : Try.prog.cellsOf 45 = 2 := by kernel_rfl
  have c16 : Try.prog.cellsOf 70 = 16 := by kernel_rfl
  have c1 : Try.prog.cellsOf 21 = 1 := by kernel_rfl
  have c1' : Try.prog.cellsOf 69 = 1 := by kernel_rfl
  rcases open_slice Try.underlying32 hf with ⟨hcs, _⟩ | ⟨x, l, c, m, n, D, Pl, hcs, _, hl, hcm, hm, _, hcell⟩
  · simp [Value.cells] at hcs
    obtain ⟨rfl, rfl, rfl⟩ := hcs
    exact ⟨fun _ => 0, fun j hj => by omega, .inl rfl, Nat.zero_le _⟩
  · simp [Value.cells] at hcs
    obtain ⟨rfl, rfl, rfl⟩ := hcs
    rw [c18] at hcell
    have hlm : len ≤ m := by rw [hm]; split <;> omega
    by_cases h0 : len = 0
    · exact ⟨fun _ => 0, fun j hj => by omega, .inl h0, by omega⟩
    · obtain ⟨b, off, spot⟩ := x
      have hspot : spot = none := by
        obtain ⟨cs', h1, _⟩ := hcell 0 (by omega)
        obtain ⟨_, hlen, hcc⟩ := World.cells?_some h1
        have hc0 := hcc 0 (by omega)
        rw [List.getElem?_eq_getElem (by omega)] at hc0
        have hc1 : W.cell? ((⟨b, off, spot⟩ : Addr).add 0) = some (cs'[0]'(by omega)) := by simpa [Addr.add] using hc0
        simpa [Addr.add] using World.cell?_spot hc1
      subst hspot
      have key : ∀ j, j < 18 * len → ∃ z : Int, (if j % 18 < 2 then -2147483648 ≤ z ∧ z ≤ 2147483647 else 0 ≤ z ∧ z ≤ 65535) ∧ W.cell? ⟨b, off + j, none⟩ = some (if j % 18 < 2 then .int .i32 z else .int .u16 z) := by
        intro j hj
        obtain ⟨cs', h1, h2⟩ := hcell (j / 18) (by omega)
        obtain ⟨_, hlen, hcc⟩ := World.cells?_some h1
        have hcj := hcc (j % 18) (by omega)
        rw [Go.WideShapes.add_plain, Go.WideShapes.add_plain, show off + j / 18 * 18 + j % 18 = off + j by omega] at hcj
        obtain ⟨xs, mm, rfl, -, _, hxl, hel⟩ := DataW.trod_struct Try.underlying79 h2
        have e0 := hel 0 _ rfl
        have e1 := hel 1 _ rfl
        have hx2 : xs.length = 2 := hxl
        rw [List.getElem?_eq_getElem (by omega)] at e0 e1
        have e0' : DataW.trod enc Try.prog W base spare held mm 45 ((cs'.drop 0).take (Try.prog.cellsOf 45)) = some (xs[0]'(by omega)) := e0
        have e1' : DataW.trod enc Try.prog W base spare held mm 70 ((cs'.drop 2).take (Try.prog.cellsOf 70)) = some (xs[1]'(by omega)) := e1
        rw [c2] at e0'
        rw [c16] at e1'
        by_cases hr : j % 18 < 2
        · obtain ⟨v, y, _, hv, hty⟩ := arr_elem Try.underlying45 c1 c2 e0' (j % 18) hr
          obtain ⟨z, hz, rfl⟩ := trodb_i32 hty
          rw [List.drop_zero, List.getElem?_take_of_lt hr] at hv
          exact ⟨z, by rw [if_pos hr]; exact hz, by rw [if_pos hr, hcj, hv]⟩
        · obtain ⟨v, y, _, hv, hty⟩ := arr_elem Try.underlying70 c1' c16 e1' (j % 18 - 2) (by omega)
          obtain ⟨z, hz, rfl⟩ := trodb_u16 hty
          rw [List.getElem?_take_of_lt (by omega), List.getElem?_drop, show 2 + (j % 18 - 2) = j % 18 by omega] at hv
          exact ⟨z, by rw [if_neg hr]; exact hz, by rw [if_neg hr, hcj, hv]⟩
      have hb : b < W.heap.size := by
        obtain ⟨z, _, hc0⟩ := key 0 (by omega)
        unfold World.cell? at hc0
        split at hc0
        · rename_i hb; exact (Array.getElem?_eq_some_iff.1 hb).1
        · cases hc0
      refine ⟨fun j => if hj : j < 18 * len then Classical.choose (key j hj) else 0, fun j hj => ?_, .inr ⟨b, off, rfl, hb, fun j hj => ?_⟩, by omega⟩
      · simp only [dif_pos hj]
        exact (Classical.choose_spec (key j hj)).1
      · unfold bcell
        simp only [dif_pos hj]
        exact (Classical.choose_spec (key j hj)).2
end
end Go.Proofs.Ythfmkejdpflpcaa
