/-
  SLICES OF BYTES, as the laws look at them: one that came in, opened; copied, compared, marked, held.
-/
import Derived.Test.YtligafgbknlofaaDoorGc
import Derived.Test.YtligafgbknlofaaDoorFw
namespace Go.Proofs.YtligafgbknlofaaDoor
open Go.ChangeShapes Go.WideShapes Go.ChangeAt Go.RowKit Go.Deep
/-- a slice of bytes below B -/
def YrR (B : Nat) (w : World) (a : Option Addr) (n : Nat) (f : Nat → Int) : Prop := n = 0 ∨ ∃ g off, a = some ⟨g, off, none⟩ ∧ g < B ∧ ∀ j, j < n → w.cell? ⟨g, off + j, none⟩ = some (.int .u8 (f j))
theorem YrR.below {B B' : Nat} {w w' : World} {a : Option Addr} {n : Nat} {f : Nat → Int} (h : YrR B w a n f) (hb : Below B w w') (hB : B ≤ B') : YrR B' w' a n f := by
  rcases h with h | ⟨g, off, ha, hg, hc⟩
  · exact .inl h
  · exact .inr ⟨g, off, ha, by omega, fun j hj => (hb.cell (p := ⟨g, off + j, none⟩) hg).trans (hc j hj)⟩
theorem YrR.mono' {B B' : Nat} {w : World} {a : Option Addr} {n : Nat} {f : Nat → Int} (h : YrR B w a n f) (hB : B ≤ B') : YrR B' w a n f := by
  rcases h with h | ⟨g, off, ha, hg, hc⟩
  · exact .inl h
  · exact .inr ⟨g, off, ha, by omega, hc⟩
theorem YrR.congr {B n : Nat} {w : World} {a : Option Addr} {f g : Nat → Int} (h : YrR B w a n f) (e : ∀ j, j < n → f j = g j) : YrR B w a n g := by
  rcases h with h | ⟨b, off, ha, hg, hc⟩
  · exact .inl h
  · exact .inr ⟨b, off, ha, hg, fun j hj => by rw [← e j hj]; exact hc j hj⟩
theorem YrR.onl {lo hi B n : Nat} {w w' : World} {a : Option Addr} {f : Nat → Int} (h : OnlIn lo hi w w') (hd : B ≤ lo) (hp : YrR B w a n f) : YrR B w' a n f := hp.below (h.below hd) (Nat.le_refl _)
theorem PR.yr {lo hi : Nat} {w : World} {v : Value} {n : Nat} {f : Nat → Int} (h : PR 1 lo hi w v n (FF f)) : ∃ a cap, v = .slice a n cap ∧ YrR w.heap.size w a n f := by
  obtain ⟨a, cap, rfl, h0 | ⟨g, rfl, h1, h2, h3, h4, h5⟩⟩ := h
  · exact ⟨a, cap, rfl, .inl h0⟩
  · exact ⟨_, cap, rfl, .inr ⟨g, 0, rfl, by omega, fun j hj => by rw [Nat.zero_add]; exact h4 j (by omega)⟩⟩
theorem yrow_of {H : Type} {enc : TypeId × Value → H} {W : World} {a : Option Addr} {len cap : Nat} {d : DataW H} {ps : List MemPlace} {spare : Nat → Bool} {base : Nat} {held : Bool}
    (h : DataW.Trod enc Tryd.prog W base spare held 37 (.slice a len cap) d ps) : ∃ f, ByF len f ∧ YrR W.heap.size W a len f ∧ len ≤ maxLen := by
  obtain ⟨fuel, hf⟩ := h
  rcases open_slice1 Tryd.underlying37 (by kernel_rfl) hf with ⟨hcs, _⟩ | ⟨x, l, c, m, n, V, D, Pl, hcs, _, hl, hcm, hm, _, hcell⟩
  · simp [Value.cells] at hcs
    obtain ⟨rfl, rfl, rfl⟩ := hcs
    exact ⟨fun _ => 0, fun j hj => by omega, .inl rfl, Nat.zero_le _⟩
  · simp [Value.cells] at hcs
    obtain ⟨rfl, rfl, rfl⟩ := hcs
    have hlm : len ≤ m := by rw [hm]; split <;> omega
    by_cases h0 : len = 0
    · exact ⟨fun _ => 0, fun j hj => by omega, .inl h0, by omega⟩
    · have hc0 := (hcell 0 (by omega)).1
      obtain ⟨b, off, spot⟩ := x
      have hspot : spot = none := by simpa [Addr.add] using World.cell?_spot hc0
      subst hspot
      have key : ∀ i, i < len → ∃ c : Int, (0 ≤ c ∧ c ≤ 255) ∧ W.cell? ⟨b, off + i, none⟩ = some (.int .u8 c) := fun i hi => by
        obtain ⟨c, c0, e⟩ := trodf_u8 (hcell i (by omega)).2
        refine ⟨c, c0, ?_⟩
        rw [← e, ← Go.WideShapes.add_plain]
        exact (hcell i (by omega)).1
      have hb : b < W.heap.size := by
        obtain ⟨z, _, hc1⟩ := key 0 (by omega)
        unfold World.cell? at hc1
        split at hc1
        · rename_i hb; exact (Array.getElem?_eq_some_iff.1 hb).1
        · cases hc1
      refine ⟨fun j => if hj : j < len then Classical.choose (key j hj) else 0, fun j hj => ?_, .inr ⟨b, off, rfl, hb, fun j hj => ?_⟩, by omega⟩
      · simp only [dif_pos hj]
        exact (Classical.choose_spec (key j hj)).1
      · simp only [dif_pos hj]
        exact (Classical.choose_spec (key j hj)).2
theorem madeU (n : Nat) : madeCells #[.int .u8 0] n = arr .u8 n zI := by
  apply Array.ext_getElem?
  intro i
  by_cases hi : i < n
  · rw [arr_get _ _ _ _ hi]
    simp [madeCells, hi, Nat.mod_one, zI]
  · rw [Array.getElem?_eq_none (by simp [madeCells]; omega), arr_none _ _ _ _ (by omega)]
theorem make_u8' (n : Nat) (h : n ≤ 1048576) (w : World) : (Instr.makeSlice 37 (.int .i64 (n : Int)) (.int .i64 (n : Int))).run Tryd.prog w = .ok (.slice (some ⟨w.heap.size, 0, none⟩) n n) (w.alloc (.cells (arr .u8 n zI) 5)) := by
  obtain ⟨i, hi, hz, hs, hb⟩ := info_parts info_u8'
  have hr := run_make (P := Tryd.prog) w 37 5 i _ Tryd.underlying37 hi hz .i64 .i64 n n (by omega) (Int.le_refl _) (by rw [hb]; omega) (by omega)
  simp only [Int.toNat_natCast, hs, Nat.mul_one] at hr
  rw [← madeU]
  exact hr
end Go.Proofs.YtligafgbknlofaaDoor
