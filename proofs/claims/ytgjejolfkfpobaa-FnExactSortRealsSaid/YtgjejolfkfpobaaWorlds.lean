/-
  HOW THE WORLD GOES ON: a copy is made, the tape is drawn from.
-/
import Derived.Test.YtgjejolfkfpobaaEq
namespace Go.Proofs.Ytgjejolfkfpobaa
open Go.ChangeShapes Go.WideShapes Go.ChangeAt Go.RowKit Go.Deep
open Fl
/-- a copy of the numbers lies in the one new block -/
def Made (w w' : World) (bs : List Nat) (len : Nat) : Prop := w.alloc (.cells (rowC bs len len) 31) = w'
def Drew (w w' : World) : Prop := ∃ n, w' = w.drewN n
theorem Made.below {w w' : World} {bs : List Nat} {len B : Nat} (h : Made w w' bs len) (hB : B ≤ w.heap.size) : Below B w w' := by
  unfold Made at h; subst h; exact (Below.refl _ _).alloc hB _
theorem Made.size {w w' : World} {bs : List Nat} {len : Nat} (h : Made w w' bs len) : w'.heap.size = w.heap.size + 1 := by
  unfold Made at h; subst h; simp
theorem Made.cell {w w' : World} {bs : List Nat} {len : Nat} (h : Made w w' bs len) : ∀ i, i < len → w'.cell? ⟨w.heap.size, i, none⟩ = some (.float .f32 (bs[i]?.getD 0)) := by
  intro i hi
  unfold Made at h; subst h
  rw [World.cell?_alloc_new, rowC_get _ _ _ _ hi, if_pos hi]
theorem Drew.below {w w' : World} {B : Nat} (h : Drew w w') : Below B w w' := by
  obtain ⟨n, rfl⟩ := h
  exact ⟨rfl, rfl, rfl, Nat.le_refl _, fun _ _ => rfl⟩
theorem Drew.size {w w' : World} (h : Drew w w') : w'.heap.size = w.heap.size := by
  obtain ⟨n, rfl⟩ := h; rfl
theorem Drew.cell {w w' : World} (h : Drew w w') (a : Addr) : w'.cell? a = w.cell? a := by
  obtain ⟨n, rfl⟩ := h; rfl
theorem FRow.later {w w' : World} {a : Option Addr} {len : Nat} {bs : List Nat} (h : FRow w a len bs) (hb : Below w.heap.size w w') : FRow w' a len bs := by
  obtain ⟨h1, h2, h3⟩ := h
  refine ⟨h1, h2, ?_⟩
  rcases h3 with h3 | ⟨b, off, e, hlt, hc⟩
  · exact .inl h3
  · exact .inr ⟨b, off, e, Nat.lt_of_lt_of_le hlt hb.size, fun i hi => by rw [hb.cell (p := ⟨b, off + i, none⟩) hlt]; exact hc i hi⟩
theorem toF_made (a : Option Addr) (len cap : Nat) (bs : List Nat) (w : World) (h : FRow w a len bs) (hl : len ≤ 1048576) :
    Calls Try.prog 29 #[.slice a len cap] w fun e w' => e = .returned (.slice (some ⟨w.heap.size, 0, none⟩) len len) ∧ Made w w' bs len :=
  toF_any a len cap bs w h hl
theorem eqF_drew (x y len : Nat) (bs : List Nat) (w : World) (hl : len ≤ 1048576)
    (hx : ∀ i, i < len → w.cell? ⟨x, i, none⟩ = some (.float .f32 (bs[i]?.getD 0))) (hy : ∀ i, i < len → w.cell? ⟨y, i, none⟩ = some (.float .f32 (bs[i]?.getD 0))) :
    Calls Try.prog 31 #[.slice (some ⟨x, 0, none⟩) len len, .slice (some ⟨y, 0, none⟩) len len] w fun e w' => e = .returned (.bool true) ∧ Drew w w' :=
  eqF_any x y len bs w hl hx hy
/-- two numbers that are the same, or both NaN -/
def Alike (r s : Nat) : Prop := (r = s ∧ kd r ≠ 4) ∨ (kd r = 4 ∧ kd s = 4)
theorem sameFloat_eq (x y : Nat) (h : x = y) (hx : nan64 x = false) (w : World) :
    Calls Try.prog 70 #[.float .f64 x, .float .f64 y] w fun e w' => e = .returned (.bool true) ∧ w = w' := by
  subst h; exact sameFloat_same x hx w
end Go.Proofs.Ytgjejolfkfpobaa
