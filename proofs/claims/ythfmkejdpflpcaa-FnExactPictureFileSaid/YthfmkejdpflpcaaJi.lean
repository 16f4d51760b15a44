/-
  CONTRACT: the program's list of a picture's cells, up to its sort.
-/
import Derived.Test.YthfmkejdpflpcaaJh
import Derived.Test.YthfmkejdpflpcaaVb
namespace Go.Proofs.Ythfmkejdpflpcaa
open Go.ChangeShapes Go.WideShapes Go.ChangeAt Go.RowKit
def markD (D : Nat) : Deferred := { target := .collected D, args := #[] }
/-- the marks of the ranges that have ended; they lie below C -/
def MarksLt (B C : Nat) (ds : List Deferred) (w : World) : Prop := ∃ Ds : List Nat, ds = Ds.map markD ∧ Ds.Nodup ∧ ∀ D ∈ Ds, B ≤ D ∧ D < C ∧ w.heap[D]? = some (.deferred (some []))
theorem MarksLt.push {B C D : Nat} {ds : List Deferred} {w : World} (h : MarksLt B C ds w) (hB : B ≤ C) (hD : C ≤ D) (hk : w.heap[D]? = some (.deferred (some []))) : MarksLt B w.heap.size (markD D :: ds) w := by
  obtain ⟨Ds, h1, h2, h3⟩ := h
  have hs : D < w.heap.size := (Array.getElem?_eq_some_iff.1 hk).1
  refine ⟨D :: Ds, by rw [h1]; rfl, List.nodup_cons.2 ⟨fun hm => by have := (h3 D hm).2.1; omega, h2⟩, fun E hE => ?_⟩
  rw [List.mem_cons] at hE
  rcases hE with rfl | hE
  · exact ⟨by omega, hs, hk⟩
  · exact ⟨(h3 E hE).1, (Array.getElem?_eq_some_iff.1 (h3 E hE).2.2).1, (h3 E hE).2.2⟩
theorem MarksLt.keeps {B C : Nat} {ds : List Deferred} {w w' : World} (h : MarksLt B C ds w) (hk : ∀ D o, B ≤ D → D < C → w.heap[D]? = some o → o.isCells = false → w'.heap[D]? = some o) : MarksLt B C ds w' := by
  obtain ⟨Ds, h1, h2, h3⟩ := h
  exact ⟨Ds, h1, h2, fun D hD => ⟨(h3 D hD).1, (h3 D hD).2.1, hk D _ (h3 D hD).1 (h3 D hD).2.1 (h3 D hD).2.2 rfl⟩⟩
theorem marksLt_from {β : Type} {B C E : Nat} (hE : C ≤ E) (ds : List Deferred) : OwnFrom E (fun (_ : β) W => MarksLt B C ds W) := fun _ W W' row hs hg hr =>
  hs.keeps fun D o _ hD ho _ => (hg.block D (Array.getElem?_eq_some_iff.1 ho).1 (fun e => by have := (hr D e.symm).1; omega)).trans ho
/-- the marks have been taken -/
inductive MTak (B : Nat) : World → World → Prop
  | refl (w : World) : MTak B w w
  | step {w w' : World} {D : Nat} : B ≤ D → w.heap[D]? = some (.deferred (some [])) → MTak B (w.putObj D (.deferred none)) w' → MTak B w w'
theorem MTak.own {B : Nat} {w w' : World} (h : MTak B w w') : ∀ {base : Nat} {e : TypeId} {size : Nat} {v : Value} {k : Nat} {xs : List Value}, w.ownsRow base e size v k xs → w'.ownsRow base e size v k xs := by
  induction h with
  | refl w => intro _ _ _ _ _ _ h; exact h
  | step hB hD _ ih => intro _ _ _ _ _ _ h; exact ih (ownsRow_putObj h _ hD rfl)
theorem MTak.bel {B : Nat} {w w' : World} (h : MTak B w w') : ∀ {w0 : World}, B ≤ w0.heap.size → Below B w0 w → Below B w0 w' := by
  induction h with
  | refl w => intro _ _ h; exact h
  | step hB hD _ ih => intro w0 h0 h; exact ih h0 (h.grown (grownBy_putObj' _ _ _) (Nat.le_trans h0 h.size) (fun k e => by cases e; exact hB))
theorem leaves_marks {F : Fence} {n : Nat} {P : Program} {fn : Func} {tmps : Array Value} {R : Ending → World → Prop} {B C : Nat} : ∀ (Ds : List Nat) (w : World), Ds.Nodup → (∀ D ∈ Ds, B ≤ D ∧ D < C ∧ w.heap[D]? = some (.deferred (some []))) → (∀ w', MTak B w w' → LeavesIn F n P fn tmps R [] .returning w') → LeavesInM F n P fn tmps R (Ds.map markD) .returning w
  | [], w, _, _, h => h w (.refl w)
  | D :: Ds, w, hn, hd, h => by
    have hD := (hd D List.mem_cons_self).2.2
    rw [List.nodup_cons] at hn
    refine ⟨by simp, .inl ⟨D, _, rfl, run_takeDeferred hD, ?_⟩⟩
    refine leaves_marks (B := B) (C := C) Ds _ hn.2 (fun E hE => ?_) (fun w' hw' => h w' (.step (hd D List.mem_cons_self).1 hD hw'))
    have hE2 := hd E (List.mem_cons_of_mem _ hE)
    exact ⟨hE2.1, hE2.2.1, (World.putObj_heap_other (show E ≠ D from fun e => hn.1 (by rw [← e]; exact hE))).trans hE2.2.2⟩
/-! the cells of one block, as the range over its mask hands them out -/
def ptC (f : Nat → Int) (k : Nat) (c : Cl) : Int × Int := (16 * f (k * 18) + (c.1.1 : Int), 16 * f (k * 18 + 1) + (c.1.2 : Int))
theorem px_map (f : Nat → Int) (k y : Nat) (hy : y < 16) : ∀ x, x ≤ 16 → (cellK (mkF f k) (16 * y + x)).map (ptC f k) = (cellK (mkF f k) (16 * y)).map (ptC f k) ++ pxL f k y x
  | 0, _ => (List.append_nil _).symm
  | x + 1, hx => by
    have ih := px_map f k y hy x (by omega)
    rw [← Nat.add_assoc]
    cases h : hasF (mkF f k) x y with
    | true => rw [pxL_yes h, cellK_yes (by omega) hy h, List.map_append, ih, List.append_assoc]; rfl
    | false => rw [pxL_no h, cellK_no (by omega) hy h, ih]
theorem colL_map (f : Nat → Int) (k : Nat) : ∀ y, y ≤ 16 → colL f k y = (cellK (mkF f k) (16 * y)).map (ptC f k)
  | 0, _ => rfl
  | y + 1, hy => by
    show colL f k y ++ pxL f k y 16 = _
    rw [colL_map f k y (by omega), show 16 * (y + 1) = 16 * y + 16 by omega, px_map f k y (by omega) 16 (Nat.le_refl _)]
theorem blL_len (f : Nat → Int) : ∀ k, (blL f k).length ≤ 256 * k
  | 0 => Nat.le_refl _
  | k + 1 => by
    have h1 := blL_len f k
    have h2 := cellK_len (mkF f k) (16 * 16)
    show (blL f k ++ colL f k 16).length ≤ _
    rw [List.length_append, colL_map f k 16 (Nat.le_refl _), List.length_map]
    omega
end Go.Proofs.Ythfmkejdpflpcaa
