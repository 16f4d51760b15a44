/-
  CONTR#[.slice a n cap, undef, .slice none 0 0, .int .i64 0, .int .i64 0, .int .i64 (r : Int), .slice a p cap, .pointer (some ⟨w.heap.size, 0, none⟩), .slice (some ⟨g, off + 16 * c.1, none⟩) (pcL 16 p (16 * c.1)) (pcL 16 p (16 * c.1)), .slice a n cap, .int .i64 (n : Int), .int .i64 (r : Int), .slice a n cap, .slice a n cap, .int .i64 (n : Int), .int .i64 (r : Int), .int .i64 (p : Int), .slice a p cap, .slice a p cap, .int .i64 (p : Int), .bool (decide ((11200 : Int) < (p : Int))), .slice a p cap, .func (.func 176) #[] #[.pointer (some ⟨w.heap.size + 1, 0, none⟩), .pointer (some ⟨w.heap.size + 1 + 1, 0, none⟩)], .slice (some ⟨g, off + 16 * c.1, none⟩) (pcL 16 p (16 * c.1)) (pcL 16 p (16 * c.1)), undef, undef, undef, undef, undef, undef, undef, undef]: the program's FramesOfBytes.
-/
import Derived.Test.YthfmkejdpflpcaaGpb
import Derived.Test.YthfmkejdpflpcaaCk
import Derived.Test.YthfmkejdpflpcaaRj
import Derived.Laws.OwnMore
namespace Go.Proofs.Ythfmkejdpflpcaa
open Go.ChangeShapes Go.WideShapes Go.ChangeAt Go.RowKit Go.Shelf
attribute [local go_sem] Oper.semAt_some
def foC (n : Nat) : Int := if 700 < n / 16 then 3 else 0
def foN (n : Nat) : Nat := if 700 < n / 16 then 0 else n / 16
def foR (n : Nat) : Int := if 700 < n / 16 then 0 else ((n % 16 : Nat) : Int)
theorem foN_le (n : Nat) : foN n ≤ 1048576 := by unfold foN; split <;> omega
theorem nl_of {listed : Array Bool} {i : Nat} (h : ¬ listed.getD i false = true) : listed.getD i false = false := by
  cases hx : listed.getD i false with
  | true => exact absurd hx h
  | false => rfl
theorem nl_back {listed : Array Bool} {i j : Nat} (h : (listed.setIfInBounds i true).getD j false = false) : listed.getD j false = false := nl_of fun h2 => by
  rw [listed_keep h2] at h; cases h
theorem lt_heap {W : World} {g : Nat} {o : Obj} (h : W.heap[g]? = some o) : g < W.heap.size := (Array.getElem?_eq_some_iff.1 h).1
theorem keep_row {W w1 : World} {n₀ bm : Nat} {e T : TypeId} {size : Nat} {v : Value} {k : Nat} {xs : List Value} {A : Array Value} {fr : Nat × Nat}
    (hrow : W.ownsRow n₀ e size v k xs) (hP : W.heap[bm]? = some (.cells A T fr)) (hTe : T ≠ e) (hgrow : W.grownBy w1 v.ownBlock) : w1.heap[bm]? = some (.cells A T fr) := by
  refine (hgrow.block bm (lt_heap hP) ?_).trans hP
  intro h
  rcases hrow.2 with ⟨rfl, _⟩ | ⟨g, cap, cur, rfl, _, hgb, _⟩
  · simp [Value.ownBlock] at h
  · obtain rfl : bm = g := by simpa [Value.ownBlock] using h
    rw [hP] at hgb
    cases hgb
    exact hTe rfl
theorem own_cells {W : World} {n₀ : Nat} {e : TypeId} {size : Nat} {v : Value} {k : Nat} {xs : List Value} (hrow : W.ownsRow n₀ e size v k xs) : ∀ (j : Nat) (o : Obj), v.ownBlock = some j → W.heap[j]? = some o → o.isCells = true := by
  intro j o ej hj
  rcases hrow.2 with ⟨rfl, _⟩ | ⟨g, cap, cur, rfl, _, hgb, _⟩
  · simp [Value.ownBlock] at ej
  · obtain rfl : g = j := by simpa [Value.ownBlock] using ej
    rw [hgb] at hj; cases hj; rfl
theorem grownBy_setCellF (w : World) (B : Nat) (v : Value) : w.grownBy (w.setCell ⟨B, 0, none⟩ v) (some B) :=
  ⟨rfl, rfl, rfl, by simp, fun k _ hk => Below.heap_setCell _ _ _ k (fun e => hk (by rw [e]))⟩
theorem heap_ownG {β : Type} (B : Nat) (t : TypeId) (A : Array Value) (fr : Nat × Nat) : Own (fun (_ : β) W => W.heap[B]? = some (.cells A t fr)) := fun s X Y row hs hg hrow => by
  refine (hg.block B (Array.getElem?_eq_some_iff.1 hs).1 ?_).trans hs
  intro e
  obtain ⟨o, ho, hno⟩ := hrow B e.symm
  rw [hs] at ho
  cases ho
  simp [Obj.isCells] at hno
theorem own_pureF {β : Type} (p : β → Prop) : Own (fun s (_ : World) => p s) := fun _ _ _ _ hs _ _ => hs
theorem slice_toF (a : Option Addr) (n c p : Nat) (hc : p ≤ c) (ha : ∀ x, a = some x → ∃ b off, x = ⟨b, off, none⟩) (hp : p ≤ 1000000000) (w : World) : (Instr.slice 95 (.slice a n c) none (some (.int .i64 (p : Int))) none).run Try.prog w = .ok (.slice a p c) w := by
  have hs : ∀ w, (sizeOf (Try.prog.elem 95)).run Try.prog w = .ok 1 w := fun w => by kernel_rfl
  rw [run_slice_h (P := Try.prog) (w := w) 95 a n c (by kernel_rfl) .i64 (p : Int) (by omega) (by omega), hs]
  cases a with
  | none => simp [Result.andThen_ok, sliced]
  | some x =>
    obtain ⟨b, off, rfl⟩ := ha x rfl
    simp [Result.andThen_ok, sliced, Go.WideShapes.add_plain]
theorem foldset : ∀ (l : List Value) (k : Nat) (Z : Array Value), k + l.length ≤ Z.size → ∀ j, (List.foldl (fun cs (x : Value × Nat) => cs.setIfInBounds x.snd x.fst) Z (l.zipIdx k))[j]? = if k ≤ j ∧ j < k + l.length then l[j - k]? else Z[j]?
  | [], k, Z, _, j => by
    simp only [List.zipIdx_nil, List.foldl_nil, List.length_nil, Nat.add_zero]
    rw [if_neg (by omega)]
  | a :: r, k, Z, h, j => by
    rw [List.zipIdx_cons, List.foldl_cons, foldset r (k + 1) _ (by simp at h ⊢; omega)]
    simp only [List.length_cons]
    by_cases h1 : k + 1 ≤ j ∧ j < k + 1 + r.length
    · rw [if_pos h1, if_pos (by omega), show j - k = (j - (k + 1)) + 1 by omega, List.getElem?_cons_succ]
    · rw [if_neg h1, Array.getElem?_setIfInBounds]
      by_cases h2 : k = j
      · subst h2
        rw [if_pos rfl, if_pos (by simp at h; omega), if_pos (by omega), Nat.sub_self, List.getElem?_cons_zero]
      · rw [if_neg h2, if_neg (by omega)]
theorem fold16 (A : Array Value) (h : A.size = 16) : Array.foldl (fun cs (x : Value × Nat) => cs.setIfInBounds x.snd x.fst) #[Value.int .u8 0, Value.int .u8 0, Value.int .u8 0, Value.int .u8 0, Value.int .u8 0, Value.int .u8 0, Value.int .u8 0, Value.int .u8 0, Value.int .u8 0, Value.int .u8 0, Value.int .u8 0, Value.int .u8 0, Value.int .u8 0, Value.int .u8 0, Value.int .u8 0, Value.int .u8 0] (A.zipIdx 0) 0 16 = A := by
  have e : Array.foldl (fun cs (x : Value × Nat) => cs.setIfInBounds x.snd x.fst) #[Value.int .u8 0, Value.int .u8 0, Value.int .u8 0, Value.int .u8 0, Value.int .u8 0, Value.int .u8 0, Value.int .u8 0, Value.int .u8 0, Value.int .u8 0, Value.int .u8 0, Value.int .u8 0, Value.int .u8 0, Value.int .u8 0, Value.int .u8 0, Value.int .u8 0, Value.int .u8 0] (A.zipIdx 0) 0 16 = List.foldl (fun cs (x : Value × Nat) => cs.setIfInBounds x.snd x.fst) #[Value.int .u8 0, Value.int .u8 0, Value.int .u8 0, Value.int .u8 0, Value.int .u8 0, Value.int .u8 0, Value.int .u8 0, Value.int .u8 0, Value.int .u8 0, Value.int .u8 0, Value.int .u8 0, Value.int .u8 0, Value.int .u8 0, Value.int .u8 0, Value.int .u8 0, Value.int .u8 0] (A.toList.zipIdx 0) := by
    rw [show (16 : Nat) = (A.zipIdx 0).size by simp [h], ← Array.foldl_toList]
    simp
  rw [e]
  apply Array.ext_getElem?
  intro j
  rw [foldset A.toList 0 _ (by simp [h])]
  by_cases hj : j < 16
  · rw [if_pos (by simp [h]; exact hj)]
    simp
  · rw [if_neg (by simp [h]; omega), Array.getElem?_eq_none (by simp; omega), Array.getElem?_eq_none (by omega)]
/-- the cells of pieces -/
def pcsL (f : Nat → Int) {m : Nat} (l : List (Cm m)) : List Value := l.flatMap fun c => rowU (frK f c.1) 16
theorem pcsL_snoc (f : Nat → Int) {m : Nat} (l : List (Cm m)) (c : Cm m) : pcsL f (l ++ [c]) = pcsL f l ++ rowU (frK f c.1) 16 := by simp [pcsL]
theorem pcsL_all (f : Nat → Int) (m : Nat) : ∀ k, k ≤ m → pcsL f (cmL m k) = rowU f (k * 16)
  | 0, _ => rfl
  | k + 1, h => by
    rw [cmL_succ (show k < m by omega), pcsL_snoc, pcsL_all f m k (by omega), rowU_cat, show (k + 1) * 16 = k * 16 + 16 by omega]
    refine rowU_congr fun j hj => ?_
    unfold catU frK
    split
    · rfl
    · show f (k * 16 + (j - k * 16)) = f j
      rw [show k * 16 + (j - k * 16) = j by omega]
theorem frK_row (f : Nat → Int) (c : Nat) : (Q16 (frK f c)).toList = rowU (frK f c) 16 := by simp [rowU, arr]
theorem putObj_grown (W : World) (D : Nat) (o : Obj) : W.grownBy (W.putObj D o) (some D) :=
  ⟨rfl, rfl, rfl, by simp, fun k _ hk => World.putObj_heap_other (fun e => hk (by rw [e]))⟩
end Go.Proofs.Ythfmkejdpflpcaa
