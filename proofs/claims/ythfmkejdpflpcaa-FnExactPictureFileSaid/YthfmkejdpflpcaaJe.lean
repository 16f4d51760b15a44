/-
  THE CELLS OF A PICTURE, as the specification lists them: row after row.
-/
import Derived.Test.YthfmkejdpflpcaaJd
import Derived.Test.YthfmkejdpflpcaaGpc
namespace Go.Proofs.Ythfmkejdpflpcaa
open Go.ChangeShapes Go.WideShapes Go.ChangeAt Go.RowKit
/-- the first x columns of row y of block k -/
def pxL (f : Nat → Int) (k y : Nat) : Nat → List (Int × Int)
  | 0 => []
  | x + 1 => if hasF (mkF f k) x y = true then pxL f k y x ++ [(16 * f (k * 18) + (x : Int), 16 * f (k * 18 + 1) + (y : Int))] else pxL f k y x
/-- row y of the blocks i, .. -/
def rwL (f : Nat → Int) (i y : Nat) : Nat → List (Int × Int)
  | 0 => []
  | j + 1 => rwL f i y j ++ pxL f (i + j) y 16
/-- the first rows of the blocks i, .., i + d - 1 -/
def gpL (f : Nat → Int) (i d : Nat) : Nat → List (Int × Int)
  | 0 => []
  | y + 1 => gpL f i d y ++ rwL f i y d
/-- the cells of the first blocks, by groups of one height -/
inductive GL (f : Nat → Int) (n : Nat) : Nat → List (Int × Int) → Prop
  | zero : GL f n 0 []
  | next {i d : Nat} {A : List (Int × Int)} : GL f n i A → 0 < d → i + d ≤ n → (∀ k, k < d → f ((i + k) * 18 + 1) = f (i * 18 + 1)) → (i + d = n ∨ f ((i + d) * 18 + 1) ≠ f (i * 18 + 1)) → GL f n (i + d) (A ++ gpL f i d 16)
def ptsV (l : List (Int × Int)) : List Value := l.flatMap fun c => two c.1 c.2
theorem ptsV_snoc (l : List (Int × Int)) (p q : Int) : ptsV (l ++ [(p, q)]) = ptsV l ++ two p q := by simp [ptsV]
theorem pxL_yes {f : Nat → Int} {k y x : Nat} (h : hasF (mkF f k) x y = true) : pxL f k y (x + 1) = pxL f k y x ++ [(16 * f (k * 18) + (x : Int), 16 * f (k * 18 + 1) + (y : Int))] := by
  show (if _ then _ else _) = _
  rw [if_pos h]
theorem pxL_no {f : Nat → Int} {k y x : Nat} (h : hasF (mkF f k) x y = false) : pxL f k y (x + 1) = pxL f k y x := by
  show (if _ then _ else _) = _
  rw [if_neg (by rw [h]; decide)]
theorem pxL_len (f : Nat → Int) (k y : Nat) : ∀ x, (pxL f k y x).length ≤ x
  | 0 => Nat.le_refl _
  | x + 1 => by
    have := pxL_len f k y x
    cases h : hasF (mkF f k) x y with
    | true => rw [pxL_yes h]; simp; exact this
    | false => rw [pxL_no h]; omega
theorem rwL_len (f : Nat → Int) (i y : Nat) : ∀ j, (rwL f i y j).length ≤ 16 * j
  | 0 => Nat.le_refl _
  | j + 1 => by
    have h1 := rwL_len f i y j
    have h2 := pxL_len f (i + j) y 16
    show (rwL f i y j ++ pxL f (i + j) y 16).length ≤ _
    rw [List.length_append]
    omega
theorem gpL_len (f : Nat → Int) (i d : Nat) : ∀ y, (gpL f i d y).length ≤ y * (16 * d)
  | 0 => by rw [Nat.zero_mul]; exact Nat.le_refl _
  | y + 1 => by
    have h1 := gpL_len f i d y
    have h2 := rwL_len f i y d
    show (gpL f i d y ++ rwL f i y d).length ≤ _
    rw [List.length_append, Nat.succ_mul]
    omega
theorem GL.len {f : Nat → Int} {n i : Nat} {A : List (Int × Int)} (h : GL f n i A) : A.length ≤ 256 * i := by
  induction h with
  | zero => exact Nat.le_refl _
  | @next i d A _ _ _ _ _ ih =>
    have := gpL_len f i d 16
    rw [List.length_append]
    omega
/-! how many they are -/
theorem px_cell (f : Nat → Int) (k y : Nat) (hy : y < 16) : ∀ x, x ≤ 16 → (cellK (mkF f k) (16 * y + x)).length = (cellK (mkF f k) (16 * y)).length + (pxL f k y x).length
  | 0, _ => rfl
  | x + 1, hx => by
    have ih := px_cell f k y hy x (by omega)
    rw [← Nat.add_assoc]
    cases h : hasF (mkF f k) x y with
    | true => rw [pxL_yes h, cellK_yes (by omega) hy h, List.length_append, List.length_append, ih]; simp; omega
    | false => rw [pxL_no h, cellK_no (by omega) hy h, ih]
/-- the first y rows of the block k -/
def colN (f : Nat → Int) (k : Nat) : Nat → Nat
  | 0 => 0
  | y + 1 => colN f k y + (pxL f k y 16).length
theorem colN_cell (f : Nat → Int) (k : Nat) : ∀ y, y ≤ 16 → colN f k y = (cellK (mkF f k) (16 * y)).length
  | 0, _ => rfl
  | y + 1, hy => by
    have := px_cell f k y (by omega) 16 (Nat.le_refl _)
    show colN f k y + _ = _
    rw [colN_cell f k y (by omega), show 16 * (y + 1) = 16 * y + 16 by omega, this]
theorem gpL_zero (f : Nat → Int) (i : Nat) : ∀ y, (gpL f i 0 y).length = 0
  | 0 => rfl
  | y + 1 => by
    show (gpL f i 0 y ++ []).length = 0
    rw [List.append_nil]
    exact gpL_zero f i y
theorem gpL_step (f : Nat → Int) (i d : Nat) : ∀ y, (gpL f i (d + 1) y).length = (gpL f i d y).length + colN f (i + d) y
  | 0 => rfl
  | y + 1 => by
    have ih := gpL_step f i d y
    show (gpL f i (d + 1) y ++ (rwL f i y d ++ pxL f (i + d) y 16)).length = (gpL f i d y ++ rwL f i y d).length + (colN f (i + d) y + (pxL f (i + d) y 16).length)
    simp only [List.length_append, ih]
    omega
theorem gpL_sum (f : Nat → Int) (i : Nat) : ∀ d, cntF f i + (gpL f i d 16).length = cntF f (i + d)
  | 0 => by rw [gpL_zero]; rfl
  | d + 1 => by
    have ih := gpL_sum f i d
    have h1 := gpL_step f i d 16
    have h2 := colN_cell f (i + d) 16 (Nat.le_refl _)
    rw [h1, h2, ← Nat.add_assoc, ih]
    rfl
theorem GL.count {f : Nat → Int} {n i : Nat} {A : List (Int × Int)} (h : GL f n i A) : A.length = cntF f i := by
  induction h with
  | zero => rfl
  | @next i d A _ _ _ _ _ ih => rw [List.length_append, ih]; exact gpL_sum f i d
/-! numbers -/
theorem has_col {f : Nat → Int} {n k x y : Nat} (hv : validP f n = true) (hk : k < n) (hx : x < 16) (hy : y < 16) (h : hasF (mkF f k) x y = true) : (-1000000 ≤ 16 * f (k * 18) + (x : Int) ∧ 16 * f (k * 18) + (x : Int) ≤ 1000000) ∧ (-1000000 ≤ 16 * f (k * 18 + 1) + (y : Int) ∧ 16 * f (k * 18 + 1) + (y : Int) ≤ 1000000) := by
  unfold validP at hv
  simp only [Bool.and_eq_true, decide_eq_true_eq, List.all_eq_true, List.mem_range] at hv
  have h1 := hv.2 k hk
  unfold okB hasPic at h1
  simp only [Bool.and_eq_true, List.all_eq_true] at h1
  have h2 := h1.1.1 ⟨(x, y), hx, hy⟩ (mem_cellL h)
  unfold cellIn at h2
  simp only [Bool.and_eq_true] at h2
  exact ⟨colB_yes h2.1, colB_yes h2.2⟩
theorem l07Has_off (g o : Nat) (f : Nat → Int) (hf : MB f) (x y : Nat) (hx : x < 16) (hy : y < 16) (w : World) (hc : w.cell? ⟨g, o + y, none⟩ = some (.int .u16 (f y))) :
    Calls Try.prog 105 #[.pointer (some ⟨g, o, none⟩), .int .i64 (x : Int), .int .i64 (y : Int)] w fun e w' => e = .returned (.bool (hasF f x y)) ∧ w = w' := by
  have hv := hf y hy
  have HS : Hid (bits .and .u16 (f y / 2 ^ x) 1 = if (f y).toNat.testBit x then 1 else 0) := Lib.hid (shr_bit hv x)
  obtain ⟨v0, v1⟩ := hv
  have hx' : (x : Int) ≤ 16 := by omega
  have hy' : (y : Int) < 16 := by omega
  clear hf
  unfold hasF
  generalize f y = v at hc v0 v1 HS ⊢
  go_enter Try.func105, Try.ntmps105
  go_wp2
  go_ret
  exact ⟨mret_bool (by rw [HS.out]; cases v.toNat.testBit x <;> rfl), rfl⟩
end Go.Proofs.Ythfmkejdpflpcaa
