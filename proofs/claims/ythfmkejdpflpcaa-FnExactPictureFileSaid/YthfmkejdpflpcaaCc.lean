/-
  CONTRACTS: CountCells on both sides.
-/
import Derived.Test.YthfmkejdpflpcaaCs
namespace Go.Proofs.Ythfmkejdpflpcaa
open Go.ChangeShapes Go.WideShapes Go.ChangeAt Go.RowKit Go.Shelf
/-- how many bits are set -/
def pop : Nat → Nat → Nat
  | 0, _ => 0
  | k + 1, n => pop k n + (if n.testBit k then 1 else 0)
theorem pop_le (k n : Nat) : pop k n ≤ k := by
  induction k with
  | zero => simp [pop]
  | succ k ih => unfold pop; split <;> omega
theorem pop_split (n : Nat) (k : Nat) : pop (8 + k) n = pop 8 n + pop k (n / 256) := by
  induction k with
  | zero => simp [pop]
  | succ k ih =>
    show pop (8 + k) n + (if n.testBit (8 + k) then 1 else 0) = _
    rw [ih]
    show _ = pop 8 n + (pop k (n / 256) + (if (n / 256).testBit k then 1 else 0))
    have e : (n / 256).testBit k = n.testBit (8 + k) := by
      rw [show (256 : Nat) = 2 ^ 8 from rfl, Nat.testBit_div_two_pow]
      congr 1
      omega
    rw [e]
    omega
theorem pop_low (n : Nat) : pop 8 (n % 256) = pop 8 n := by
  have H : ∀ k, k ≤ 8 → pop k (n % 256) = pop k n := by
    intro k
    induction k with
    | zero => intro _; rfl
    | succ k ih =>
      intro hk
      unfold pop
      rw [ih (by omega), show (256 : Nat) = 2 ^ 8 from rfl, Nat.testBit_mod_two_pow]
      simp [show k < 8 by omega]
  exact H 8 (Nat.le_refl _)
theorem pop16 (n : Nat) : pop 16 n = pop 8 (n % 256) + pop 8 (n / 256) := by
  rw [pop_low]; exact pop_split n 8
/-- the cells of the rows up to y, and of the row y up to x -/
theorem cellK_row (f : Nat → Int) (y : Nat) (hy : y < 16) : ∀ x, x ≤ 16 → (cellK f (16 * y + x)).length = (cellK f (16 * y)).length + pop x (f y).toNat := by
  intro x
  induction x with
  | zero => intro _; rfl
  | succ x ih =>
    intro hx
    have h := ih (by omega)
    unfold pop
    cases hc : hasF f x y
    · rw [← Nat.add_assoc, cellK_no (by omega) hy hc, h]
      have : (f y).toNat.testBit x = false := hc
      rw [this]
      simp
    · rw [← Nat.add_assoc, cellK_yes (by omega) hy hc]
      have : (f y).toNat.testBit x = true := hc
      rw [this]
      simp
      omega
theorem cellK_next (f : Nat → Int) (y : Nat) (hy : y < 16) : (cellK f (16 * (y + 1))).length = (cellK f (16 * y)).length + pop 16 (f y).toNat := by
  rw [show 16 * (y + 1) = 16 * y + 16 by omega]; exact cellK_row f y hy 16 (Nat.le_refl _)
def popTab : List UInt8 := (List.range 256).map fun n => UInt8.ofNat (pop 8 n)
def CountCellsPost (f : Nat → Int) (w : World) (e : Ending) (w' : World) : Prop := e = .returned (.int .i64 ((cellL f).length : Int)) ∧ Below w.heap.size w w'
set_option maxRecDepth 100000 in
theorem popS_at : ∀ i : Fin 256, (({ data := #[0, 1, 1, 2, 1, 2, 2, 3, 1, 2, 2, 3, 2, 3, 3, 4, 1, 2, 2, 3, 2, 3, 3, 4, 2, 3, 3, 4, 3, 4, 4, 5, 1, 2, 2, 3, 2, 3, 3, 4, 2, 3, 3, 4, 3, 4, 4, 5, 2, 3, 3, 4, 3, 4, 4, 5, 3, 4, 4, 5, 4, 5, 5, 6, 1, 2, 2, 3, 2, 3, 3, 4, 2, 3, 3, 4, 3, 4, 4, 5, 2, 3, 3, 4, 3, 4, 4, 5, 3, 4, 4, 5, 4, 5, 5, 6, 2, 3, 3, 4, 3, 4, 4, 5, 3, 4, 4, 5, 4, 5, 5, 6, 3, 4, 4, 5, 4, 5, 5, 6, 4, 5, 5, 6, 5, 6, 6, 7, 1, 2, 2, 3, 2, 3, 3, 4, 2, 3, 3, 4, 3, 4, 4, 5, 2, 3, 3, 4, 3, 4, 4, 5, 3, 4, 4, 5, 4, 5, 5, 6, 2, 3, 3, 4, 3, 4, 4, 5, 3, 4, 4, 5, 4, 5, 5, 6, 3, 4, 4, 5, 4, 5, 5, 6, 4, 5, 5, 6, 5, 6, 6, 7, 2, 3, 3, 4, 3, 4, 4, 5, 3, 4, 4, 5, 4, 5, 5, 6, 3, 4, 4, 5, 4, 5, 5, 6, 4, 5, 5, 6, 5, 6, 6, 7, 3, 4, 4, 5, 4, 5, 5, 6, 4, 5, 5, 6, 5, 6, 6, 7, 4, 5, 5, 6, 5, 6, 6, 7, 5, 6, 6, 7, 6, 7, 7, 8] } : ByteArray).data[i.1]?.map fun c => c.toNat) = some (pop 8 i.1) := by decide +kernel
set_option maxRecDepth 100000 in
theorem popS_index (i : Nat) (hi : i < 256) (w : World) : (Instr.index 9 (.string { data := #[0, 1, 1, 2, 1, 2, 2, 3, 1, 2, 2, 3, 2, 3, 3, 4, 1, 2, 2, 3, 2, 3, 3, 4, 2, 3, 3, 4, 3, 4, 4, 5, 1, 2, 2, 3, 2, 3, 3, 4, 2, 3, 3, 4, 3, 4, 4, 5, 2, 3, 3, 4, 3, 4, 4, 5, 3, 4, 4, 5, 4, 5, 5, 6, 1, 2, 2, 3, 2, 3, 3, 4, 2, 3, 3, 4, 3, 4, 4, 5, 2, 3, 3, 4, 3, 4, 4, 5, 3, 4, 4, 5, 4, 5, 5, 6, 2, 3, 3, 4, 3, 4, 4, 5, 3, 4, 4, 5, 4, 5, 5, 6, 3, 4, 4, 5, 4, 5, 5, 6, 4, 5, 5, 6, 5, 6, 6, 7, 1, 2, 2, 3, 2, 3, 3, 4, 2, 3, 3, 4, 3, 4, 4, 5, 2, 3, 3, 4, 3, 4, 4, 5, 3, 4, 4, 5, 4, 5, 5, 6, 2, 3, 3, 4, 3, 4, 4, 5, 3, 4, 4, 5, 4, 5, 5, 6, 3, 4, 4, 5, 4, 5, 5, 6, 4, 5, 5, 6, 5, 6, 6, 7, 2, 3, 3, 4, 3, 4, 4, 5, 3, 4, 4, 5, 4, 5, 5, 6, 3, 4, 4, 5, 4, 5, 5, 6, 4, 5, 5, 6, 5, 6, 6, 7, 3, 4, 4, 5, 4, 5, 5, 6, 4, 5, 5, 6, 5, 6, 6, 7, 4, 5, 5, 6, 5, 6, 6, 7, 5, 6, 6, 7, 6, 7, 7, 8] }) (.int .u16 (i : Int))).run Try.prog w = .ok (.int .u8 (pop 8 i : Int)) w := by
  have h := popS_at ⟨i, hi⟩
  have hs : ({ data := #[0, 1, 1, 2, 1, 2, 2, 3, 1, 2, 2, 3, 2, 3, 3, 4, 1, 2, 2, 3, 2, 3, 3, 4, 2, 3, 3, 4, 3, 4, 4, 5, 1, 2, 2, 3, 2, 3, 3, 4, 2, 3, 3, 4, 3, 4, 4, 5, 2, 3, 3, 4, 3, 4, 4, 5, 3, 4, 4, 5, 4, 5, 5, 6, 1, 2, 2, 3, 2, 3, 3, 4, 2, 3, 3, 4, 3, 4, 4, 5, 2, 3, 3, 4, 3, 4, 4, 5, 3, 4, 4, 5, 4, 5, 5, 6, 2, 3, 3, 4, 3, 4, 4, 5, 3, 4, 4, 5, 4, 5, 5, 6, 3, 4, 4, 5, 4, 5, 5, 6, 4, 5, 5, 6, 5, 6, 6, 7, 1, 2, 2, 3, 2, 3, 3, 4, 2, 3, 3, 4, 3, 4, 4, 5, 2, 3, 3, 4, 3, 4, 4, 5, 3, 4, 4, 5, 4, 5, 5, 6, 2, 3, 3, 4, 3, 4, 4, 5, 3, 4, 4, 5, 4, 5, 5, 6, 3, 4, 4, 5, 4, 5, 5, 6, 4, 5, 5, 6, 5, 6, 6, 7, 2, 3, 3, 4, 3, 4, 4, 5, 3, 4, 4, 5, 4, 5, 5, 6, 3, 4, 4, 5, 4, 5, 5, 6, 4, 5, 5, 6, 5, 6, 6, 7, 3, 4, 4, 5, 4, 5, 5, 6, 4, 5, 5, 6, 5, 6, 6, 7, 4, 5, 5, 6, 5, 6, 6, 7, 5, 6, 6, 7, 6, 7, 7, 8] } : ByteArray).size = 256 := by decide +kernel
  generalize ({ data := #[0, 1, 1, 2, 1, 2, 2, 3, 1, 2, 2, 3, 2, 3, 3, 4, 1, 2, 2, 3, 2, 3, 3, 4, 2, 3, 3, 4, 3, 4, 4, 5, 1, 2, 2, 3, 2, 3, 3, 4, 2, 3, 3, 4, 3, 4, 4, 5, 2, 3, 3, 4, 3, 4, 4, 5, 3, 4, 4, 5, 4, 5, 5, 6, 1, 2, 2, 3, 2, 3, 3, 4, 2, 3, 3, 4, 3, 4, 4, 5, 2, 3, 3, 4, 3, 4, 4, 5, 3, 4, 4, 5, 4, 5, 5, 6, 2, 3, 3, 4, 3, 4, 4, 5, 3, 4, 4, 5, 4, 5, 5, 6, 3, 4, 4, 5, 4, 5, 5, 6, 4, 5, 5, 6, 5, 6, 6, 7, 1, 2, 2, 3, 2, 3, 3, 4, 2, 3, 3, 4, 3, 4, 4, 5, 2, 3, 3, 4, 3, 4, 4, 5, 3, 4, 4, 5, 4, 5, 5, 6, 2, 3, 3, 4, 3, 4, 4, 5, 3, 4, 4, 5, 4, 5, 5, 6, 3, 4, 4, 5, 4, 5, 5, 6, 4, 5, 5, 6, 5, 6, 6, 7, 2, 3, 3, 4, 3, 4, 4, 5, 3, 4, 4, 5, 4, 5, 5, 6, 3, 4, 4, 5, 4, 5, 5, 6, 4, 5, 5, 6, 5, 6, 6, 7, 3, 4, 4, 5, 4, 5, 5, 6, 4, 5, 5, 6, 5, 6, 6, 7, 4, 5, 5, 6, 5, 6, 6, 7, 5, 6, 6, 7, 6, 7, 7, 8] } : ByteArray) = S at h hs ⊢
  rw [run_index_string w 9 S .u16 (i : Int) Try.underlying9]
  have hlt : i < S.size := by omega
  have e : S[i] = S.data[i]'hlt := rfl
  have h2 : (S.data[i]'hlt).toNat = pop 8 i := by
    rw [Array.getElem?_eq_getElem hlt] at h
    simpa using h
  rw [dif_pos ⟨by omega, by omega⟩]
  have e3 : (S[((i : Int)).toNat]'(by omega)).toNat = pop 8 i := by
    simp only [Int.toNat_natCast]
    exact h2
  rw [e3]
set_option maxRecDepth 100000 in
theorem ones_any (n : Nat) (hn : n < 65536) (w : World) : Calls Try.prog 138 #[.int .u16 (n : Int)] w fun e w' => e = .returned (.int .i64 (pop 16 n : Int)) ∧ ∃ q, w' = w.drewN q := by
  have i1 := popS_index (n / 256) (by omega)
  have i2 := popS_index (n % 256) (by omega)
  have HP := Lib.hid (pop16 n)
  have l1 := pop_le 8 (n / 256)
  have l2 := pop_le 8 (n % 256)
  have ha : bits .and .u16 (n : Int) 255 = ((n % 256 : Nat) : Int) := by
    rw [show (255 : Int) = ((255 : Nat) : Int) from rfl, u16_and_nat _ _ hn (by omega), show (255 : Nat) = 2 ^ 8 - 1 from rfl, Nat.and_two_pow_sub_one_eq_mod]
  have hs : (n : Int) / 256 = ((n / 256 : Nat) : Int) := by omega
  generalize pop 8 (n / 256) = p at i1 l1 HP
  generalize pop 8 (n % 256) = q at i2 l2 HP
  generalize n / 256 = a at i1 hs
  generalize n % 256 = b at i2 ha
  have l1' : (p : Int) ≤ 8 := by omega
  have l2' : (q : Int) ≤ 8 := by omega
  have e1 : IntKind.u8.wrap ((p : Int) + (q : Int)) = (p : Int) + (q : Int) := by rw [IntKind.wrap_u8]; omega
  have e2 : IntKind.i64.wrap ((p : Int) + (q : Int)) = (p : Int) + (q : Int) := by rw [IntKind.wrap_i64]; omega
  go_enter Try.func138, Try.ntmps138
  go_wp2
  go_quiet (fail)
  go_wp2
  go_ret
  exact ⟨mret_int (by rw [HP.out]; push_cast; omega), _, rfl⟩
set_option maxRecDepth 20000 in
theorem icountCells_any (f : Nat → Int) (hf : MB f) (w : World) : Calls Try.prog 109 #[.agg (M16 f)] w (CountCellsPost f w) := by
  unfold CountCellsPost
  have C0 : Hid ((w.alloc (.cells (M16 f) 71)).heap[w.heap.size]? = some (.cells (M16 f) 71 (0, 0))) := Lib.hid (World.alloc_heap_new w _)
  have B0 : Hid (Below w.heap.size w (w.alloc (.cells (M16 f) 71))) := Lib.hid ((Below.refl _ w).alloc (Nat.le_refl _) _)
  have CZ : Hid ((cellK f (16 * 0)).length = 0) := Lib.hid rfl
  have HF := Lib.hid hf
  clear hf
  go_enter Try.func109, Try.ntmps109
  go_wp2_with (refine wpList_load_row rfl 71 _ rfl w.heap.size rfl 71 _ _ _ C0.out Try.underlying71 rfl (mask_info _ (arr_size _ _ _)) ?_)
  generalize w.alloc (.cells (M16 f) 71) = w1 at C0 B0 ⊢
  go_loopw [3, 7] (fun c i wr => ∃ y q : Nat, y ≤ 16 ∧ i = .int .i64 (y : Int) ∧ c = .int .i64 ((cellK f (16 * y)).length : Int) ∧ wr = w1.drewN q) (fun _ i _ => 16 - (intOf i).toNat)
  case atStart => exact ⟨0, 0, by omega, rfl, by rw [CZ.out]; rfl, rfl⟩
  case round =>
    obtain ⟨y, q, hy, rfl, rfl, hw⟩ := hrel
    have HW := Lib.hid hw
    clear hw
    by_cases hlt : y < 16
    · have ty : (y : Int) < 16 := by omega
      have HY := Lib.hid hlt
      have fy := HF.out y hlt
      obtain ⟨m, hm⟩ : ∃ m : Nat, f y = (m : Int) := ⟨(f y).toNat, by omega⟩
      have hm16 : m < 65536 := by omega
      have NX : Hid ((cellK f (16 * (y + 1))).length = (cellK f (16 * y)).length + pop 16 m) := Lib.hid (by rw [cellK_next f y hlt, hm, Int.toNat_natCast])
      have ix : ∀ w, (Instr.index 71 (.agg (M16 f)) (.int .i64 (y : Int))).run Try.prog w = .ok (.int .u16 (m : Int)) w := fun w => by
        rw [← hm]; exact run_index_arr .i64 f y Try.underlying71 Try.underlying69 (by kernel_rfl) hlt w
      have ON := Lib.hid (fun w => ones_any m hm16 w)
      have pl := pop_le 16 m
      have cl := cellK_len f (16 * y)
      clear fy hm hlt hy hm16
      generalize pop 16 m = p at NX ON pl
      generalize (cellK f (16 * y)).length = c at NX cl
      have pl' : (p : Int) ≤ 16 := by omega
      have cl' : (c : Int) ≤ 256 := by have := HY.out; omega
      clear pl cl
      go_wp2_with ((with_reducible refine (ON.out _).mono ?_); rintro e w' ⟨rfl, q2, rfl⟩)
      go_roundw
      case rel => exact ⟨y + 1, q + q2, HY.out, by go_num, by rw [NX.out]; go_num, by rw [HW.out, World.drewN_drewN]⟩
      case measure => have := HY.out; simp [intOf]; omega
    · obtain rfl : y = 16 := by omega
      have B : Hid (Below w.heap.size w wr) := Lib.hid (by rw [HW.out]; exact mdrewN B0.out _)
      clear hlt hy HW
      go_wp2
      go_ret
      exact ⟨rfl, B.out⟩
end Go.Proofs.Ythfmkejdpflpcaa
