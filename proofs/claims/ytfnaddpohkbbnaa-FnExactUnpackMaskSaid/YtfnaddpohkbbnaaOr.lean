/-
  CONTRACT: (Mask).inOneRow: the cells of a mask in one row.
-/
import Derived.Test.YtfnaddpohkbbnaaMi
import Derived.Laws.OwnMore
import Derived.OwnWalk
namespace Go.Proofs.Ytfnaddpohkbbnaa
open Go.ChangeShapes Go.WideShapes Go.ChangeAt Go.RowKit
/-- the cell at a place of the one row -/
def bitR (f : Nat → Int) (i : Nat) : Bool := hasF f (i % 16) (i / 16)
theorem bitR_at (f : Nat → Int) {x y : Nat} (hx : x < 16) : bitR f (16 * y + x) = hasF f x y := by
  unfold bitR
  rw [show (16 * y + x) % 16 = x by omega, show (16 * y + x) / 16 = y by omega]
def rowV (f : Nat → Int) (k : Nat) : List Value := (List.range k).map fun i => Value.bool (bitR f i)
theorem rowV_len (f : Nat → Int) (k : Nat) : (rowV f k).length = k := by simp [rowV]
theorem rowV_snoc (f : Nat → Int) (k : Nat) : rowV f k ++ [.bool (bitR f k)] = rowV f (k + 1) := by simp [rowV, List.range_succ]
theorem rowV_get (f : Nat → Int) (k i : Nat) (h : i < k) : (rowV f k)[i]? = some (.bool (bitR f i)) := by simp [rowV, h]
abbrev BS : TypeId := 68
theorem info_bool : (Try.prog.info? 4).map (fun i => (i.zero, i.size, i.bytes)) = some (some (.bool false), 1, 1) := by kernel_rfl
theorem own_allocM {w : World} {base : Nat} {e : TypeId} {size : Nat} {v : Value} {n : Nat} {xs : List Value} (h : w.ownsRow base e size v n xs) (o : Obj) : (w.alloc o).ownsRow base e size v n xs := World.ownsRow.alloc h o
/-- 'row = append(row, b)' -/
theorem wpList_append_bool {ops : Array Oper} {rest : List Oper} {o : Oper} {a : Act} {W : World} {Q : Exit → Act → World → Prop} (hgd : o.guard = none) (s x : Operand)
    (ho : o.op = .call { callee := .builtin .append, args := #[s, x], argTypes := #[BS, BS] })
    (base : Nat) (v : Value) (n : Nat) (xs : List Value) (b : Bool) (hs : a.eval s = v) (hown : W.ownsRow base 4 1 v n xs) (m : Nat) (hm : W.heap.size = m) (hx : a.eval x = .slice (some ⟨m, 0, none⟩) 1 1)
    (hl : n ≤ 100000000) (hbase : base ≤ W.heap.size)
    (h : ∀ v' w', Hid (w'.ownsRow base 4 1 v' (n + 1) (xs ++ [.bool b])) → Hid (Below base W w') → wpList Try.prog ops Q rest (a.put o.dst v') w') : wpList Try.prog ops Q (o :: rest) a (W.alloc (.cells #[.bool b] 4)) := by
  subst hm
  obtain ⟨i0, hi, hz0, hz1, hz2⟩ := info_parts info_bool
  refine wpList_append_own _ hgd s x BS ho base 4 i0 (.bool false) 1 1 Try.underlying68 hi hz0 hz1 hz2 rfl (by decide) v n xs hs (own_allocM hown _) ⟨W.heap.size, 0, none⟩ 1 1 [.bool b] hx rfl ?_ ?_ (by unfold maxLen; omega) (by omega) (by simp; omega) ?_
  · intro j u hj
    match j, hj with
    | 0, hj => simp at hj; subst hj; exact Lib.cell_of_heap (World.alloc_heap_new W _) 0
    | j + 1, hj => simp at hj
  · intro u hu; simp at hu; subst hu; rfl
  · intro v' w' h1 h2 _
    exact h v' w' (Lib.hid h1) (Lib.hid (((Below.refl base W).alloc hbase _).grown h2 (by simp; omega) (fun k hk => (World.ownsRow.lt hown k hk).1)))
set_option maxRecDepth 20000 in
set_option maxHeartbeats 2000000 in
theorem inOneRow_any (f : Nat → Int) (hf : MB f) (w : World) :
    Calls Try.prog 61 #[.agg (M16 f)] w fun e w' => ∃ v, e = .returned v ∧ w'.ownsRow (w.heap.size + 1) 4 1 v 256 (rowV f 256) ∧ Below w.heap.size w w' := by
  have C0 : Hid ((w.alloc (.cells (M16 f) 24)).heap[w.heap.size]? = some (.cells (M16 f) 24 (0, 0))) := Lib.hid (World.alloc_heap_new w _)
  have B0 : Hid (Below w.heap.size w (w.alloc (.cells (M16 f) 24))) := Lib.hid ((Below.refl _ w).alloc (Nat.le_refl _) _)
  have HF := Lib.hid hf
  have V0 : Hid (rowV f (16 * 0) = []) := Lib.hid rfl
  clear hf
  go_enter Try.func61, Try.ntmps61
  go_wp2
  generalize w.alloc (.cells (M16 f) 24) = w1 at C0 B0 ⊢
  go_loopw [3, 6] (fun v i wr => ∃ y : Nat, y ≤ 16 ∧ i = .int .i64 (y : Int) ∧ wr.ownsRow (w.heap.size + 1) 4 1 v (16 * y) (rowV f (16 * y)) ∧ Below w.heap.size w wr ∧ wr.heap[w.heap.size]? = some (.cells (M16 f) 24 (0, 0))) (fun _ i _ => 16 - (intOf i).toNat)
  case atStart => exact ⟨0, by omega, rfl, by rw [V0.out]; exact World.ownsRow_nil _ _ _ _, B0.out, C0.out⟩
  case round =>
    obtain ⟨y, hy, rfl, hO, hB, h0⟩ := hrel
    have KO := Lib.hid hO
    have KB := Lib.hid hB
    have K0 := Lib.hid h0
    clear hO hB h0 B0 C0
    by_cases hlt : y < 16
    · have ty : (y : Int) < 16 := by omega
      have HY := Lib.hid hlt
      clear hlt hy
      go_wp2
      go_loopw [3, 9] (fun v i w2 => ∃ x : Nat, x ≤ 16 ∧ i = .int .i64 (x : Int) ∧ w2.ownsRow (w.heap.size + 1) 4 1 v (16 * y + x) (rowV f (16 * y + x)) ∧ Below w.heap.size w w2 ∧ w2.heap[w.heap.size]? = some (.cells (M16 f) 24 (0, 0))) (fun _ i _ => 16 - (intOf i).toNat)
      case atStart => exact ⟨0, by omega, rfl, KO.out, KB.out, K0.out⟩
      case round =>
        obtain ⟨x, hx, rfl, hO, hB, h0⟩ := hrel
        have LO := Lib.hid hO
        have LB := Lib.hid hB
        have L0 := Lib.hid h0
        clear hO hB h0 KO KB K0
        by_cases hlx : x < 16
        · have tx : (x : Int) < 16 := by omega
          have HX := Lib.hid hlx
          have MH := Lib.hid (fun w => mhas_any f HF.out x y hlx HY.out w)
          have NV : Hid (rowV f (16 * y + x) ++ [.bool (hasF f x y)] = rowV f (16 * y + (x + 1))) := Lib.hid (by rw [← bitR_at f hlx]; exact rowV_snoc _ _)
          have LZ : Hid (w.heap.size + 1 ≤ wr.heap.size) := Lib.hid (Array.getElem?_eq_some_iff.1 L0.out).1
          have LL : Hid (16 * y + x ≤ 100000000) := Lib.hid (by have := HY.out; omega)
          generalize hasF f x y = b at MH NV
          generalize rowV f (16 * y + x) = xs at LO NV
          obtain ⟨kn, hkn⟩ : ∃ kn, 16 * y + x = kn := ⟨_, rfl⟩
          rw [hkn] at LO LL
          have HKN := Lib.hid hkn
          clear hkn hlx hx
          go_wp2_with (first | (refine wpList_load_row rfl 24 _ rfl w.heap.size rfl 24 _ _ _ L0.out Try.underlying24 rfl (mask_info _ (arr_size _ _ _)) ?_) | ((with_reducible refine (MH.out _).mono ?_); rintro e w' ⟨rfl, rfl⟩) | (at_builtin; refine wpList_append_bool rfl (.tmp 12) (.tmp 17) rfl (w.heap.size + 1) _ kn xs b rfl (own_allocM LO.out _) (wr.heap.size + 1) (by simp) rfl LL.out (by have := LZ.out; simp; omega) ?_; intro v' w3 hown' hbel'))
          have B3 := Lib.hid ((LB.out.alloc (by have := LZ.out; omega) _).trans (hbel'.out.mono (by omega)))
          have G3 := Lib.hid ((hbel'.out.block w.heap.size (by omega)).trans ((Below.heap_alloc _ _ _ LZ.out).trans L0.out))
          go_roundw
          case rel => exact ⟨x + 1, HX.out, by go_num, by rw [← NV.out, ← Nat.add_assoc, HKN.out]; exact hown'.out, B3.out, G3.out⟩
          case measure => have := HX.out; simp [intOf]; omega
        · obtain rfl : x = 16 := by omega
          clear hlx hx
          go_wp2
          go_roundw
          case rel => exact ⟨y + 1, HY.out, by go_num, by rw [show 16 * (y + 1) = 16 * y + 16 by omega]; exact LO.out, LB.out, L0.out⟩
          case measure => have := HY.out; simp [intOf]; omega
    · obtain rfl : y = 16 := by omega
      clear hlt hy
      go_wp2
      go_ret
      exact ⟨_, rfl, KO.out, KB.out⟩
end Go.Proofs.Ytfnaddpohkbbnaa
