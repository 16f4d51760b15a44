/-
  BYTES IN ROWS: the bytes of a word; slices of bytes that a call builds itself, told by a function.
-/
import Derived.Test.YtkijgadkgfapgaaFt
import Derived.OwnWalk
import Derived.Below
import Derived.Lib.Hide
namespace Go.Proofs.Ytkijgadkgfapgaa
open Go.ChangeShapes Go.WideShapes Go.ChangeAt Go.RowKit
/-- the bytes of a word, the highest first -/
def byW (r : Nat) : Nat → Int
  | 0 => (r : Int) / 16777216 % 256
  | 1 => (r : Int) / 65536 % 256
  | 2 => (r : Int) / 256 % 256
  | _ => (r : Int) % 256
theorem byW_By (r n : Nat) : ByF n (byW r) := fun j _ => by
  unfold byW
  split <;> omega
/-- n cells of bytes -/
def rowU (q : Nat → Int) (n : Nat) : List Value := (List.range n).map fun j => .int .u8 (q j)
theorem rowU_len (q : Nat → Int) (n : Nat) : (rowU q n).length = n := by simp [rowU]
theorem rowU_get (q : Nat → Int) (n j : Nat) (h : j < n) : (rowU q n)[j]? = some (.int .u8 (q j)) := by simp [rowU, h]
theorem rowU_congr {q r : Nat → Int} {n : Nat} (h : ∀ j, j < n → q j = r j) : rowU q n = rowU r n := by
  unfold rowU
  refine List.map_congr_left fun j hj => ?_
  rw [h j (by simpa using hj)]
theorem rowU_one (q : Nat → Int) (n : Nat) : ∀ u ∈ rowU q n, u.oneCell' = true := by
  intro u hu
  obtain ⟨j, _, rfl⟩ := List.mem_map.1 hu
  rfl
/-- q up to n, then p -/
def catU (q : Nat → Int) (n : Nat) (p : Nat → Int) : Nat → Int := fun j => if j < n then q j else p (j - n)
theorem catU_lo {q p : Nat → Int} {n j : Nat} (h : j < n) : catU q n p j = q j := if_pos h
theorem catU_hi (q p : Nat → Int) (n j : Nat) : catU q n p (n + j) = p j := by unfold catU; rw [if_neg (by omega), Nat.add_sub_cancel_left]
theorem rowU_cat (q p : Nat → Int) (n m : Nat) : rowU q n ++ rowU p m = rowU (catU q n p) (n + m) := by
  apply List.ext_getElem?
  intro j
  by_cases h : j < n
  · rw [List.getElem?_append_left (by rw [rowU_len]; exact h), rowU_get _ _ _ h, rowU_get _ _ _ (by omega), catU_lo h]
  · rw [List.getElem?_append_right (by rw [rowU_len]; omega), rowU_len]
    by_cases h2 : j < n + m
    · rw [rowU_get _ _ _ (by omega), rowU_get _ _ _ h2]
      unfold catU
      rw [if_neg h]
    · rw [List.getElem?_eq_none (by rw [rowU_len]; omega), List.getElem?_eq_none (by rw [rowU_len]; omega)]
theorem rowU_succ (q : Nat → Int) (n : Nat) : rowU q n ++ [.int .u8 (q n)] = rowU q (n + 1) := by
  unfold rowU
  rw [List.range_succ, List.map_append]
  rfl
theorem rowU_zero (q : Nat → Int) : rowU q 0 = [] := rfl
/-- v is a slice of the call's own that holds n bytes q -/
def OwnU (base : Nat) (v : Value) (n : Nat) (q : Nat → Int) (w : World) : Prop := w.ownsRow base 5 1 v n (rowU q n)
theorem OwnU.alloc {base : Nat} {v : Value} {n : Nat} {q : Nat → Int} {w : World} (h : OwnU base v n q w) (o : Obj) : OwnU base v n q (w.alloc o) := World.ownsRow.alloc h o
theorem OwnU.congr {base : Nat} {v : Value} {n : Nat} {q r : Nat → Int} {w : World} (h : OwnU base v n q w) (e : ∀ j, j < n → q j = r j) : OwnU base v n r w := by
  unfold OwnU at *
  rw [← rowU_congr e]; exact h
theorem OwnU.base {base b2 : Nat} {v : Value} {n : Nat} {q : Nat → Int} {w : World} (hb : base ≤ b2) (h : OwnU b2 v n q w) : OwnU base v n q w := by
  refine ⟨h.1, ?_⟩
  rcases h.2 with h0 | ⟨g, cap, cur, h1, h2, h3⟩
  · exact .inl h0
  · exact .inr ⟨g, cap, cur, h1, Nat.le_trans hb h2, h3⟩
theorem OwnU.nil (base : Nat) (q : Nat → Int) (w : World) : OwnU base (.slice none 0 0) 0 q w := World.ownsRow_nil _ _ _ _
theorem OwnU.form {base : Nat} {v : Value} {n : Nat} {q : Nat → Int} {w : World} (h : OwnU base v n q w) (hn : 0 < n) : ∃ g cap, v = .slice (some ⟨g, 0, none⟩) n cap ∧ n ≤ cap ∧ base ≤ g ∧ g < w.heap.size ∧ ∀ j, j < n → w.cell? ⟨g, j, none⟩ = some (.int .u8 (q j)) := by
  have hlt := h.lt
  rcases h.2 with ⟨_, h0⟩ | ⟨g, cap, cur, rfl, hb, hg, h3, _⟩
  · omega
  · refine ⟨g, cap, rfl, h3, hb, (hlt g rfl).2, fun j hj => ?_⟩
    rw [h.cellAt j (by omega)]
    rw [← rowU_get q n j hj, List.getElem?_eq_getElem (by rw [rowU_len]; exact hj)]
theorem info_u8' : (Try.prog.info? 5).map (fun i => (i.zero, i.size, i.bytes)) = some (some (.int .u8 0), 1, 1) := by kernel_rfl
theorem cells4_at (w : World) (r : Nat) : ∀ j u, (rowU (byW r) 4)[j]? = some u → (w.alloc (.cells #[.int .u8 ((r : Int) / 16777216 % 256), .int .u8 ((r : Int) / 65536 % 256), .int .u8 ((r : Int) / 256 % 256), .int .u8 ((r : Int) % 256)] 5)).cell? ((⟨w.heap.size, 0, none⟩ : Addr).add j) = some u := by
  intro j u h
  have e : (⟨w.heap.size, 0, none⟩ : Addr).add j = ⟨w.heap.size, j, none⟩ := by rw [Go.WideShapes.add_plain, Nat.zero_add]
  rw [e, World.cell?_alloc_new]
  match j, h with
  | 0, h => exact h
  | 1, h => exact h
  | 2, h => exact h
  | 3, h => exact h
  | k + 4, h => rw [List.getElem?_eq_none (by rw [rowU_len]; omega)] at h; cases h
/-- append of cells that lie behind an address -/
theorem wpList_append_u {ops : Array Oper} {rest : List Oper} {o : Oper} {a : Act} {W : World} {Q : Exit → Act → World → Prop} (hgd : o.guard = none) (s x : Operand)
    (ho : o.op = .call { callee := .builtin .append, args := #[s, x], argTypes := #[45, 45] })
    (base : Nat) (v : Value) (n : Nat) (q : Nat → Int) (hs : a.eval s = v) (hown : OwnU base v n q W) (g off m c : Nat) (p : Nat → Int) (hx : a.eval x = .slice (some ⟨g, off, none⟩) m c)
    (hc : ∀ j, j < m → W.cell? ⟨g, off + j, none⟩ = some (.int .u8 (p j))) (hl : n + m ≤ 100000000) (hbase : base ≤ W.heap.size)
    (w0 : World) (hb : Below base w0 W)
    (h : ∀ v' w', OwnU base v' (n + m) (catU q n p) w' → Below base w0 w' → wpList Try.prog ops Q rest (a.put o.dst v') w') : wpList Try.prog ops Q (o :: rest) a W := by
  obtain ⟨i0, hi, hz0, hz1, hz2⟩ := info_parts info_u8'
  refine wpList_append_own W hgd s x 45 ho base 5 i0 (.int .u8 0) 1 1 Try.underlying45 hi hz0 hz1 hz2 rfl (by decide) v n (rowU q n) hs hown ⟨g, off, none⟩ m c (rowU p m) hx (by rw [rowU_len, Nat.mul_one]) ?_ (rowU_one p m) (by unfold maxLen; omega) (by omega) hbase ?_
  · intro j u hj
    have hlt : j < m := by
      rcases Nat.lt_or_ge j m with h | h
      · exact h
      · rw [List.getElem?_eq_none (by rw [rowU_len]; exact h)] at hj; cases hj
    rw [rowU_get _ _ _ hlt] at hj
    rw [Go.WideShapes.add_plain, hc j hlt]; exact hj
  · intro v' w' h1 h2 _
    refine h v' w' ?_ ?_
    · unfold OwnU
      rw [← rowU_cat]
      exact h1
    · exact hb.grown h2 hbase (fun k hk => (World.ownsRow.lt hown k hk).1)
/-- a slice that is full grows: a row of the call's own -/
theorem wpList_append_full {ops : Array Oper} {rest : List Oper} {o : Oper} {a : Act} {W : World} {Q : Exit → Act → World → Prop} (hgd : o.guard = none) (s x : Operand)
    (ho : o.op = .call { callee := .builtin .append, args := #[s, x], argTypes := #[45, 45] })
    (g0 off0 n : Nat) (q : Nat → Int) (hs : a.eval s = .slice (some ⟨g0, off0, none⟩) n n) (hq : ∀ j, j < n → W.cell? ⟨g0, off0 + j, none⟩ = some (.int .u8 (q j))) (g off m c : Nat) (p : Nat → Int) (hx : a.eval x = .slice (some ⟨g, off, none⟩) m c)
    (hc : ∀ j, j < m → W.cell? ⟨g, off + j, none⟩ = some (.int .u8 (p j))) (hm : 0 < m) (hl : n + m ≤ 100000) (base : Nat) (hbase : base ≤ W.heap.size)
    (w0 : World) (hb : Below base w0 W)
    (h : ∀ v' w', OwnU base v' (n + m) (catU q n p) w' → Below base w0 w' → wpList Try.prog ops Q rest (a.put o.dst v') w') : wpList Try.prog ops Q (o :: rest) a W := by
  obtain ⟨i0, hi, hz0, hz1, hz2⟩ := info_parts info_u8'
  have e1 : ∀ j u, (rowU q n)[j]? = some u → W.cell? ((⟨g0, off0, none⟩ : Addr).add j) = some u := fun j u hj => by
    have hlt : j < n := by
      rcases Nat.lt_or_ge j n with h | h
      · exact h
      · rw [List.getElem?_eq_none (by rw [rowU_len]; exact h)] at hj; cases hj
    rw [rowU_get _ _ _ hlt] at hj
    rw [Go.WideShapes.add_plain, hq j hlt]; exact hj
  have e2 : ∀ j u, (rowU p m)[j]? = some u → W.cell? ((⟨g, off, none⟩ : Addr).add j) = some u := fun j u hj => by
    have hlt : j < m := by
      rcases Nat.lt_or_ge j m with h | h
      · exact h
      · rw [List.getElem?_eq_none (by rw [rowU_len]; exact h)] at hj; cases hj
    rw [rowU_get _ _ _ hlt] at hj
    rw [Go.WideShapes.add_plain, hc j hlt]; exact hj
  have hr := run_append_grow (P := Try.prog) W 45 o.type 5 i0 (.int .u8 0) Try.underlying45 hi hz0 ⟨g0, off0, none⟩ n n (rowU q n) (by rw [rowU_len, hz1, Nat.mul_one]) e1 ⟨g, off, none⟩ m c (rowU p m) (by rw [rowU_len, hz1, Nat.mul_one]) e2 (by omega) (by omega) (growslice_fits (by omega) (by rw [hz2]; omega))
  have hcm : grownCap W (n + m) n 5 ≤ maxLen := grownCap_le_maxLen W (n + m) n 5 (by unfold maxLen; omega)
  have hge := grownCap_ge W (n + m) n 5
  obtain ⟨C, hC⟩ : ∃ C, grownCap W (n + m) n 5 = C := ⟨_, rfl⟩
  rw [hC] at hr hcm hge
  have hzc : (Value.int .u8 0).cells = #[Value.int .u8 0] := rfl
  refine wpList_plain hgd fun K hK => ?_
  unfold Oper.wp execOp
  simp only [ho, resolve, invoke, builtin, Sem.run_bind, Sem.run_pure, Result.andThen_ok, List.map_toArray, List.map_cons, List.map_nil, hs, hx, hr]
  refine hK _ _ (h _ _ ⟨by rw [rowU_len, Nat.mul_one], .inr ⟨W.heap.size, _, _, rfl, hbase, heap_alloc_new W.drew _, hge, hcm, ?_, ?_⟩⟩ ?_)
  · simp only [Array.size_append, List.size_toArray, size_zeroCells, rowU_len, hzc]
    simp
    omega
  · simp only [Array.toList_append, List.append_assoc]
    rw [← List.append_assoc, rowU_cat, Nat.mul_one]
    have e3 := rowU_len (catU q n p) (n + m)
    rw [List.take_append_of_le_length (by rw [e3]; exact Nat.le_refl _), List.take_of_length_le (by rw [e3]; exact Nat.le_refl _)]
  · exact (hb.drew).alloc hbase _
end Go.Proofs.Ytkijgadkgfapgaa
