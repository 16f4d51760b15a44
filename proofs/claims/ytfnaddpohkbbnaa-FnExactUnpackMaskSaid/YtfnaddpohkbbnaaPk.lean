/-
  CONTRACTS: PackMask on both sides.
-/
import Derived.Test.YtfnaddpohkbbnaaOr
import Derived.Test.YtfnaddpohkbbnaaPr
namespace Go.Proofs.Ytfnaddpohkbbnaa
open Go.ChangeShapes Go.WideShapes Go.ChangeAt Go.RowKit
/-- the runs that are at an end, what the run that goes on is of, and how long it is -/
def pkS (s : List Nat × Bool × Nat) (b : Bool) : List Nat × Bool × Nat := if b = s.2.1 then (s.1, s.2.1, s.2.2 + 1) else (s.1 ++ [s.2.2], b, 1)
def pkK (g : Nat → Bool) (k : Nat) : List Nat × Bool × Nat := ((List.range k).map g).foldl pkS ([], false, 0)
theorem pkK_zero (g : Nat → Bool) : pkK g 0 = ([], false, 0) := rfl
theorem pkK_succ (g : Nat → Bool) (k : Nat) : pkK g (k + 1) = pkS (pkK g k) (g k) := by simp [pkK, List.range_succ]
theorem pkK_same {g : Nat → Bool} {k : Nat} {l : List Nat} {on : Bool} {n : Nat} (h : pkK g k = (l, on, n)) (hb : g k = on) : pkK g (k + 1) = (l, on, n + 1) := by rw [pkK_succ, h]; unfold pkS; rw [if_pos hb]
theorem pkK_other {g : Nat → Bool} {k : Nat} {l : List Nat} {on : Bool} {n : Nat} (h : pkK g k = (l, on, n)) (hb : g k ≠ on) : pkK g (k + 1) = (l ++ [n], !on, 1) := by
  rw [pkK_succ, h]; unfold pkS; rw [if_neg hb]
  cases hg : g k <;> cases on <;> simp_all
theorem pkK_bound (g : Nat → Bool) (k : Nat) : (pkK g k).1.length ≤ k ∧ (pkK g k).2.2 ≤ k ∧ ∀ n ∈ (pkK g k).1, n ≤ k := by
  induction k with
  | zero => simp [pkK]
  | succ k ih =>
    obtain ⟨h1, h2, h3⟩ := ih
    rw [pkK_succ]
    unfold pkS
    split
    · exact ⟨by simp; omega, by simp; omega, fun n hn => by have := h3 n hn; omega⟩
    · refine ⟨by simp; omega, by simp, fun n hn => ?_⟩
      rw [List.mem_append, List.mem_singleton] at hn
      rcases hn with hn | rfl
      · have := h3 n hn; omega
      · omega
def bytesN (l : List Nat) : List Value := l.map fun n : Nat => Value.int .u8 (n : Int)
theorem bytesN_snoc (l : List Nat) (n : Nat) : bytesN (l ++ [n]) = bytesN l ++ [.int .u8 (n : Int)] := by simp [bytesN]
theorem info_byte : (Try.prog.info? 5).map (fun i => (i.zero, i.size, i.bytes)) = some (some (.int .u8 0), 1, 1) := by kernel_rfl
abbrev YS : TypeId := 29
/-- 'out = append(out, b)' -/
theorem wpList_append_u8 {ops : Array Oper} {rest : List Oper} {o : Oper} {a : Act} {W : World} {Q : Exit → Act → World → Prop} (hgd : o.guard = none) (s x : Operand)
    (ho : o.op = .call { callee := .builtin .append, args := #[s, x], argTypes := #[YS, YS] })
    (base : Nat) (v : Value) (n : Nat) (xs : List Value) (b : Int) (hs : a.eval s = v) (hown : W.ownsRow base 5 1 v n xs) (m : Nat) (hm : W.heap.size = m) (hx : a.eval x = .slice (some ⟨m, 0, none⟩) 1 1)
    (hl : n ≤ 100000000) (hbase : base ≤ W.heap.size)
    (h : ∀ v' w', Hid (w'.ownsRow base 5 1 v' (n + 1) (xs ++ [.int .u8 b])) → Hid (Below base W w') → wpList Try.prog ops Q rest (a.put o.dst v') w') : wpList Try.prog ops Q (o :: rest) a (W.alloc (.cells #[.int .u8 b] 5)) := by
  subst hm
  obtain ⟨i0, hi, hz0, hz1, hz2⟩ := info_parts info_byte
  refine wpList_append_own _ hgd s x YS ho base 5 i0 (.int .u8 0) 1 1 Try.underlying29 hi hz0 hz1 hz2 rfl (by decide) v n xs hs (own_allocM hown _) ⟨W.heap.size, 0, none⟩ 1 1 [.int .u8 b] hx rfl ?_ ?_ (by unfold maxLen; omega) (by omega) (by simp; omega) ?_
  · intro j u hj
    match j, hj with
    | 0, hj => simp at hj; subst hj; exact Lib.cell_of_heap (World.alloc_heap_new W _) 0
    | j + 1, hj => simp at hj
  · intro u hu; simp at hu; subst hu; rfl
  · intro v' w' h1 h2 _
    exact h v' w' (Lib.hid h1) (Lib.hid (((Below.refl base W).alloc hbase _).grown h2 (by simp; omega) (fun k hk => (World.ownsRow.lt hown k hk).1)))
def PkPost (f : Nat → Int) (w : World) (e : Ending) (w' : World) : Prop := ∃ v, e = .returned v ∧ w'.ownsRow w.heap.size 5 1 v (pkK (bitR f) 256).1.length (bytesN (pkK (bitR f) 256).1) ∧ Below w.heap.size w w'
theorem u8_nat {n : Nat} (h : n ≤ 255) : IntKind.u8.wrap (n : Int) = (n : Int) := by simp [IntKind.wrap, IntKind.bits, IntKind.signed]; omega
theorem own_mono' {w : World} {base base' : Nat} {e : TypeId} {size : Nat} {v : Value} {n : Nat} {xs : List Value} (hb : base' ≤ base) (h : w.ownsRow base e size v n xs) : w.ownsRow base' e size v n xs := by
  obtain ⟨h1, h2⟩ := h
  refine ⟨h1, ?_⟩
  rcases h2 with h | ⟨g, cap, cur, hv, hg, h⟩
  · exact .inl h
  · exact .inr ⟨g, cap, cur, hv, Nat.le_trans hb hg, h⟩
set_option maxRecDepth 20000 in
set_option maxHeartbeats 2000000 in
theorem spack_any (f : Nat → Int) (hf : MB f) (w : World) : Calls Try.prog 18 #[.agg (M16 f)] w (PkPost f w) := by
  unfold PkPost
  have S0 : ((w.alloc (.cells (M16 f) 24)).alloc (.cells #[] 5)).heap[w.heap.size]? = some (.cells (M16 f) 24 (0, 0)) := (Below.heap_alloc _ _ _ (by simp)).trans (World.alloc_heap_new w _)
  have SB : Below w.heap.size w ((w.alloc (.cells (M16 f) 24)).alloc (.cells #[] 5)) := ((Below.refl _ w).alloc (Nat.le_refl _) _).alloc (by simp) _
  have SO : ((w.alloc (.cells (M16 f) 24)).alloc (.cells #[] 5)).ownsRow (w.heap.size + 1) 5 1 (.slice (some ⟨w.heap.size + 1, 0, none⟩) 0 0) 0 [] := by
    have := World.ownsRow_made (base := w.heap.size + 1) (size := 1) (e := 5) (w.alloc (.cells (M16 f) 24)) #[] 0 (by simp) (by unfold maxLen; omega) rfl
    rwa [World.size_alloc] at this
  have H0 := Lib.hid S0
  have HB := Lib.hid SB
  have HO := Lib.hid SO
  have HF := Lib.hid hf
  have PZ := Lib.hid (pkK_zero (bitR f))
  clear S0 SB SO hf
  go_enter Try.func18, Try.ntmps18
  go_wp2
  generalize (w.alloc (.cells (M16 f) 24)).alloc (.cells #[] 5) = w1 at H0 HB HO ⊢
  go_loopw [3, 4, 5, 6] (fun v on run i wr => ∃ k : Nat, k ≤ 256 ∧ i = .int .i64 (k : Int) ∧ (∃ l b n, pkK (bitR f) k = (l, b, n) ∧ on = .bool b ∧ run = .int .i64 (n : Int) ∧ wr.ownsRow (w.heap.size + 1) 5 1 v l.length (bytesN l)) ∧ Below w.heap.size w wr ∧ wr.heap[w.heap.size]? = some (.cells (M16 f) 24 (0, 0))) (fun _ _ _ i _ => 256 - (intOf i).toNat)
  case atStart => exact ⟨0, by omega, rfl, ⟨_, _, _, PZ.out, rfl, rfl, HO.out⟩, HB.out, H0.out⟩
  case round =>
    obtain ⟨k, hk, rfl, ⟨l, b, n, hpk, rfl, rfl, hO⟩, hB, h0⟩ := hrel
    have KO := Lib.hid hO
    have KB := Lib.hid hB
    have K0 := Lib.hid h0
    clear hO hB h0 HO HB H0
    by_cases hlt : k < 256
    · have tk : (k : Int) < 256 := by omega
      have HK := Lib.hid hlt
      obtain ⟨x, y, hx, hy, hxy⟩ : ∃ x y, x < 16 ∧ y < 16 ∧ k = 16 * y + x := ⟨k % 16, k / 16, by omega, by omega, by omega⟩
      have q1 : (k : Int) / 16 = (y : Int) := by omega
      have q2 : (k : Int) % 16 = (x : Int) := by omega
      have MH := Lib.hid (l07Has_any w.heap.size f HF.out x y hx hy wr ((Lib.cell_of_heap K0.out y).trans (arr_get _ _ _ _ hy)))
      have hbit : bitR f k = hasF f x y := by rw [hxy]; exact bitR_at f hx
      obtain ⟨bl, bn, bm⟩ := pkK_bound (bitR f) k
      rw [hpk] at bl bn
      have LN : Hid (l.length ≤ 100000000) := Lib.hid (by have : l.length ≤ k := bl; omega)
      have bn' : n ≤ k := bn
      have NI : (n : Int) ≤ 255 := by omega
      have wn := u8_nat (n := n) (by omega)
      have LZ : Hid (w.heap.size + 1 ≤ wr.heap.size) := Lib.hid (Array.getElem?_eq_some_iff.1 K0.out).1
      rw [← hbit] at MH
      have P1 := Lib.hid fun h : bitR f k = b => pkK_same hpk h
      have P2 := Lib.hid fun h : bitR f k ≠ b => pkK_other hpk h
      clear bl bn bm bn' hpk hxy hbit hlt hk hx hy
      generalize bitR f k = c at MH P1 P2
      by_cases hc : c = b
      · subst hc
        have NX := Lib.hid (P1.out rfl)
        have tb : (c != c) = false := by simp
        clear P1 P2
        go_wp2_with ((with_reducible refine MH.out.mono ?_); rintro e w' ⟨rfl, rfl⟩)
        go_roundw
        case rel => exact ⟨k + 1, HK.out, by go_num, ⟨_, _, _, NX.out, rfl, by go_num, KO.out⟩, KB.out, K0.out⟩
        case measure => have := HK.out; simp [intOf]; omega
      · have NX := Lib.hid (P2.out hc)
        have tb : (c == b) = false := by simpa using hc
        have tb2 : (!c == b) = true := by cases c <;> cases b <;> simp_all
        have SN := Lib.hid (bytesN_snoc l n)
        have SL : Hid ((l ++ [n]).length = l.length + 1) := Lib.hid (by simp)
        obtain ⟨kn, hkn⟩ : ∃ kn, l.length = kn := ⟨_, rfl⟩
        rw [hkn] at KO LN SL
        clear P1 P2 hc hkn
        generalize bytesN l = xs at KO SN
        go_wp2_with (first | ((with_reducible refine MH.out.mono ?_); rintro e w' ⟨rfl, rfl⟩) | (at_builtin; refine wpList_append_u8 rfl (.tmp 19) (.tmp 22) rfl (w.heap.size + 1) _ kn xs (n : Int) rfl KO.out wr.heap.size rfl rfl LN.out LZ.out ?_; intro v' w3 hown' hbel'))
        have B3 := Lib.hid (KB.out.trans (hbel'.out.mono (by omega)))
        have G3 := Lib.hid ((hbel'.out.block w.heap.size (by omega)).trans K0.out)
        go_roundw
        case rel => exact ⟨k + 1, HK.out, by go_num, ⟨_, _, _, NX.out, rfl, by go_num, by rw [SL.out, SN.out]; exact hown'.out⟩, B3.out, G3.out⟩
        case measure => have := HK.out; simp [intOf]; omega
    · obtain rfl : k = 256 := by omega
      have PE := Lib.hid hpk
      clear hlt hk hpk
      go_wp2
      go_ret
      exact ⟨_, rfl, by rw [PE.out]; exact own_mono' (by omega) KO.out, KB.out⟩
set_option maxRecDepth 20000 in
set_option maxHeartbeats 2000000 in
theorem ipack_any (f : Nat → Int) (hf : MB f) (w : World) : Calls Try.prog 20 #[.agg (M16 f)] w (PkPost f w) := by
  unfold PkPost
  have C0 : Hid ((w.alloc (.cells (M16 f) 24)).heap[w.heap.size]? = some (.cells (M16 f) 24 (0, 0))) := Lib.hid (World.alloc_heap_new w _)
  have B0 : Hid (Below w.heap.size w (w.alloc (.cells (M16 f) 24))) := Lib.hid ((Below.refl _ w).alloc (Nat.le_refl _) _)
  have Z0 : Hid ((w.alloc (.cells (M16 f) 24)).heap.size = w.heap.size + 1) := Lib.hid (by simp)
  have IR := Lib.hid (fun w => inOneRow_any f hf w)
  have PZ := Lib.hid (pkK_zero (bitR f))
  clear hf
  go_enter Try.func20, Try.ntmps20
  go_wp2_with (refine wpList_load_row rfl 24 _ rfl w.heap.size rfl 24 _ _ _ C0.out Try.underlying24 rfl (mask_info _ (arr_size _ _ _)) ?_)
  generalize w.alloc (.cells (M16 f) 24) = w1 at C0 B0 Z0 ⊢
  refine (IR.out _).mono ?_
  rintro e w2 ⟨v, rfl, hO, b2⟩
  obtain ⟨g, cap, rfl, hg⟩ : ∃ g cap, v = .slice (some ⟨g, 0, none⟩) 256 cap ∧ g < w2.heap.size := by
    rcases hO.2 with ⟨_, h0⟩ | ⟨g, cap, cur, rfl, _⟩
    · omega
    · exact ⟨g, cap, rfl, (hO.lt g rfl).2⟩
  have RC : Hid (∀ i, i < 256 → w2.cell? ⟨g, i, none⟩ = some (.bool (bitR f i))) := Lib.hid fun i hi => by rw [hO.cellAt i (by omega)]; exact rowV_get _ _ _ hi
  have B2 := Lib.hid (B0.out.trans (b2.mono (by have := Z0.out; omega)))
  have HG := Lib.hid hg
  have S2 : Hid (w.heap.size ≤ w2.heap.size) := Lib.hid (by have := b2.size; have := Z0.out; omega)
  clear hO b2 C0 B0 Z0 hg IR
  go_wp2
  go_loopw [3, 4, 5, 11] (fun v on run i wr => ∃ k : Nat, k ≤ 256 ∧ i = .int .i64 (k : Int) ∧ (∃ l b n, pkK (bitR f) k = (l, b, n) ∧ on = .bool b ∧ run = .int .i64 (n : Int) ∧ wr.ownsRow w2.heap.size 5 1 v l.length (bytesN l)) ∧ Below w2.heap.size w2 wr) (fun _ _ _ i _ => 256 - (intOf i).toNat)
  case atStart => exact ⟨0, by omega, rfl, ⟨_, _, _, PZ.out, rfl, rfl, World.ownsRow_nil _ _ _ _⟩, Below.refl _ _⟩
  case round =>
    obtain ⟨k, hk, rfl, ⟨l, b, n, hpk, rfl, rfl, hO⟩, hB⟩ := hrel
    have KO := Lib.hid hO
    have KB := Lib.hid hB
    clear hO hB
    by_cases hlt : k < 256
    · have tk : (k : Int) < 256 := by omega
      have HK := Lib.hid hlt
      have cx : wr.cell? ⟨g, k, none⟩ = some (.bool (bitR f k)) := (KB.out.cell (p := ⟨g, k, none⟩) HG.out).trans (RC.out k hlt)
      obtain ⟨bl, bn, bm⟩ := pkK_bound (bitR f) k
      rw [hpk] at bl bn
      have LN : Hid (l.length ≤ 100000000) := Lib.hid (by have : l.length ≤ k := bl; omega)
      have bn' : n ≤ k := bn
      have NI : (n : Int) ≤ 255 := by omega
      have wn := u8_nat (n := n) (by omega)
      have P1 := Lib.hid fun h : bitR f k = b => pkK_same hpk h
      have P2 := Lib.hid fun h : bitR f k ≠ b => pkK_other hpk h
      clear bl bn bm bn' hpk hlt hk
      generalize bitR f k = c at cx P1 P2
      by_cases hc : c = b
      · subst hc
        have NX := Lib.hid (P1.out rfl)
        have tb : (c != c) = false := by simp
        clear P1 P2
        go_wp2
        go_roundw
        case rel => exact ⟨k + 1, HK.out, by go_num, ⟨_, _, _, NX.out, rfl, by go_num, KO.out⟩, KB.out⟩
        case measure => have := HK.out; simp [intOf]; omega
      · have NX := Lib.hid (P2.out hc)
        have tb : (c == b) = false := by simpa using hc
        have tb2 : (!c == b) = true := by cases c <;> cases b <;> simp_all
        have cb : Hid (c = !b) := Lib.hid (by cases c <;> cases b <;> simp_all)
        have SN := Lib.hid (bytesN_snoc l n)
        have SL : Hid ((l ++ [n]).length = l.length + 1) := Lib.hid (by simp)
        obtain ⟨kn, hkn⟩ : ∃ kn, l.length = kn := ⟨_, rfl⟩
        rw [hkn] at KO LN SL
        clear P1 P2 hc hkn
        generalize bytesN l = xs at KO SN
        go_wp2_with (at_builtin; refine wpList_append_u8 rfl (.tmp 18) (.tmp 21) rfl w2.heap.size _ kn xs (n : Int) rfl KO.out wr.heap.size rfl rfl LN.out KB.out.size ?_; intro v' w3 hown' hbel')
        have B3 := Lib.hid (KB.out.trans hbel'.out)
        go_roundw
        case rel => exact ⟨k + 1, HK.out, by go_num, ⟨_, _, _, NX.out, by rw [cb.out], rfl, by rw [SL.out, SN.out]; exact hown'.out⟩, B3.out⟩
        case measure => have := HK.out; simp [intOf]; omega
    · obtain rfl : k = 256 := by omega
      have PE := Lib.hid hpk
      clear hlt hk hpk
      go_wp2
      go_ret
      exact ⟨_, rfl, by rw [PE.out]; exact own_mono' S2.out KO.out, B2.out.trans (KB.out.mono S2.out)⟩
end Go.Proofs.Ytfnaddpohkbbnaa
