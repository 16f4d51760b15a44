/-
  CONTRACT: the specification's reduced word (a stack of bytes).
-/
import Derived.Test.YtdcphheeapmjcaaWdr
namespace Go.Proofs.Ytdcphheeapmjcaa
open Go.ChangeShapes Go.WideShapes Go.ChangeAt Go.RowKit
open Wd
theorem bytesC_at (l : List UInt8) (j : Nat) (h : j < l.length) : (bytesC l)[j]? = some (.int .u8 (((l[j]'h).toNat : Nat) : Int)) := by simp [bytesC, h]
theorem addr_off (g off j : Nat) : (⟨g, off, none⟩ : Addr).add j = ⟨g, off + j, none⟩ := by cases j <;> simp [Addr.add]
/-- 'out = append(out, c)', and the slice is not nil -/
theorem wpList_append_b {ops : Array Oper} {rest : List Oper} {o : Oper} {a : Act} {W : World} {Q : Exit → Act → World → Prop} (hgd : o.guard = none) (s x : Operand)
    (ho : o.op = .call { callee := .builtin .append, args := #[s, x], argTypes := #[47, 47] })
    (base : Nat) (v : Value) (l : List UInt8) (c : UInt8) (hs : a.eval s = v) (hown : OwnB base v l W) (g : Nat) (hx : a.eval x = .slice (some ⟨g, 0, none⟩) 1 1)
    (hc : W.cell? ⟨g, 0, none⟩ = some (.int .u8 (c.toNat : Int))) (hl : l.length ≤ 100000000) (hbase : base ≤ W.heap.size)
    (w0 : World) (hb : Below base w0 W) (hn : v ≠ .slice none 0 0)
    (h : ∀ v' w', OwnB base v' (l ++ [c]) w' → Below base w0 w' → v' ≠ .slice none 0 0 → wpList Try.prog ops Q rest (a.put o.dst v') w') : wpList Try.prog ops Q (o :: rest) a W := by
  obtain ⟨i0, hi, hz0, hz1, hz2⟩ := info_parts info_u8
  refine wpList_append_own W hgd s x 47 ho base 5 i0 (.int .u8 0) 1 1 Try.underlying47 hi hz0 hz1 hz2 rfl (by decide) v l.length (bytesC l) hs hown ⟨g, 0, none⟩ 1 1 [.int .u8 (c.toNat : Int)] hx rfl ?_ ?_ (by unfold maxLen; omega) (by omega) hbase ?_
  · intro j u hj
    match j, hj with
    | 0, hj => simp at hj; subst hj; exact hc
    | j + 1, hj => simp at hj
  · intro u hu; simp at hu; subst hu; rfl
  · intro v' w' h1 h2 h3
    refine h v' w' ?_ ?_ (fun e => hn (h3.1 e).1)
    · unfold OwnB
      rw [List.length_append, ← bytesC_snoc]
      exact h1
    · exact hb.grown h2 hbase (fun k hk => (World.ownsRow.lt hown k hk).1)
/-- what a slice of bytes of the call's own looks like -/
theorem OwnB.form {base : Nat} {v : Value} {l : List UInt8} {w : World} (h : OwnB base v l w) (hn : v ≠ .slice none 0 0) :
    ∃ g cap, v = .slice (some ⟨g, 0, none⟩) l.length cap ∧ base ≤ g ∧ g < w.heap.size ∧ l.length ≤ cap ∧ cap ≤ maxLen ∧ ∀ j (hj : j < l.length), w.cell? ⟨g, j, none⟩ = some (.int .u8 (((l[j]'hj).toNat : Nat) : Int)) := by
  have h' := h
  obtain ⟨h1, h2⟩ := h
  rcases h2 with ⟨rfl, h0⟩ | ⟨g, cap, cur, rfl, hb, hg, hn2, hm, hs, ht⟩
  · exact absurd rfl hn
  · refine ⟨g, cap, rfl, hb, (Array.getElem?_eq_some_iff.1 hg).1, hn2, hm, fun j hj => ?_⟩
    have := World.ownsRow.cells h' (g := g) rfl j _ (bytesC_at l j hj)
    rw [addr_off, Nat.zero_add] at this
    exact this
/-- 'out = out[:len(out)-1]' -/
theorem OwnB.pop {base g n cap : Nat} {l : List UInt8} {w : World} (h : OwnB base (.slice (some ⟨g, 0, none⟩) (n + 1) cap) l w) (hl : l.length = n + 1) : OwnB base (.slice (some ⟨g, 0, none⟩) n cap) l.dropLast w := by
  obtain ⟨h1, h2⟩ := h
  have hd : l.dropLast.length = n := by rw [List.length_dropLast, hl]; rfl
  rcases h2 with ⟨h3, _⟩ | ⟨g', cap', cur, hv, hb, hg, hn2, hm, hs, ht⟩
  · cases h3
  · rw [hl] at hv
    cases hv
    refine ⟨by rw [bytesC_len, Nat.mul_one], .inr ⟨g, cap, cur, by rw [hd], hb, hg, by omega, hm, hs, ?_⟩⟩
    rw [hd, Nat.mul_one]
    have e : cur.toList.take n = (cur.toList.take (l.length * 1)).take n := by rw [List.take_take]; congr 1; omega
    rw [e, ht]
    simp only [bytesC, ← List.map_take]
    rw [List.dropLast_eq_take, hl]; rfl
theorem slice_toB (g k cap p : Nat) (hp : p ≤ k) (hk : k ≤ 4000000) (hc : k ≤ cap) (w : World) : (Instr.slice 47 (.slice (some ⟨g, 0, none⟩) k cap) none (some (.int .i64 (p : Int))) none).run Try.prog w = .ok (.slice (some ⟨g, 0, none⟩) p cap) w := by
  have hs : ∀ w, (sizeOf (Try.prog.elem 47)).run Try.prog w = .ok 1 w := fun w => by kernel_rfl
  rw [run_slice_h (P := Try.prog) (w := w) 47 (some ⟨g, 0, none⟩) k cap (by kernel_rfl) .i64 (p : Int) (by omega) (by omega), hs]
  simp [Result.andThen_ok, sliced, addr_off]
theorem redS_pop {out : List UInt8} {c : UInt8} (h : out.getLast? = some (oth c)) : redS out c = out.dropLast := if_pos h
theorem redS_push {out : List UInt8} {c : UInt8} (h : out.getLast? ≠ some (oth c)) : redS out c = out ++ [c] := if_neg h
structure RedTo (l : List UInt8) (k : Nat) (v : Value) (w0 w : World) : Prop where
  own : OwnB w0.heap.size v (red (l.take k)) w
  ne : v ≠ .slice none 0 0
  bel : Below w0.heap.size w0 w
theorem RedTo.len {l : List UInt8} {k : Nat} (hk : k ≤ l.length) : (red (l.take k)).length ≤ k := by
  have := red_length (l.take k)
  rw [List.length_take] at this
  omega
theorem RedTo.drewN {l : List UInt8} {k : Nat} {v : Value} {w0 w : World} (h : RedTo l k v w0 w) (n : Nat) : RedTo l k v w0 (w.drewN n) := ⟨h.own, h.ne, h.bel.trans ⟨rfl, rfl, rfl, Nat.le_refl _, fun _ _ => rfl⟩⟩
set_option maxHeartbeats 4000000 in
theorem reduce_any (l : List UInt8) (hl : ∀ c ∈ l, isL c = true) (hm : l.length ≤ 4000000) (w : World) :
    Calls Try.prog 89 #[.string (txt l)] w (StrPost (red l) w) := by
  have hs := txt_size l
  have hm' : (l.length : Int) ≤ 4000000 := by omega
  have HL := Lib.hid hl
  have S0 : Hid (RedTo l 0 (.slice (some ⟨w.heap.size, 0, none⟩) 0 0) w (w.alloc (.cells #[] 5))) := Lib.hid ⟨own_start w, by simp, (Below.refl _ _).alloc (Nat.le_refl _) _⟩
  clear hl
  go_enter Try.func89, Try.ntmps89
  go_wp2
  go_loopw [3, 4] (fun v i wr => ∃ k : Nat, k ≤ l.length ∧ i = .int .i64 (k : Int) ∧ RedTo l k v w wr) (fun _ i _ => l.length - (intOf i).toNat)
  case atStart => exact ⟨0, Nat.zero_le _, rfl, S0.out⟩
  case round =>
    obtain ⟨k, hk, rfl, hR⟩ := hrel
    obtain ⟨g, cap, rfl, hg0, hg1, hg2, hg3, hg4⟩ := hR.own.form hR.ne
    have RT := Lib.hid hR
    have C := Lib.hid hg4
    have G2 := Lib.hid hg2
    have LE : Hid ((red (l.take k)).length ≤ k) := Lib.hid (RedTo.len hk)
    clear hR hg0 hg1 hg2 hg3 hg4 S0
    by_cases hlt : k < l.length
    · have hi := idx_txt l k hlt
      have t1 : decide (k < l.length) = true := by simpa using hlt
      have hk' : (k : Int) ≤ 3999999 := by omega
      have RK := Lib.hid (red_take l k hlt)
      have IL : Hid (isL l[k] = true) := Lib.hid (HL.out _ (List.getElem_mem hlt))
      generalize l[k] = c at hi RK IL
      generalize hout : red (l.take k) = out at RT C G2 LE RK ⊢
      have HO := Lib.hid hout
      clear hout
      have hoq : Hid (∀ n, Calls Try.prog 112 #[.int .u8 ((c.toNat : Nat) : Int)] (wr.drewN n) fun e w'' => e = .returned (.int .u8 (((oth c).toNat : Nat) : Int)) ∧ ∃ m, w'' = wr.drewN m) := Lib.hid fun n =>
        (other_any c IL.out _).mono fun e w' ⟨h1, h2⟩ => ⟨h1, n, h2.symm⟩
      have HK := Lib.hid hlt
      clear hlt
      have LEN := LE.out
      cases hn0 : out.length with
      | zero =>
        obtain rfl : out = [] := List.length_eq_zero_iff.1 hn0
        clear hn0 hoq C LE LEN
        have t2 : decide ((0 : Int) < (0 : Int)) = false := rfl
        have RN : Hid (red (l.take (k + 1)) = [] ++ [c]) := Lib.hid (by rw [RK.out]; exact redS_push (by simp))
        clear RK
        go_wp2
        go_quiet (fail)
        generalize hW : wr.drewN nq = w1
        have R1 : Hid (RedTo l k (.slice (some ⟨g, 0, none⟩) 0 cap) w w1) := Lib.hid (by rw [← hW]; exact RT.out.drewN nq)
        have OW : Hid (OwnB w.heap.size (.slice (some ⟨g, 0, none⟩) 0 cap) [] w1) := Lib.hid (by have := R1.out.own; rw [HO.out] at this; exact this)
        clear hW RT
        go_wp2_with (refine wpList_append_b rfl (.tmp 33) (.tmp 37) rfl w.heap.size (.slice (some ⟨g, 0, none⟩) 0 cap) [] c rfl (OW.out.alloc _) w1.heap.size rfl (by simp) (by simp) (by have := R1.out.bel.size; simp; omega) w (R1.out.bel.alloc R1.out.bel.size _) (by simp) ?_; intro v2 w2 o2 b2 n2)
        have R2 : Hid (RedTo l (k + 1) v2 w w2) := Lib.hid ⟨by rw [RN.out]; exact o2, n2, b2⟩
        clear o2 b2 n2
        go_roundw
        case rel => exact ⟨k + 1, HK.out, by go_num, R2.out⟩
        case measure => have := HK.out; simp [intOf]; omega
      | succ n =>
        obtain ⟨z, hz⟩ : ∃ z, out.getLast? = some z := by
          cases h : out.getLast? with
          | none => rw [List.getLast?_eq_none_iff] at h; subst h; simp at hn0
          | some z => exact ⟨z, rfl⟩
        have C1 : wr.cell? ⟨g, n, none⟩ = some (.int .u8 ((z.toNat : Nat) : Int)) := by
          have h1 := C.out n (by omega)
          rw [List.getLast?_eq_getElem?, hn0, Nat.add_sub_cancel, List.getElem?_eq_getElem (by omega)] at hz
          rw [Option.some.inj hz] at h1
          exact h1
        have HN : Hid (out.length = n + 1) := Lib.hid hn0
        have HZ := Lib.hid hz
        rw [hn0] at LE RT G2
        clear hn0 hz C LEN
        have t2 : decide ((0 : Int) < (n : Int) + 1) = true := by simp <;> omega
        have hn' : (n : Int) ≤ 3999999 := by have := LE.out; omega
        by_cases hq : z = oth c
        · have t3 : (((z.toNat : Nat) : Int) == (((oth c).toNat : Nat) : Int)) = true := by rw [hq]; simp
          have RN : Hid (red (l.take (k + 1)) = out.dropLast) := Lib.hid (by rw [RK.out]; exact redS_pop (by rw [HZ.out, hq]))
          clear hq RK
          have hsl := slice_toB g (n + 1) cap n (by omega) (by omega) G2.out
          go_wp2
          go_quiet ((go_at_call 112; exact hoq.out _))
          generalize hW : wr.drewN nq = w1
          have R1 : Hid (RedTo l k (.slice (some ⟨g, 0, none⟩) (n + 1) cap) w w1) := Lib.hid (by rw [← hW]; exact RT.out.drewN nq)
          have OW : Hid (OwnB w.heap.size (.slice (some ⟨g, 0, none⟩) (n + 1) cap) out w1) := Lib.hid (by have := R1.out.own; rw [HO.out] at this; exact this)
          have R2 : Hid (RedTo l (k + 1) (.slice (some ⟨g, 0, none⟩) n cap) w w1) := Lib.hid ⟨by rw [RN.out]; exact OW.out.pop HN.out, by simp, R1.out.bel⟩
          clear hW RT hoq C1 t3
          go_wp2
          go_roundw
          case rel => exact ⟨k + 1, HK.out, by go_num, R2.out⟩
          case measure => have := HK.out; simp [intOf]; omega
        · have t3 : (((z.toNat : Nat) : Int) == (((oth c).toNat : Nat) : Int)) = false := by
            rw [beq_eq_false_iff_ne]
            refine fun h => hq ?_
            exact UInt8.toNat_inj.1 (by omega)
          have RN : Hid (red (l.take (k + 1)) = out ++ [c]) := Lib.hid (by rw [RK.out]; exact redS_push (by rw [HZ.out]; exact fun h => hq (Option.some.inj h)))
          clear hq RK
          go_wp2
          go_quiet ((go_at_call 112; exact hoq.out _))
          generalize hW : wr.drewN nq = w1
          have R1 : Hid (RedTo l k (.slice (some ⟨g, 0, none⟩) (n + 1) cap) w w1) := Lib.hid (by rw [← hW]; exact RT.out.drewN nq)
          have OW : Hid (OwnB w.heap.size (.slice (some ⟨g, 0, none⟩) (n + 1) cap) out w1) := Lib.hid (by have := R1.out.own; rw [HO.out] at this; exact this)
          clear hW RT hoq C1 t3
          have LL : Hid (out.length ≤ 100000000) := Lib.hid (by have := HN.out; omega)
          go_wp2_with (refine wpList_append_b rfl (.tmp 33) (.tmp 37) rfl w.heap.size (.slice (some ⟨g, 0, none⟩) (n + 1) cap) out c rfl (OW.out.alloc _) w1.heap.size rfl (by simp) LL.out (by have := R1.out.bel.size; simp; omega) w (R1.out.bel.alloc R1.out.bel.size _) (by simp) ?_; intro v2 w2 o2 b2 n2)
          have R2 : Hid (RedTo l (k + 1) v2 w w2) := Lib.hid ⟨by rw [RN.out]; exact o2, n2, b2⟩
          clear o2 b2 n2
          go_roundw
          case rel => exact ⟨k + 1, HK.out, by go_num, R2.out⟩
          case measure => have := HK.out; simp [intOf]; omega
    · obtain rfl : k = l.length := by omega
      rw [List.take_length] at RT ⊢
      have O : Hid (OwnB w.heap.size (.slice (some ⟨g, 0, none⟩) (red l).length cap) (red l) wr) := Lib.hid (by have := RT.out.own; rw [List.take_length] at this; exact this)
      have hc := own_string O.out
      have R : Hid (StrPost (red l) w (.returned (.string ⟨(red l).toArray⟩)) wr) := Lib.hid ⟨rfl, RT.out.bel⟩
      clear LE C G2
      go_wp2
      go_ret
      exact R.out
end Go.Proofs.Ytdcphheeapmjcaa
