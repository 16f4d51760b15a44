/-
  CONTRACTS: words that are drawn from bytes (l05Drawn, A2Word), numbers that depend on bytes (a2At), append of bytes.
-/
import Derived.Test.YtdcphheeapmjcaaSrc
import Derived.Test.YtdcphheeapmjcaaGa
import Derived.Test.YtdcphheeapmjcaaBase
import Derived.LoopTactic
import Derived.Deep.Upon
import Derived.Lib.AppendZerosOnto
namespace Go.Proofs.Ytdcphheeapmjcaa
open Go.ChangeShapes Go.WideShapes Go.ChangeAt Go.RowKit
open Wd
theorem SrcAt.later {B p len cap i : Nat} {a : Option Addr} {w w' : World} (h : SrcAt B p a len cap i w) (hb : Below w.heap.size w w') : SrcAt B p a len cap i w' := by
  obtain ⟨⟨seed, hs, hr⟩, h2, h3⟩ := h
  have hlt : p < w.heap.size := (Array.getElem?_eq_some_iff.1 hr).1
  refine ⟨⟨seed, hs, ?_⟩, h2, h3.below (hb.mono (by omega))⟩
  rw [hb.block p hlt]; exact hr
theorem Only.of_below {p : Nat} {w w' : World} (h : Below w.heap.size w w') : Only p w w' := ⟨h.os, h.tape, h.output, h.size, fun j hj _ => h.block j hj⟩
theorem brow_later' {w w' : World} {a : Option Addr} {len : Nat} (h : BRow w.heap.size w a len) (hb : Below w.heap.size w w') : BRow w'.heap.size w' a len := by
  rcases h with h | ⟨b, off, h1, h2, h3⟩
  · exact .inl h
  · refine .inr ⟨b, off, h1, Nat.lt_of_lt_of_le h2 hb.size, fun i hi => ?_⟩
    obtain ⟨c, c0, c1, c2⟩ := h3 i hi
    exact ⟨c, c0, c1, by rw [hb.cell (p := ⟨b, off + i, none⟩) h2]; exact c2⟩
theorem fslice_lz (v : List UInt8) (a b : Nat) (h1 : a ≤ b) (h2 : b ≤ v.length) (x y : Int) (hx : x = (a : Int)) (hy : y = (b : Int)) (w : World) : (Instr.slice 9 (.string (txt v)) (some (.int .i64 x)) (some (.int .i64 y)) none).run Try.prog w = .ok (.string (txt ((v.drop a).take (b - a)))) w := by
  subst hx hy
  have hs := txt_size v
  have he : (txt v).extract a b = txt ((v.drop a).take (b - a)) := by apply ByteArray.ext; simp [txt]
  rw [run_slice_string w 9 (txt v) .i64 .i64 a b Try.underlying9 (by omega) (by omega) (by omega)]
  simp [he]
/-- a letter of the constant text, cut out -/
theorem fslice_one (K : Nat) (hK : K ≤ 7) : ∃ c : UInt8, isL c = true ∧ ∀ w : World, (Instr.slice 9 (.string (⟨#[97, 65, 98, 66, 99, 67, 100, 68]⟩ : ByteArray)) (some (.int .i64 (K : Int))) (some (.int .i64 ((K : Int) + 1))) none).run Try.prog w = .ok (.string (txt [c])) w := by
  have H := fun w => fslice_lz [97, 65, 98, 66, 99, 67, 100, 68] K (K + 1) (by omega) (by simp; omega) (K : Int) ((K : Int) + 1) rfl (by push_cast; rfl) w
  have : K = 0 ∨ K = 1 ∨ K = 2 ∨ K = 3 ∨ K = 4 ∨ K = 5 ∨ K = 6 ∨ K = 7 := by omega
  rcases this with rfl | rfl | rfl | rfl | rfl | rfl | rfl | rfl
  · exact ⟨97, rfl, H⟩
  · exact ⟨65, rfl, H⟩
  · exact ⟨98, rfl, H⟩
  · exact ⟨66, rfl, H⟩
  · exact ⟨99, rfl, H⟩
  · exact ⟨67, rfl, H⟩
  · exact ⟨100, rfl, H⟩
  · exact ⟨68, rfl, H⟩
theorem one_any (B p len cap i : Nat) (a : Option Addr) (hl : len ≤ 4096) (hi : i ≤ 900000) (w : World) (h : SrcAt B p a len cap i w) :
    Calls Try.prog 103 #[.pointer (some ⟨p, 0, none⟩), .int .i64 2] w fun e w' => (∃ (b : Bool) (j : Nat), e = .returned (.bool b) ∧ i ≤ j ∧ j ≤ i + 2 ∧ SrcAt B p a len cap j w') ∧ Only p w w' := by
  have H := Lib.hid h
  clear h
  go_enter Try.func103, Try.ntmps103
  go_wp2_with fail
  refine (pick_any B p len cap i a 2 (by omega) (by omega) hl hi _ H.out).mono ?_
  rintro e w1 ⟨⟨x, j, x0, x1, rfl, hj1, hj2, s1⟩, b1⟩
  have S1 := Lib.hid s1
  have B1 := Lib.hid b1
  clear s1 b1
  go_wp2
  go_ret
  exact ⟨⟨_, j, rfl, hj1, hj2, S1.out⟩, B1.out⟩
def DrawnPost (B p : Nat) (a : Option Addr) (len cap i m : Nat) (w : World) (e : Ending) (w' : World) : Prop :=
  (∃ (l : List UInt8) (j : Nat), (∀ c ∈ l, isL c = true) ∧ l.length ≤ m ∧ e = .returned (.string (txt l)) ∧ i ≤ j ∧ j ≤ i + 200 ∧ SrcAt B p a len cap j w') ∧ Only p w w'
set_option maxHeartbeats 2000000 in
theorem drawn_any (B p len cap i : Nat) (a : Option Addr) (g : Int) (h1 : 1 ≤ g) (h2 : g ≤ 4) (m : Nat) (hm1 : 1 ≤ m) (hm : m ≤ 40) (hl : len ≤ 4096) (hi : i ≤ 800000) (w : World) (h : SrcAt B p a len cap i w) :
    Calls Try.prog 74 #[.pointer (some ⟨p, 0, none⟩), .int .i64 g, .int .i64 (m : Int)] w (DrawnPost B p a len cap i m w) := by
  have H := Lib.hid h
  have HL := Lib.hid hl
  have HI := Lib.hid hi
  have HM1 := Lib.hid hm1
  have hm' : (m : Int) ≤ 40 := by omega
  clear h hl hi hm1
  go_enter Try.func74, Try.ntmps74
  go_wp2_with fail
  refine (pick_any B p len cap i a ((m : Int) + 1) (by have := HM1.out; omega) (by omega) HL.out (by have := HI.out; omega) _ H.out).mono ?_
  rintro e w1 ⟨⟨x, j, x0, x1, rfl, hj1, hj2, s1⟩, b1⟩
  obtain ⟨q0, rfl⟩ : ∃ q : Nat, x = q := ⟨x.toNat, by omega⟩
  have hq0 : q0 ≤ m := by omega
  have Q0 := Lib.hid hq0
  have J0 : Hid (i ≤ j ∧ j ≤ i + 2) := Lib.hid ⟨hj1, hj2⟩
  have S1 := Lib.hid s1
  have B1 := Lib.hid b1
  clear s1 b1 hj1 hj2 x0 x1 hq0
  go_wp2
  go_loopw [7, 8] (fun out k wr => ∃ (l : List UInt8) (q j : Nat), (∀ c ∈ l, isL c = true) ∧ l.length + q ≤ m ∧ out = .string (txt l) ∧ k = .int .i64 (q : Int) ∧ i ≤ j ∧ j ≤ i + 2 + 2 * l.length ∧ SrcAt B p a len cap j wr ∧ Only p w wr) (fun _ k _ => (intOf k).toNat)
  case atStart => exact ⟨[], q0, j, by simp, by simpa using Q0.out, rfl, rfl, J0.out.1, by simpa using J0.out.2, S1.out, B1.out⟩
  case round =>
    obtain ⟨l, q, j2, hlet, hlq, rfl, rfl, hj1, hj2, hs, hb⟩ := hrel
    have LT := Lib.hid hlet
    have LQ := Lib.hid hlq
    have J : Hid (i ≤ j2 ∧ j2 ≤ i + 2 + 2 * l.length) := Lib.hid ⟨hj1, hj2⟩
    have S := Lib.hid hs
    have BB := Lib.hid hb
    clear hlet hj1 hj2 hs hb S1 B1 J0
    have hq40 : (q : Int) ≤ 40 := by omega
    have hsz := txt_size l
    have hl40 : (l.length : Int) ≤ 40 := by omega
    cases q with
    | succ q =>
      clear hlq
      have hq39 : (q : Int) ≤ 39 := by omega
      go_wp2_with fail
      refine (pick_any B p len cap j2 a (2 * g) (by omega) (by omega) HL.out (by have := J.out; have := HI.out; have := LQ.out; omega) _ S.out).mono ?_
      rintro e w2 ⟨⟨x, j3, x0, x1, rfl, hj1, hj2, s2⟩, b2⟩
      obtain ⟨X, rfl⟩ : ∃ X : Nat, x = X := ⟨x.toNat, by omega⟩
      have hX : (X : Int) ≤ 7 := by omega
      have J3 : Hid (j2 ≤ j3 ∧ j3 ≤ j2 + 2) := Lib.hid ⟨hj1, hj2⟩
      have S2 := Lib.hid s2
      have B2 : Hid (Only p w w2) := Lib.hid (BB.out.trans b2)
      clear s2 b2 hj1 hj2 x0 x1 S BB
      obtain ⟨c, hc, SL⟩ := fslice_one X (by omega)
      have HC := Lib.hid hc
      clear hc
      have hs1 : (txt [c]).size = 1 := rfl
      go_wp2
      go_roundw
      case rel =>
        refine ⟨l ++ [c], q, j3, ?_, by have := LQ.out; simp; omega, by rw [txt_app], by go_num, by have := J.out; have := J3.out; omega, by have := J.out; have := J3.out; simp; omega, S2.out, B2.out⟩
        intro d hd
        rcases List.mem_append.1 hd with h | h
        · exact LT.out d h
        · rw [List.mem_singleton.1 h]; exact HC.out
      case measure => simp [intOf]; try omega
    | zero =>
      go_wp2_with fail
      refine (one_any B p len cap j2 a HL.out (by have := J.out; have := HI.out; have := LQ.out; omega) _ S.out).mono ?_
      rintro e w2 ⟨⟨b, j3, rfl, hj1, hj2, s2⟩, b2⟩
      have J3 : Hid (j2 ≤ j3 ∧ j3 ≤ j2 + 2) := Lib.hid ⟨hj1, hj2⟩
      have S2 := Lib.hid s2
      have B2 : Hid (Only p w w2) := Lib.hid (BB.out.trans b2)
      clear s2 b2 hj1 hj2 S BB
      cases b
      · go_wp2
        go_ret
        exact ⟨⟨l, j3, LT.out, by have := LQ.out; omega, rfl, by have := J.out; have := J3.out; omega, by have := J.out; have := J3.out; have := LQ.out; omega, S2.out⟩, B2.out⟩
      · go_wp2_with fail
        refine (reduce_any l LT.out (by omega) _).mono ?_
        rintro e w3 ⟨rfl, b3⟩
        have S3 : Hid (SrcAt B p a len cap j3 w3) := Lib.hid (S2.out.later b3)
        have B3 : Hid (Only p w w3) := Lib.hid (B2.out.trans (Only.of_below b3))
        clear b3
        go_wp2
        go_ret
        exact ⟨⟨red l, j3, red_letters LT.out, by have := LQ.out; have := red_length l; omega, rfl, by have := J.out; have := J3.out; omega, by have := J.out; have := J3.out; have := LQ.out; omega, S3.out⟩, B3.out⟩
/-- a word of at most m letters -/
def WordPost (m : Nat) (w : World) (e : Ending) (w' : World) : Prop := (∃ l : List UInt8, (∀ c ∈ l, isL c = true) ∧ l.length ≤ m ∧ e = .returned (.string (txt l))) ∧ Below w.heap.size w w'
theorem a2word_any (len cap : Nat) (a : Option Addr) (g : Int) (h1 : 1 ≤ g) (h2 : g ≤ 4) (m : Nat) (hm1 : 1 ≤ m) (hm : m ≤ 40) (hl : len ≤ 4096) (w : World) (h : BRow w.heap.size w a len) :
    Calls Try.prog 38 #[.slice a len cap, .int .i64 g, .int .i64 (m : Int)] w (WordPost m w) := by
  have H := Lib.hid h
  clear h
  go_enter Try.func38, Try.ntmps38
  go_wp2_with fail
  refine (from_any len cap a _ H.out).mono ?_
  rintro e w1 ⟨⟨rfl, s1⟩, b1⟩
  have S1 := Lib.hid s1
  have B1 := Lib.hid b1
  clear s1 b1
  go_wp2_with fail
  refine (drawn_any w.heap.size w.heap.size len cap 0 a g h1 h2 m hm1 hm hl (by omega) _ S1.out).mono ?_
  rintro e w2 ⟨⟨l, j, hlet, hlm, rfl, -, -, s2⟩, b2⟩
  have LT := Lib.hid hlet
  have LM := Lib.hid hlm
  have B2 : Hid (Below w.heap.size w w2) := Lib.hid (B1.out.trans (b2.below (Nat.le_refl _) B1.out.size))
  clear hlet hlm s2 b2
  go_wp2
  go_ret
  exact ⟨⟨l, LT.out, LM.out, rfl⟩, B2.out⟩
theorem a2long_any (a : Option Addr) (len cap : Nat) (a2 : Option Addr) (len2 cap2 : Nat) (w : World) :
    Calls Try.prog 37 #[.slice a len cap, .slice a2 len2 cap2] w fun e w' => e = .returned (.bool (decide (3000 < len) || decide (3000 < len2))) ∧ w = w' := by
  by_cases h1 : 3000 < len
  · have t1 : decide (3000 < len) = true := by simp; omega
    go_enter Try.func37, Try.ntmps37
    go_wp2
    go_ret
    exact ⟨by simp [h1], rfl⟩
  · have t1 : decide (3000 < len) = false := by simp; omega
    by_cases h2 : 3000 < len2
    · have t2 : decide (3000 < len2) = true := by simp; omega
      go_enter Try.func37, Try.ntmps37
      go_wp2
      go_ret
      exact ⟨by simp [h1, h2] <;> omega, rfl⟩
    · have t2 : decide (3000 < len2) = false := by simp; omega
      go_enter Try.func37, Try.ntmps37
      go_wp2
      go_ret
      exact ⟨by simp [h1, h2] <;> omega, rfl⟩
theorem a2at_any (a : Option Addr) (len cap k : Nat) (n : Int) (hk : k ≤ 4000) (h1 : 1 ≤ n) (h2 : n ≤ 1000) (w : World) (h : BRow w.heap.size w a len) :
    Calls Try.prog 43 #[.slice a len cap, .int .i64 (k : Int), .int .i64 n] w fun e w' => (∃ y : Int, 0 ≤ y ∧ y < n ∧ e = .returned (.int .i64 y)) ∧ w = w' := by
  by_cases hlt : k < len
  · have t1 : decide ((len : Int) ≤ (k : Int)) = false := by simp; omega
    have t2 : decide (n < (1 : Int)) = false := by simp; omega
    have t0 : (k : Int) < (len : Int) := by omega
    obtain ⟨b, off, rfl, hbB, hcs⟩ : ∃ b off, a = some ⟨b, off, none⟩ ∧ b < w.heap.size ∧ ∀ i, i < len → ∃ c : Int, 0 ≤ c ∧ c ≤ 255 ∧ w.cell? ⟨b, off + i, none⟩ = some (.int .u8 c) := by
      rcases h with h0 | h0
      · omega
      · exact h0
    obtain ⟨c, k0, k1, hc⟩ := hcs k hlt
    clear h hcs
    go_enter Try.func43, Try.ntmps43
    go_wp2
    go_ret
    exact ⟨⟨_, Int.emod_nonneg c (show n ≠ 0 by omega), Int.emod_lt_of_pos c (show 0 < n by omega), rfl⟩, rfl⟩
  · have t1 : decide ((len : Int) ≤ (k : Int)) = true := by simp; omega
    clear h
    go_enter Try.func43, Try.ntmps43
    go_wp2
    go_ret
    exact ⟨⟨0, Int.le_refl _, by omega, rfl⟩, rfl⟩
/-- the bytes of a row -/
theorem brow_list {B : Nat} {w : World} {b : Addr} {len : Nat} (h : BRow B w (some b) len) : ∃ l : List UInt8, l.length = len ∧ ∀ (j : Nat) (u : Value), (bytesC l)[j]? = some u → w.cell? (b.add j) = some u := by
  rcases h with rfl | ⟨g, off, e, -, hc⟩
  · exact ⟨[], rfl, fun j u hu => by simp [bytesC] at hu⟩
  · cases e
    refine ⟨(List.range len).map fun i => (match w.cell? ⟨g, off + i, none⟩ with | some (.int _ c) => c.toNat.toUInt8 | _ => 0), by simp, fun j u hu => ?_⟩
    have hj : j < len := by
      rcases Nat.lt_or_ge j len with h | h
      · exact h
      · rw [List.getElem?_eq_none (by simp [bytesC]; exact h)] at hu; cases hu
    obtain ⟨c, c0, c1, hcc⟩ := hc j hj
    have : (bytesC ((List.range len).map fun i => (match w.cell? ⟨g, off + i, none⟩ with | some (.int _ c) => c.toNat.toUInt8 | _ => 0)))[j]? = some (.int .u8 c) := by
      simp only [bytesC, List.getElem?_map, List.getElem?_range hj, Option.map_some, hcc]
      congr 2
      simp
      omega
    rw [this] at hu
    cases hu
    rw [Go.WideShapes.add_plain]
    exact hcc
/-- 'append([]byte{c}, more...)' -/
theorem wpList_append_pre {ops : Array Oper} {rest : List Oper} {o : Oper} {a : Act} {W : World} {Q : Exit → Act → World → Prop} (hgd : o.guard = none) (s x : Operand)
    (ho : o.op = .call { callee := .builtin .append, args := #[s, x], argTypes := #[47, 47] })
    (g : Nat) (c : UInt8) (hs : a.eval s = .slice (some ⟨g, 0, none⟩) 1 1) (hg : W.heap[g]? = some (.cells #[.int .u8 (c.toNat : Int)] 5 (0, 0)))
    (b : Option Addr) (len cap : Nat) (hx : a.eval x = .slice b len cap) (hb : BRow g W b len) (hl : len ≤ 4000000) (hgW : g ≤ W.heap.size)
    (h : ∀ (q : Option Addr) (cap' : Nat) w', BRow w'.heap.size w' q (len + 1) → Below g W w' → wpList Try.prog ops Q rest (a.put o.dst (.slice q (len + 1) cap')) w') : wpList Try.prog ops Q (o :: rest) a W := by
  obtain ⟨i0, hi, hz0, hz1, hz2⟩ := info_parts info_u8
  have hown : W.ownsRow g 5 1 (.slice (some ⟨g, 0, none⟩) 1 1) 1 (bytesC [c]) := ⟨by simp [bytesC], .inr ⟨g, 1, _, rfl, Nat.le_refl _, hg, Nat.le_refl _, by unfold maxLen; omega, rfl, by simp [bytesC]⟩⟩
  have fin : ∀ (v' : Value) (w' : World) (n : Nat) (l : List UInt8), l.length = n → 0 < n → w'.ownsRow g 5 1 v' n (bytesC l) → ∃ q cap', v' = .slice q n cap' ∧ BRow w'.heap.size w' q n := by
    intro v' w' n l hln hn0 hr
    obtain ⟨h1, ⟨rfl, h0⟩ | ⟨q, cap', cur, rfl, hbq, hgq, hnq, hmq, hsq, htq⟩⟩ := hr
    · omega
    · refine ⟨some ⟨q, 0, none⟩, cap', rfl, .inr ⟨q, 0, rfl, (Array.getElem?_eq_some_iff.1 hgq).1, fun i hi => ?_⟩⟩
      have hil : i < l.length := by omega
      refine ⟨(l[i].toNat : Int), by omega, by have := l[i].toNat_lt; omega, ?_⟩
      have e : (bytesC l)[i]? = some (.int .u8 (l[i].toNat : Int)) := by simp [bytesC, hil]
      have := World.ownsRow.cells (w := w') (base := g) (e := 5) (size := 1) (v := .slice (some ⟨q, 0, none⟩) n cap') (n := n) (xs := bytesC l) ⟨h1, .inr ⟨q, cap', cur, rfl, hbq, hgq, hnq, hmq, hsq, htq⟩⟩ (g := q) rfl i _ e
      rw [Go.WideShapes.add_plain] at this
      exact this
  cases b with
  | none =>
    obtain rfl : len = 0 := by
      rcases hb with h0 | ⟨_, _, e, _⟩
      · exact h0
      · cases e
    have hrun : (Builtin.append_ #[47, 47] o.type #[.slice (some ⟨g, 0, none⟩) 1 1, .slice none 0 cap]).run Try.prog W = .ok (.slice (some ⟨g, 0, none⟩) 1 1) W :=
      run_append_nothing (P := Try.prog) W 47 47 o.type 5 i0 Try.underlying47 hi (some ⟨g, 0, none⟩) 1 1 (Nat.le_refl _) (.slice none 0 cap) ⟨.inl ⟨_, Try.underlying47⟩, fun _ => rfl, by simp [Builtin.firstCells], by simp [Builtin.firstCells], by simp, by simp⟩
    refine Lib.wpList_append_run W hgd s x _ _ ho _ _ hs hx _ _ hrun ?_
    obtain ⟨q, cap', e, hq⟩ := fin _ _ 1 [c] rfl (by omega) hown
    rw [e]
    exact h q cap' W hq (Below.refl _ _)
  | some b =>
    obtain ⟨l, hll, hlc⟩ := brow_list hb
    refine wpList_append_own W hgd s x 47 ho g 5 i0 (.int .u8 0) 1 1 Try.underlying47 hi hz0 hz1 hz2 rfl (by decide) _ 1 (bytesC [c]) hs hown b len cap (bytesC l) hx (by simp [bytesC, hll]) hlc (by
      intro u hu
      simp only [bytesC, List.mem_map] at hu
      obtain ⟨_, _, rfl⟩ := hu
      rfl) (by unfold maxLen; omega) (by omega) hgW ?_
    intro v' w' r1 r2 _
    have e2 : bytesC [c] ++ bytesC l = bytesC (c :: l) := by simp [bytesC]
    rw [e2, Nat.add_comm 1 len] at r1
    obtain ⟨q, cap', rfl, hq⟩ := fin _ _ (len + 1) (c :: l) (by simp [hll]) (by omega) r1
    refine h q cap' w' hq ((Below.refl _ _).grown r2 hgW (fun k hk => ?_))
    simp [Value.ownBlock] at hk
    omega
end Go.Proofs.Ytdcphheeapmjcaa
