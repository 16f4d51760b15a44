/-
  CONTRACTS: the text of a key, on both sides.
-/
import Derived.Test.YtkijgadkgfapgaaYd
import Derived.Test.YtkijgadkgfapgaaHex
import Derived.Deep.RegionHeld3
import Derived.Deep.AppendLies
namespace Go.Proofs.Ytkijgadkgfapgaa
open Go.ChangeShapes Go.WideShapes Go.ChangeAt Go.RowKit
/-- two bytes appended, in a region that draws its order -/
theorem step_append_two {ops : Array Oper} {o : Oper} {a : Act} {W : World} {K : Act → World → Prop} {Q : Exit → Act → World → Prop} {E : Prop} (hgd : o.guard = none) (s x : Operand)
    (ho : o.op = .call { callee := .builtin .append, args := #[s, x], argTypes := #[45, 45] })
    (base : Nat) (v : Value) (l : List UInt8) (c d : UInt8) (hs : a.eval s = v) (hown : OwnB base v l W) (m : Nat) (hm : W.heap.size = m + 1) (hx : a.eval x = .slice (some ⟨m, 0, none⟩) 2 2)
    (fr : Nat × Nat) (hc : W.heap[m]? = some (.cells #[.int .u8 (c.toNat : Int), .int .u8 (d.toNat : Int)] 5 fr)) (hl : l.length ≤ 100000000) (hbase : base ≤ m)
    (w0 : World) (hb : Below base w0 W)
    (h : ∀ v' w', OwnB base v' (l ++ [c, d]) w' → Below base w0 w' → K (a.put o.dst v') w') :
    if Region.wanted o (yielded ops a.tmps) = true then Oper.wp Try.prog o a W K Q else E := by
  obtain ⟨i0, hi, hz0, hz1, hz2⟩ := info_parts info_u8
  refine step_append_lies W hgd s x 45 ho base 5 i0 (.int .u8 0) 1 1 Try.underlying45 hi hz0 hz1 hz2 rfl (by decide) v l.length (bytesC l) hs hown ⟨m, 0, none⟩ 2 2 [.int .u8 (c.toNat : Int), .int .u8 (d.toNat : Int)] hx rfl ?_ ?_ (by omega) (by unfold maxLen; omega) (by omega) (by omega) _ rfl ?_
  · intro j u hj
    rw [Go.WideShapes.add_plain, Nat.zero_add, Lib.cell_of_heap hc]
    simpa using hj
  · intro u hu
    simp at hu
    rcases hu with rfl | rfl <;> rfl
  · intro g cap w' h1 h2 _ _
    refine h _ w' ?_ ?_
    · unfold OwnB
      have e : bytesC (l ++ [c, d]) = bytesC l ++ [.int .u8 (c.toNat : Int), .int .u8 (d.toNat : Int)] := by simp [bytesC]
      rw [List.length_append, e]
      exact h1
    · exact hb.grown h2 (by omega) (fun k hk => (World.ownsRow.lt hown k hk).1)
/-- the first k bytes, told by digits -/
def hexL (q : Nat → Nat) : Nat → List UInt8
  | 0 => []
  | k + 1 => hexL q k ++ [hexC (q k / 16), hexC (q k % 16)]
theorem hexL_len (q : Nat → Nat) : ∀ k, (hexL q k).length = 2 * k
  | 0 => rfl
  | k + 1 => by simp [hexL, hexL_len q k]; omega
theorem and15b (x : Nat) (hx : x ≤ 255) : bits .and .u8 (x : Int) 15 = ((x % 16 : Nat) : Int) := by
  rw [show (15 : Int) = ((15 : Nat) : Int) from rfl, u8_and_nat x _ (by omega) (by omega), show (15 : Nat) = 2 ^ 4 - 1 from rfl, Nat.and_two_pow_sub_one_eq_mod]
set_option maxRecDepth 20000 in
set_option maxHeartbeats 4000000 in
theorem iText_any (q : Nat → Nat) (hq : ∀ j, j < 16 → q j ≤ 255) (w : World) :
    Calls Try.prog 18 #[.agg (Q16 (fun j => (q j : Int)))] w fun e w' => e = .returned (.string ⟨(hexL q 16).toArray⟩) ∧ Below w.heap.size w w' := by
  obtain ⟨w1, hw1⟩ : ∃ w1, w.alloc (.cells (Q16 (fun j => (q j : Int))) 25) = w1 := ⟨_, rfl⟩
  have H0 : Hid (w1.heap[w.heap.size]? = some (.cells (Q16 (fun j => (q j : Int))) 25 (0, 0))) := Lib.hid (by rw [← hw1]; exact World.alloc_heap_new w _)
  have B0 : Hid (Below w1.heap.size w1 w1) := Lib.hid (Below.refl _ _)
  have BW : Hid (Below w.heap.size w w1) := Lib.hid (by rw [← hw1]; exact (Below.refl _ w).alloc (Nat.le_refl _) _)
  have IX : Hid (∀ k : Nat, k < 16 → ∀ w, (Instr.index 25 (.agg (Q16 (fun j => (q j : Int)))) (.int .i64 (k : Int))).run Try.prog w = .ok (.int .u8 (q k)) w) := Lib.hid fun k hk w => run_index_arr .i64 (fun j => (q j : Int)) k Try.underlying25 Try.underlying5 (by kernel_rfl) hk w
  have HX : Hid (∀ (d : Nat), d < 16 → ∀ w, (Instr.index 9 (.string ⟨#[48, 49, 50, 51, 52, 53, 54, 55, 56, 57, 97, 98, 99, 100, 101, 102]⟩) (.int .u8 (d : Int))).run Try.prog w = .ok (.int .u8 ((hexC d).toNat : Int)) w) := Lib.hid fun d hd w => idx16 9 Try.underlying9 .u8 d hd w
  have O0 : Hid (OwnB w1.heap.size (.slice none 0 0) (hexL q 0) w1) := Lib.hid (World.ownsRow_nil _ _ _ _)
  have LS : Hid (∀ k, hexL q (k + 1) = hexL q k ++ [hexC (q k / 16), hexC (q k % 16)]) := Lib.hid fun _ => rfl
  have LL := Lib.hid (hexL_len q)
  have HQ := Lib.hid hq
  have GS : Hid ((Q16 (fun j => (q j : Int))).size = 16) := Lib.hid (arr_size .u8 16 (fun j => (q j : Int)))
  generalize Q16 (fun j => (q j : Int)) = A at hw1 H0 IX GS ⊢
  generalize hexL q = T at O0 LS LL ⊢
  clear hq
  go_enter Try.func18, Try.ntmps18
  go_wp2_with (refine wpList_load_row rfl 25 _ rfl w.heap.size rfl 25 _ _ _ H0.out Try.underlying25 rfl (ky_info _ GS.out) ?_)
  clear hw1
  go_loopw [3, 5, 7] (fun o _ i wr => ∃ k : Nat, k ≤ 16 ∧ i = .int .i64 (k : Int) ∧ OwnB w1.heap.size o (T k) wr ∧ Below w1.heap.size w1 wr) (fun _ _ i _ => 16 - (intOf i).toNat)
  case atStart => exact ⟨0, by omega, rfl, O0.out, B0.out⟩
  case round =>
    obtain ⟨k, hk, rfl, ho, hb⟩ := hrel
    have HO := Lib.hid ho
    have HB := Lib.hid hb
    clear ho hb O0 B0
    by_cases hlt : k < 16
    · have tk : (k : Int) < 16 := by omega
      have HK := Lib.hid hlt
      have ix := IX.out k hlt
      have q1 := HQ.out k hlt
      have SK := Lib.hid (LS.out k)
      have LK : Hid ((T k).length ≤ 100000000) := Lib.hid (by rw [LL.out]; omega)
      obtain ⟨x, hx⟩ : ∃ x, q k = x := ⟨_, rfl⟩
      rw [hx] at ix q1 SK
      obtain ⟨d1, e1⟩ : ∃ d, x / 16 = d := ⟨_, rfl⟩
      obtain ⟨d2, e2⟩ : ∃ d, x % 16 = d := ⟨_, rfl⟩
      have a2 := and15b x q1
      have a1 : (x : Int) / 16 = (d1 : Int) := by omega
      rw [e1, e2] at SK
      rw [e2] at a2
      have i1 := HX.out d1 (by omega)
      have i2 := HX.out d2 (by omega)
      have WZ : Hid (w1.heap.size ≤ wr.heap.size) := Lib.hid HB.out.size
      generalize (hexC d1) = c1 at i1 SK
      generalize (hexC d2) = c2 at i2 SK
      clear hx e1 e2 hlt hk
      go_wp2
      go_region_held3 (fun _ => True) (trivial) ((refine step_append_two rfl (.tmp 10) (.tmp 17) rfl w1.heap.size u3 (T k) c1 c2 rfl ((HO.out.alloc _).drew) wr.heap.size (by simp) rfl (0, 0) (heap_alloc_new wr _) LK.out WZ.out w1 ((HB.out.alloc WZ.out _).drew) ?_; intro v' w' h1 h2))
      all_goals
        have H1 := Lib.hid h1
        have H2 := Lib.hid h2
        clear h1 h2 i1 i2 a1 a2
        go_wp2
        go_roundw
        case rel => exact ⟨k + 1, HK.out, by go_num, by rw [SK.out]; exact H1.out, H2.out⟩
        case measure => have := HK.out; simp [intOf]; omega
    · obtain rfl : k = 16 := by omega
      have cv := own_string HO.out
      have FB : Hid (Below w.heap.size w wr) := Lib.hid (BW.out.trans (HB.out.mono BW.out.size))
      clear hlt hk
      go_wp2
      go_ret
      exact ⟨rfl, FB.out⟩
set_option maxRecDepth 20000 in
set_option maxHeartbeats 4000000 in
theorem sTextL_any (q : Nat → Nat) (hq : ∀ j, j < 16 → q j ≤ 255) (w : World) :
    Calls Try.prog 56 #[.agg (Q16 (fun j => (q j : Int)))] w fun e w' => e = .returned (.string ⟨(hexL q 16).toArray⟩) ∧ Below w.heap.size w w' := by
  obtain ⟨w0, hw0⟩ : ∃ w1, w.alloc (.cells (Q16 (fun j => (q j : Int))) 25) = w1 := ⟨_, rfl⟩
  have H0 : Hid (w0.heap[w.heap.size]? = some (.cells (Q16 (fun j => (q j : Int))) 25 (0, 0))) := Lib.hid (by rw [← hw0]; exact World.alloc_heap_new w _)
  have BV : Hid (Below w.heap.size w w0) := Lib.hid (by rw [← hw0]; exact (Below.refl _ w).alloc (Nat.le_refl _) _)
  have LZ : Hid (w.heap.size < w0.heap.size) := Lib.hid (by rw [← hw0]; simp)
  have O0 : Hid (OwnB w0.heap.size (.slice (some ⟨w0.heap.size, 0, none⟩) 0 0) (hexL q 0) (w0.alloc (.cells #[] 5))) := Lib.hid (World.ownsRow_made (size := 1) w0 #[] 0 (Nat.le_refl _) (by unfold maxLen; omega) rfl)
  have B0 : Hid (Below w0.heap.size w0 (w0.alloc (.cells #[] 5))) := Lib.hid ((Below.refl _ _).alloc (Nat.le_refl _) _)
  have CC : Hid (∀ W, Below w0.heap.size w0 W → ∀ k, k < 16 → W.cell? ⟨w.heap.size, k, none⟩ = some (.int .u8 (q k))) := Lib.hid fun W hW k hk => (hW.cell (p := ⟨w.heap.size, k, none⟩) LZ.out).trans ((Lib.cell_of_heap H0.out k).trans (arr_get _ _ _ _ hk))
  have HX : Hid (∀ (d : Nat), d < 16 → ∀ w, (Instr.index 9 (.string ⟨#[48, 49, 50, 51, 52, 53, 54, 55, 56, 57, 97, 98, 99, 100, 101, 102]⟩) (.int .u8 (d : Int))).run Try.prog w = .ok (.int .u8 ((hexC d).toNat : Int)) w) := Lib.hid fun d hd w => idx16 9 Try.underlying9 .u8 d hd w
  have LS : Hid (∀ k, hexL q (k + 1) = hexL q k ++ [hexC (q k / 16), hexC (q k % 16)]) := Lib.hid fun _ => rfl
  have LL := Lib.hid (hexL_len q)
  have HQ := Lib.hid hq
  generalize Q16 (fun j => (q j : Int)) = A at hw0 H0 ⊢
  generalize hexL q = T at O0 LS LL ⊢
  clear hq
  go_enter Try.func56, Try.ntmps56
  go_wp2_with fail
  clear hw0
  generalize w0.alloc (.cells #[] 5) = w1 at O0 B0 ⊢
  go_loopw [4, 5] (fun o i wr => ∃ k : Nat, k ≤ 16 ∧ i = .int .i64 (k : Int) ∧ OwnB w0.heap.size o (T k) wr ∧ Below w0.heap.size w0 wr) (fun _ i _ => 16 - (intOf i).toNat)
  case atStart => exact ⟨0, by omega, rfl, O0.out, B0.out⟩
  case round =>
    obtain ⟨k, hk, rfl, ho, hb⟩ := hrel
    have HO := Lib.hid ho
    have HB := Lib.hid hb
    clear ho hb O0 B0
    by_cases hlt : k < 16
    · have tk : (k : Int) < 16 := by omega
      have HK := Lib.hid hlt
      have q1 := HQ.out k hlt
      have c0 := CC.out wr HB.out k hlt
      have SK := Lib.hid (LS.out k)
      have LK : Hid ((T k).length ≤ 100000000) := Lib.hid (by rw [LL.out]; omega)
      obtain ⟨x, hx⟩ : ∃ x, q k = x := ⟨_, rfl⟩
      rw [hx] at c0 q1 SK
      obtain ⟨d1, e1⟩ : ∃ d, x / 16 = d := ⟨_, rfl⟩
      obtain ⟨d2, e2⟩ : ∃ d, x % 16 = d := ⟨_, rfl⟩
      have a2 := and15b x q1
      have a1 : (x : Int) / 16 = (d1 : Int) := by omega
      rw [e1, e2] at SK
      rw [e2] at a2
      have i1 := HX.out d1 (by omega)
      have i2 := HX.out d2 (by omega)
      have WZ : Hid (w0.heap.size ≤ wr.heap.size) := Lib.hid HB.out.size
      have WC : Hid (w.heap.size < wr.heap.size) := Lib.hid (Nat.lt_of_lt_of_le LZ.out HB.out.size)
      generalize (hexC d1) = c1 at i1 SK
      generalize (hexC d2) = c2 at i2 SK
      have CK : Hid (∀ W, Below w0.heap.size w0 W → W.cell? ⟨w.heap.size, k, none⟩ = some (.int .u8 (x : Int))) := Lib.hid fun W hW => by rw [← hx]; exact CC.out W hW k hlt
      clear hx e1 e2 hlt hk
      go_wp2
      go_region_held3 (fun w' => w'.cell? ⟨w.heap.size, k, none⟩ = some (.int .u8 (x : Int))) (first | go_keep | exact CK.out _ (by assumption)) ((refine step_append_two rfl (.tmp 11) (.tmp 24) rfl w0.heap.size u4 (T k) c1 c2 rfl ((HO.out.alloc _).drew) wr.heap.size (by simp) rfl (0, 0) (heap_alloc_new wr _) LK.out WZ.out w0 ((HB.out.alloc WZ.out _).drew) ?_; intro v' w' h1 h2))
      all_goals
        have H1 := Lib.hid h1
        have H2 := Lib.hid h2
        clear h1 h2 i1 i2 a1 a2
        go_wp2
        go_roundw
        case rel => exact ⟨k + 1, HK.out, by go_num, by rw [SK.out]; exact H1.out, H2.out⟩
        case measure => have := HK.out; simp [intOf]; omega
    · obtain rfl : k = 16 := by omega
      have cv := own_string HO.out
      have FB : Hid (Below w.heap.size w wr) := Lib.hid (BV.out.trans (HB.out.mono BV.out.size))
      clear hlt hk
      go_wp2
      go_ret
      exact ⟨rfl, FB.out⟩
set_option maxRecDepth 20000 in
set_option maxHeartbeats 4000000 in
theorem sText_any (q : Nat → Nat) (hq : ∀ j, j < 16 → q j ≤ 255) (w : World) :
    Calls Try.prog 16 #[.agg (Q16 (fun j => (q j : Int)))] w fun e w' => e = .returned (.string ⟨(hexL q 16).toArray⟩) ∧ Below w.heap.size w w' := by
  obtain ⟨w1, hw1⟩ : ∃ w1, w.alloc (.cells (Q16 (fun j => (q j : Int))) 25) = w1 := ⟨_, rfl⟩
  have H0 : Hid (w1.heap[w.heap.size]? = some (.cells (Q16 (fun j => (q j : Int))) 25 (0, 0))) := Lib.hid (by rw [← hw1]; exact World.alloc_heap_new w _)
  have BW : Hid (Below w.heap.size w w1) := Lib.hid (by rw [← hw1]; exact (Below.refl _ w).alloc (Nat.le_refl _) _)
  have TL := Lib.hid (sTextL_any q hq)
  have GS : Hid ((Q16 (fun j => (q j : Int))).size = 16) := Lib.hid (arr_size .u8 16 (fun j => (q j : Int)))
  generalize Q16 (fun j => (q j : Int)) = A at hw1 H0 TL GS ⊢
  generalize (hexL q 16).toArray = R at TL ⊢
  clear hq
  go_enter Try.func16, Try.ntmps16
  go_wp2_with (refine wpList_load_row rfl 25 _ rfl w.heap.size rfl 25 _ _ _ H0.out Try.underlying25 rfl (ky_info _ GS.out) ?_)
  clear hw1
  refine (TL.out _).mono ?_
  rintro e w2 ⟨rfl, b2⟩
  have FB : Hid (Below w.heap.size w w2) := Lib.hid (BW.out.trans (b2.mono BW.out.size))
  clear b2
  go_wp2
  go_ret
  exact ⟨rfl, FB.out⟩
end Go.Proofs.Ytkijgadkgfapgaa
