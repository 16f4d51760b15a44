/-
  CONTRACTS: MaskText on both sides.
-/
import Derived.Test.YtfnaddpohkbbnaaIbm
import Derived.Test.YtfnaddpohkbbnaaShP
namespace Go.Proofs.Ytfnaddpohkbbnaa
open Go.ChangeShapes Go.WideShapes Go.ChangeAt Go.RowKit
/-- the sign of a cell -/
def sgnB (b : Bool) : UInt8 := if b then 35 else 46
/-- the text of the first k cells -/
def txK (g : Nat → Bool) : Nat → List UInt8
  | 0 => []
  | k + 1 => txK g k ++ [sgnB (g k)] ++ (if k % 16 = 15 then [10] else [])
theorem txK_in (g : Nat → Bool) {k : Nat} (h : k % 16 ≠ 15) : txK g (k + 1) = txK g k ++ [sgnB (g k)] := by
  show txK g k ++ [sgnB (g k)] ++ (if k % 16 = 15 then [10] else []) = _
  rw [if_neg h, List.append_nil]
theorem txK_end (g : Nat → Bool) {k : Nat} (h : k % 16 = 15) : txK g (k + 1) = txK g k ++ [sgnB (g k)] ++ [10] := by
  show txK g k ++ [sgnB (g k)] ++ (if k % 16 = 15 then [10] else []) = _
  rw [if_pos h]
theorem txK_len (g : Nat → Bool) (k : Nat) : (txK g k).length ≤ 2 * k := by
  induction k with
  | zero => simp [txK]
  | succ k ih =>
    by_cases h : k % 16 = 15
    · rw [txK_end g h]; simp; omega
    · rw [txK_in g h]; simp; omega
/-- the text of the row y up to the cell x, with no end of a line -/
def txR (g : Nat → Bool) (y x : Nat) : List UInt8 := txK g (16 * y) ++ (List.range x).map fun i => sgnB (g (16 * y + i))
theorem txR_zero (g : Nat → Bool) (y : Nat) : txR g y 0 = txK g (16 * y) := by simp [txR]
theorem txR_succ (g : Nat → Bool) (y x : Nat) : txR g y (x + 1) = txR g y x ++ [sgnB (g (16 * y + x))] := by simp [txR, List.range_succ]
theorem txR_same (g : Nat → Bool) (y x : Nat) (h : x ≤ 15) : txR g y x = txK g (16 * y + x) := by
  induction x with
  | zero => exact txR_zero g y
  | succ x ih => rw [txR_succ, ih (by omega), ← Nat.add_assoc, txK_in g (by omega)]
theorem txR_end (g : Nat → Bool) (y : Nat) : txR g y 16 ++ [10] = txK g (16 * (y + 1)) := by
  rw [show txR g y 16 = txR g y 15 ++ [sgnB (g (16 * y + 15))] from txR_succ g y 15, txR_same g y 15 (by omega), show 16 * (y + 1) = (16 * y + 15) + 1 by omega, txK_end g (k := 16 * y + 15) (by omega)]
theorem txR_len (g : Nat → Bool) (y x : Nat) (h : y ≤ 16) (hx : x ≤ 16) : (txR g y x).length ≤ 1000 := by
  have := txK_len g (16 * y)
  simp [txR]; omega
theorem bc_app (l : List UInt8) (c : UInt8) : Lib.byteCells l ++ [.int .u8 ((c.toNat : Nat) : Int)] = Lib.byteCells (l ++ [c]) := by simp [Lib.byteCells]
theorem bc_nl (l : List UInt8) : Lib.byteCells l ++ Lib.strCells { data := #[10] } = Lib.byteCells (l ++ [10]) := by simp [Lib.byteCells, Lib.strCells]
def txB (f : Nat → Int) : ByteArray := ⟨(txK (bitR f) 256).toArray⟩
def TmPost (f : Nat → Int) (w : World) (e : Ending) (w' : World) : Prop := e = .returned (.string (txB f)) ∧ Below w.heap.size w w'
set_option maxRecDepth 20000 in
set_option maxHeartbeats 2000000 in
theorem smaskText_any (f : Nat → Int) (hf : MB f) (w : World) : Calls Try.prog 56 #[.agg (M16 f)] w (TmPost f w) := by
  unfold TmPost
  have S0 : ((w.alloc (.cells (M16 f) 24)).alloc (.cells #[] 5)).heap[w.heap.size]? = some (.cells (M16 f) 24 (0, 0)) := (Below.heap_alloc _ _ _ (by simp)).trans (World.alloc_heap_new w _)
  have SB : Below w.heap.size w ((w.alloc (.cells (M16 f) 24)).alloc (.cells #[] 5)) := ((Below.refl _ w).alloc (Nat.le_refl _) _).alloc (by simp) _
  have SO : ((w.alloc (.cells (M16 f) 24)).alloc (.cells #[] 5)).ownsRow (w.heap.size + 1) 5 1 (.slice (some ⟨w.heap.size + 1, 0, none⟩) 0 0) 0 [] := by
    have := World.ownsRow_made (base := w.heap.size + 1) (size := 1) (e := 5) (w.alloc (.cells (M16 f) 24)) #[] 0 (by simp) (by unfold maxLen; omega) rfl
    rwa [World.size_alloc] at this
  have H0 := Lib.hid S0
  have HB := Lib.hid SB
  have HO := Lib.hid SO
  have HF := Lib.hid hf
  clear S0 SB SO hf
  go_enter Try.func56, Try.ntmps56
  go_wp2
  generalize (w.alloc (.cells (M16 f) 24)).alloc (.cells #[] 5) = w1 at H0 HB HO ⊢
  go_loopw [3, 4, 5] (fun v i _ wr => ∃ y : Nat, y ≤ 16 ∧ i = .int .i64 (y : Int) ∧ wr.ownsRow (w.heap.size + 1) 5 1 v (txK (bitR f) (16 * y)).length (Lib.byteCells (txK (bitR f) (16 * y))) ∧ Below w.heap.size w wr ∧ wr.heap[w.heap.size]? = some (.cells (M16 f) 24 (0, 0))) (fun _ i _ _ => 16 - (intOf i).toNat)
  case atStart => exact ⟨0, by omega, rfl, HO.out, HB.out, H0.out⟩
  case round =>
    obtain ⟨y, hy, rfl, hO, hB, h0⟩ := hrel
    have KO := Lib.hid hO
    have KB := Lib.hid hB
    have K0 := Lib.hid h0
    clear hO hB h0 HO HB H0
    by_cases hlt : y < 16
    · have ty : (y : Int) < 16 := by omega
      have HY := Lib.hid hlt
      clear hlt hy
      go_wp2
      go_loopw [3, 5] (fun v i w2 => ∃ x : Nat, x ≤ 16 ∧ i = .int .i64 (x : Int) ∧ w2.ownsRow (w.heap.size + 1) 5 1 v (txR (bitR f) y x).length (Lib.byteCells (txR (bitR f) y x)) ∧ Below w.heap.size w w2 ∧ w2.heap[w.heap.size]? = some (.cells (M16 f) 24 (0, 0))) (fun _ i _ => 16 - (intOf i).toNat)
      case atStart => exact ⟨0, by omega, rfl, by rw [txR_zero]; exact KO.out, KB.out, K0.out⟩
      case round =>
        obtain ⟨x, hx, rfl, hO, hB, h0⟩ := hrel
        have LO := Lib.hid hO
        have LB := Lib.hid hB
        have L0 := Lib.hid h0
        clear hO hB h0 KO KB K0
        by_cases hlx : x < 16
        · have tx : (x : Int) < 16 := by omega
          have HX := Lib.hid hlx
          have MH := Lib.hid (l07Has_any w.heap.size f HF.out x y hlx HY.out wr ((Lib.cell_of_heap L0.out y).trans (arr_get _ _ _ _ HY.out)))
          have NV : Hid (Lib.byteCells (txR (bitR f) y x) ++ [.int .u8 (((sgnB (hasF f x y)).toNat : Nat) : Int)] = Lib.byteCells (txR (bitR f) y (x + 1)) ∧ (txR (bitR f) y (x + 1)).length = (txR (bitR f) y x).length + 1) := Lib.hid (by rw [txR_succ, bitR_at f hlx]; exact ⟨bc_app _ _, by simp⟩)
          have LZ : Hid (w.heap.size + 1 ≤ wr.heap.size) := Lib.hid (Array.getElem?_eq_some_iff.1 L0.out).1
          have LL : Hid ((txR (bitR f) y x).length ≤ 100000000) := Lib.hid (by have := HY.out; have := txR_len (bitR f) y x (by omega) (by omega); omega)
          generalize hasF f x y = b at MH NV
          obtain ⟨kn, hkn⟩ : ∃ kn, (txR (bitR f) y x).length = kn := ⟨_, rfl⟩
          rw [hkn] at LO LL NV
          generalize Lib.byteCells (txR (bitR f) y x) = xs at LO NV
          clear hkn hlx hx
          cases b
          · have NV' : Hid (xs ++ [.int .u8 46] = Lib.byteCells (txR (bitR f) y (x + 1))) := Lib.hid NV.out.1
            go_wp2_with (first | ((with_reducible refine MH.out.mono ?_); rintro e w' ⟨rfl, rfl⟩) | (at_builtin; refine wpList_append_u8t rfl (.tmp 21) (.tmp 22) rfl (w.heap.size + 1) _ kn xs 46 rfl LO.out wr.heap.size rfl rfl LL.out LZ.out ?_; intro v' w3 hown' hbel'))
            have B3 := Lib.hid (LB.out.trans (hbel'.out.mono (by omega)))
            have G3 := Lib.hid ((hbel'.out.block w.heap.size (by omega)).trans L0.out)
            go_roundw
            case rel => exact ⟨x + 1, HX.out, by go_num, by rw [NV.out.2, ← NV'.out]; exact hown'.out, B3.out, G3.out⟩
            case measure => have := HX.out; simp [intOf]; omega
          · have NV' : Hid (xs ++ [.int .u8 35] = Lib.byteCells (txR (bitR f) y (x + 1))) := Lib.hid NV.out.1
            go_wp2_with (first | ((with_reducible refine MH.out.mono ?_); rintro e w' ⟨rfl, rfl⟩) | (at_builtin; refine wpList_append_u8t rfl (.tmp 18) (.tmp 19) rfl (w.heap.size + 1) _ kn xs 35 rfl LO.out wr.heap.size rfl rfl LL.out LZ.out ?_; intro v' w3 hown' hbel'))
            have B3 := Lib.hid (LB.out.trans (hbel'.out.mono (by omega)))
            have G3 := Lib.hid ((hbel'.out.block w.heap.size (by omega)).trans L0.out)
            go_roundw
            case rel => exact ⟨x + 1, HX.out, by go_num, by rw [NV.out.2, ← NV'.out]; exact hown'.out, B3.out, G3.out⟩
            case measure => have := HX.out; simp [intOf]; omega
        · obtain rfl : x = 16 := by omega
          have NE : Hid (Lib.byteCells (txR (bitR f) y 16) ++ [.int .u8 10] = Lib.byteCells (txK (bitR f) (16 * (y + 1))) ∧ (txK (bitR f) (16 * (y + 1))).length = (txR (bitR f) y 16).length + 1) := Lib.hid (by rw [← txR_end]; exact ⟨bc_app _ 10, by simp⟩)
          have LZ : Hid (w.heap.size + 1 ≤ wr.heap.size) := Lib.hid (Array.getElem?_eq_some_iff.1 L0.out).1
          have LL : Hid ((txR (bitR f) y 16).length ≤ 100000000) := Lib.hid (by have := HY.out; have := txR_len (bitR f) y 16 (by omega) (by omega); omega)
          obtain ⟨kn, hkn⟩ : ∃ kn, (txR (bitR f) y 16).length = kn := ⟨_, rfl⟩
          rw [hkn] at LO LL NE
          generalize Lib.byteCells (txR (bitR f) y 16) = xs at LO NE
          clear hkn hlx hx
          go_wp2_with (at_builtin; refine wpList_append_u8t rfl (.tmp 24) (.tmp 25) rfl (w.heap.size + 1) _ kn xs 10 rfl LO.out wr.heap.size rfl rfl LL.out LZ.out ?_; intro v' w3 hown' hbel')
          have B3 := Lib.hid (LB.out.trans (hbel'.out.mono (by omega)))
          have G3 := Lib.hid ((hbel'.out.block w.heap.size (by omega)).trans L0.out)
          go_roundw
          case rel => exact ⟨y + 1, HY.out, by go_num, by rw [NE.out.2, ← NE.out.1]; exact hown'.out, B3.out, G3.out⟩
          case measure => have := HY.out; simp [intOf]; omega
    · obtain rfl : y = 16 := by omega
      have hc := own_text (W := wr) KO.out rfl
      clear hlt hy
      go_wp2
      go_ret
      exact ⟨rfl, KB.out⟩
set_option maxRecDepth 20000 in
set_option maxHeartbeats 2000000 in
theorem imaskText_any (f : Nat → Int) (hf : MB f) (w : World) : Calls Try.prog 59 #[.agg (M16 f)] w (TmPost f w) := by
  unfold TmPost
  have C0 : Hid (((w.alloc (.cells (M16 f) 24)).alloc (.cells #[.pointer none, .slice none 0 0] 114)).heap[w.heap.size]? = some (.cells (M16 f) 24 (0, 0))) := Lib.hid ((Below.heap_alloc _ _ _ (by simp)).trans (World.alloc_heap_new w _))
  have B0 : Hid (Below w.heap.size w ((w.alloc (.cells (M16 f) 24)).alloc (.cells #[.pointer none, .slice none 0 0] 114))) := Lib.hid (((Below.refl _ w).alloc (Nat.le_refl _) _).alloc (by simp) _)
  have N0 : Hid (((w.alloc (.cells (M16 f) 24)).alloc (.cells #[.pointer none, .slice none 0 0] 114)).heap[w.heap.size + 1]? = some (.cells #[.pointer none, .slice none 0 0] 114 (0, 0))) := Lib.hid (by have := World.alloc_heap_new (w.alloc (.cells (M16 f) 24)) (.cells #[.pointer none, .slice none 0 0] 114); rwa [World.size_alloc] at this)
  have Z0 : Hid (((w.alloc (.cells (M16 f) 24)).alloc (.cells #[.pointer none, .slice none 0 0] 114)).heap.size = w.heap.size + 2) := Lib.hid (by simp)
  have IR := Lib.hid (fun w => inOneRow_any f hf w)
  have PZ : Hid (txK (bitR f) 0 = []) := Lib.hid rfl
  clear hf
  go_enter Try.func59, Try.ntmps59
  go_wp2_with (refine wpList_load_row rfl 24 _ rfl w.heap.size rfl 24 _ _ _ C0.out Try.underlying24 rfl (mask_info _ (arr_size _ _ _)) ?_)
  generalize (w.alloc (.cells (M16 f) 24)).alloc (.cells #[.pointer none, .slice none 0 0] 114) = w1 at C0 B0 N0 Z0 ⊢
  refine (IR.out _).mono ?_
  rintro e w2 ⟨v, rfl, hO, b2⟩
  obtain ⟨g, cap, rfl, hg, hgl⟩ : ∃ g cap, v = .slice (some ⟨g, 0, none⟩) 256 cap ∧ g < w2.heap.size ∧ w1.heap.size < g := by
    rcases hO.2 with ⟨_, h0⟩ | ⟨g, cap, cur, rfl, h1, _⟩
    · omega
    · exact ⟨g, cap, rfl, (hO.lt g rfl).2, h1⟩
  have RC : Hid (∀ i, i < 256 → w2.cell? ⟨g, i, none⟩ = some (.bool (bitR f i))) := Lib.hid fun i hi => by rw [hO.cellAt i (by omega)]; exact rowV_get _ _ _ hi
  have z0 := Z0.out
  have N2 : Hid (Bq w2.heap.size (w.heap.size + 1) [] w2) := Lib.hid ⟨_, _, .inl rfl, (b2.block (w.heap.size + 1) (by omega)).trans N0.out, World.ownsRow_nil _ _ _ _⟩
  have B2 := Lib.hid (B0.out.trans (b2.mono (by omega)))
  have HG := Lib.hid hg
  have HL : Hid (g ≠ w.heap.size + 1) := Lib.hid (by omega)
  have HB : Hid (w.heap.size + 1 < w2.heap.size) := Lib.hid (by have := b2.size; omega)
  clear hO b2 C0 B0 Z0 N0 hg hgl z0 IR
  go_wp2
  go_loopw [4, 5, 6, 10] (fun _ _ _ i wr => ∃ k : Nat, k ≤ 256 ∧ i = .int .i64 (k : Int) ∧ Bq w2.heap.size (w.heap.size + 1) (Lib.byteCells (txK (bitR f) k)) wr ∧ But w2.heap.size (w.heap.size + 1) w2 wr) (fun _ _ _ i _ => 256 - (intOf i).toNat)
  case atStart => exact ⟨0, by omega, rfl, by rw [PZ.out]; exact N2.out, But.refl _ _ _⟩
  case round =>
    obtain ⟨k, hk, rfl, hb, hB⟩ := hrel
    have KO := Lib.hid hb
    have KB := Lib.hid hB
    clear hb hB N2
    by_cases hlt : k < 256
    · have tk : (k : Int) < 256 := by omega
      have HK := Lib.hid hlt
      have cx : wr.cell? ⟨g, k, none⟩ = some (.bool (bitR f k)) := (KB.out.cell (p := ⟨g, k, none⟩) HG.out HL.out).trans (RC.out k hlt)
      have ZR : Hid (w2.heap.size ≤ wr.heap.size) := Lib.hid KB.out.1.size
      have tl := txK_len (bitR f) k
      have LN : Hid ((Lib.byteCells (txK (bitR f) k)).length ≤ 1000) := Lib.hid (by simp [Lib.byteCells]; omega)
      have W1 := Lib.hid (bwriteq_any w2.heap.size (w.heap.size + 1) HB.out (Lib.byteCells (txK (bitR f) k)) (((sgnB (bitR f k)).toNat : Nat) : Int) wr KO.out (by have := LN.out; omega) ZR.out)
      by_cases h15 : k % 16 = 15
      · have te : (k : Int) % 16 = 15 := by omega
        have tn : Int.tmod (k : Int) 16 = 15 := by rw [Int.tmod_eq_emod_of_nonneg (by omega)]; omega
        have NX : Hid (Lib.byteCells (txK (bitR f) k) ++ [.int .u8 (((sgnB (bitR f k)).toNat : Nat) : Int)] ++ Lib.strCells { data := #[10] } = Lib.byteCells (txK (bitR f) (k + 1))) := Lib.hid (by rw [txK_end _ h15, bc_app, bc_nl])
        clear tl hlt hk h15
        generalize Lib.byteCells (txK (bitR f) k) = xs at KO W1 NX LN
        generalize bitR f k = c at cx W1 NX
        cases c
        · have V1 : Hid (Calls Try.prog 96 #[.pointer (some ⟨w.heap.size + 1, 0, none⟩), .int .u8 46] wr fun e w' => e = .returned .nilIface ∧ Bq w2.heap.size (w.heap.size + 1) (xs ++ [.int .u8 46]) w' ∧ But w2.heap.size (w.heap.size + 1) wr w') := Lib.hid W1.out
          have NY : Hid (xs ++ [.int .u8 46] ++ Lib.strCells { data := #[10] } = Lib.byteCells (txK (bitR f) (k + 1))) := Lib.hid NX.out
          clear W1 NX
          go_wp2_with (go_at_call 96; refine (V1.out).mono ?_; rintro e w3 ⟨rfl, hb3, hB3⟩; have K3 := Lib.hid hb3; have B3 := Lib.hid (KB.out.trans hB3); have Z3 : Hid (w2.heap.size ≤ w3.heap.size) := Lib.hid (Nat.le_trans ZR.out hB3.1.size); have V2 := Lib.hid (bwritesq_any w2.heap.size (w.heap.size + 1) HB.out _ { data := #[10] } w3 K3.out (by have := LN.out; simp [ByteArray.size]; omega) Z3.out); clear hb3 hB3 KB KO V1; go_wp2_with fail; refine (V2.out).mono ?_; rintro e w4 ⟨rfl, hb4, hB4⟩; have K4 := Lib.hid hb4; have B4 := Lib.hid (B3.out.trans hB4); clear hb4 hB4 K3 B3 V2)
          go_wp2
          go_roundw
          case rel => exact ⟨k + 1, HK.out, by go_num, by rw [← NY.out]; exact K4.out, B4.out⟩
          case measure => have := HK.out; simp [intOf]; omega
        · have V1 : Hid (Calls Try.prog 96 #[.pointer (some ⟨w.heap.size + 1, 0, none⟩), .int .u8 35] wr fun e w' => e = .returned .nilIface ∧ Bq w2.heap.size (w.heap.size + 1) (xs ++ [.int .u8 35]) w' ∧ But w2.heap.size (w.heap.size + 1) wr w') := Lib.hid W1.out
          have NY : Hid (xs ++ [.int .u8 35] ++ Lib.strCells { data := #[10] } = Lib.byteCells (txK (bitR f) (k + 1))) := Lib.hid NX.out
          clear W1 NX
          go_wp2_with (go_at_call 96; refine (V1.out).mono ?_; rintro e w3 ⟨rfl, hb3, hB3⟩; have K3 := Lib.hid hb3; have B3 := Lib.hid (KB.out.trans hB3); have Z3 : Hid (w2.heap.size ≤ w3.heap.size) := Lib.hid (Nat.le_trans ZR.out hB3.1.size); have V2 := Lib.hid (bwritesq_any w2.heap.size (w.heap.size + 1) HB.out _ { data := #[10] } w3 K3.out (by have := LN.out; simp [ByteArray.size]; omega) Z3.out); clear hb3 hB3 KB KO V1; go_wp2_with fail; refine (V2.out).mono ?_; rintro e w4 ⟨rfl, hb4, hB4⟩; have K4 := Lib.hid hb4; have B4 := Lib.hid (B3.out.trans hB4); clear hb4 hB4 K3 B3 V2)
          go_wp2
          go_roundw
          case rel => exact ⟨k + 1, HK.out, by go_num, by rw [← NY.out]; exact K4.out, B4.out⟩
          case measure => have := HK.out; simp [intOf]; omega
      · obtain ⟨q, hq, hq2⟩ : ∃ q : Nat, k % 16 = q ∧ q < 15 := ⟨_, rfl, by omega⟩
        have tn : Int.tmod (k : Int) 16 = (q : Int) := by rw [Int.tmod_eq_emod_of_nonneg (by omega)]; omega
        have tq : ((q : Int) == 15) = false := by simp; omega
        have NX : Hid (Lib.byteCells (txK (bitR f) k) ++ [.int .u8 (((sgnB (bitR f k)).toNat : Nat) : Int)] = Lib.byteCells (txK (bitR f) (k + 1))) := Lib.hid (by rw [txK_in _ h15, bc_app])
        clear tl hlt hk h15 hq hq2
        generalize Lib.byteCells (txK (bitR f) k) = xs at KO W1 NX LN
        generalize bitR f k = c at cx W1 NX
        cases c
        · have V1 : Hid (Calls Try.prog 96 #[.pointer (some ⟨w.heap.size + 1, 0, none⟩), .int .u8 46] wr fun e w' => e = .returned .nilIface ∧ Bq w2.heap.size (w.heap.size + 1) (xs ++ [.int .u8 46]) w' ∧ But w2.heap.size (w.heap.size + 1) wr w') := Lib.hid W1.out
          have NY : Hid (xs ++ [.int .u8 46] = Lib.byteCells (txK (bitR f) (k + 1))) := Lib.hid NX.out
          clear W1 NX
          go_wp2_with (go_at_call 96; refine (V1.out).mono ?_; rintro e w3 ⟨rfl, hb3, hB3⟩; have K3 := Lib.hid hb3; have B3 := Lib.hid (KB.out.trans hB3); clear hb3 hB3 KB KO V1)
          go_roundw
          case rel => exact ⟨k + 1, HK.out, by go_num, by rw [← NY.out]; exact K3.out, B3.out⟩
          case measure => have := HK.out; simp [intOf]; omega
        · have V1 : Hid (Calls Try.prog 96 #[.pointer (some ⟨w.heap.size + 1, 0, none⟩), .int .u8 35] wr fun e w' => e = .returned .nilIface ∧ Bq w2.heap.size (w.heap.size + 1) (xs ++ [.int .u8 35]) w' ∧ But w2.heap.size (w.heap.size + 1) wr w') := Lib.hid W1.out
          have NY : Hid (xs ++ [.int .u8 35] = Lib.byteCells (txK (bitR f) (k + 1))) := Lib.hid NX.out
          clear W1 NX
          go_wp2_with (go_at_call 96; refine (V1.out).mono ?_; rintro e w3 ⟨rfl, hb3, hB3⟩; have K3 := Lib.hid hb3; have B3 := Lib.hid (KB.out.trans hB3); clear hb3 hB3 KB KO V1)
          go_roundw
          case rel => exact ⟨k + 1, HK.out, by go_num, by rw [← NY.out]; exact K3.out, B3.out⟩
          case measure => have := HK.out; simp [intOf]; omega
    · obtain rfl : k = 256 := by omega
      have ZR : Hid (w.heap.size + 1 ≤ wr.heap.size) := Lib.hid (by have := KB.out.1.size; have := HB.out; omega)
      have VS := Lib.hid (Try.Builder_String_any (w.heap.size + 1) (w.heap.size + 1) (txK (bitR f) 256) wr (KO.out.bld HB.out) ZR.out)
      have BL := Lib.hid (B2.out.trans (KB.out.1.mono (Nat.le_succ _)))
      clear hlt hk
      go_wp2_with (go_at_call 98; refine (VS.out).mono ?_; rintro e w3 ⟨rfl, hB3⟩)
      go_ret
      exact ⟨rfl, BL.out.trans (hB3.mono (Nat.le_succ _))⟩
end Go.Proofs.Ytfnaddpohkbbnaa
