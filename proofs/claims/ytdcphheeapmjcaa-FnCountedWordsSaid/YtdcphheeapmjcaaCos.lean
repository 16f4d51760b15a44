/-
  CONTRACT: CodeOfWord of the specification.
-/
import Derived.Test.YtdcphheeapmjcaaCow
namespace Go.Proofs.Ytdcphheeapmjcaa
open Go.ChangeShapes Go.WideShapes Go.ChangeAt Go.RowKit
open Wd
theorem cdF_on {l : List UInt8} {p j m : Nat} (hpj : p = 8 * j + m) (hm8 : m < 8) (h : bitW l p = true) : (arr .u8 16 (cdF l p)).setIfInBounds (1 + j) (.int .u8 (bits .or .u8 (cdF l p (1 + j)) (2 ^ (7 - m)))) = arr .u8 16 (updI (cdF l p) (1 + j) (bits .or .u8 (cdF l p (1 + j)) (2 ^ (7 - m)))) ∨ 15 ≤ j := by
  rcases Nat.lt_or_ge j 15 with h | h
  · exact .inl (arr_set _ _ _ _ _ (by omega))
  · exact .inr h
theorem cdF_yes {l : List UInt8} {p j m : Nat} (hpj : p = 8 * j + m) (hm8 : m < 8) (hj : j < 15) (h : bitW l p = true) : (arr .u8 16 (cdF l p)).setIfInBounds (1 + j) (.int .u8 (bits .or .u8 (cdF l p (1 + j)) (2 ^ (7 - m)))) = arr .u8 16 (cdF l (p + 1)) := by
  rw [arr_set _ _ _ _ _ (by omega)]
  congr 1
  show _ = if bitW l p then updI (cdF l p) (1 + p / 8) (bits .or .u8 (cdF l p (1 + p / 8)) (2 ^ (7 - p % 8))) else cdF l p
  rw [if_pos h, show p / 8 = j by omega, show p % 8 = m by omega]
theorem cdF_no {l : List UInt8} {p : Nat} (h : bitW l p = false) : cdF l p = cdF l (p + 1) := by
  show _ = if bitW l p then updI (cdF l p) (1 + p / 8) (bits .or .u8 (cdF l p (1 + p / 8)) (2 ^ (7 - p % 8))) else cdF l p
  rw [h]; rfl
theorem pow_mod {m : Nat} (h : m < 8) : (2 : Int) ^ (7 - m) % 256 = 2 ^ (7 - m) := by
  have : m = 0 ∨ m = 1 ∨ m = 2 ∨ m = 3 ∨ m = 4 ∨ m = 5 ∨ m = 6 ∨ m = 7 := by omega
  rcases this with rfl | rfl | rfl | rfl | rfl | rfl | rfl | rfl <;> rfl
theorem and1_i64 {y : Int} (h0 : 0 ≤ y) (h1 : y < 256) : bits .and .i64 y 1 = y % 2 := by
  obtain ⟨n, rfl⟩ : ∃ n : Nat, y = n := ⟨y.toNat, by omega⟩
  have : ∀ n : Nat, n < 256 → bits .and .i64 (n : Int) 1 = (n : Int) % 2 := by decide +kernel
  exact this n (by omega)
set_option maxRecDepth 100000 in
set_option maxHeartbeats 4000000 in
theorem scode_any (l : List UInt8) (hm : l.length ≤ 4000000) (w : World) : Calls Try.prog 20 #[.string (txt l)] w (CwPost l w) := by
  unfold CwPost codeF
  have hs := txt_size l
  have OK := Lib.hid (fun w => ok_any l hm w)
  have Z : arr .u8 16 (fun _ => 0) = #[Value.int .u8 0, .int .u8 0, .int .u8 0, .int .u8 0, .int .u8 0, .int .u8 0, .int .u8 0, .int .u8 0, .int .u8 0, .int .u8 0, .int .u8 0, .int .u8 0, .int .u8 0, .int .u8 0, .int .u8 0, .int .u8 0] := rfl
  have S1 : ((w.alloc (.cells (arr .u8 16 (fun _ => 0)) 31)).alloc (.cells (arr .u8 16 (fun _ => 0)) 31)).heap[w.heap.size + 1]? = some (.cells (arr .u8 16 (fun _ => 0)) 31 (0, 0)) := by
    have := World.alloc_heap_new (w.alloc (.cells (arr .u8 16 (fun _ => 0)) 31)) (.cells (arr .u8 16 (fun _ => 0)) 31)
    rw [World.size_alloc] at this
    exact this
  have S0 : ((w.alloc (.cells (arr .u8 16 (fun _ => 0)) 31)).alloc (.cells (arr .u8 16 (fun _ => 0)) 31)).heap[w.heap.size]? = some (.cells (arr .u8 16 (fun _ => 0)) 31 (0, 0)) := (Below.heap_alloc _ _ _ (by simp)).trans (World.alloc_heap_new w (.cells (arr .u8 16 (fun _ => 0)) 31))
  have SB : Below w.heap.size w ((w.alloc (.cells (arr .u8 16 (fun _ => 0)) 31)).alloc (.cells (arr .u8 16 (fun _ => 0)) 31)) := ((Below.refl _ w).alloc (Nat.le_refl _) _).alloc (by simp) _
  have H1 := Lib.hid S1
  have H0 := Lib.hid S0
  have HB := Lib.hid SB
  clear S1 S0 SB
  rw [Z] at H1 H0 HB
  cases hb : wordB l
  · go_enter Try.func20, Try.ntmps20
    rw [hb] at OK
    clear Z
    go_wp2_with fail
    refine (OK.out _).mono ?_
    rintro e w' ⟨rfl, rfl⟩
    go_wp2_with (first | (refine wpList_load_row rfl 31 _ rfl (w.heap.size + 1) rfl 31 _ _ _ H1.out Try.underlying31 rfl (code_info _ rfl) ?_) | (refine wpList_store_row rfl 31 _ _ rfl w.heap.size _ rfl rfl 31 _ H0.out (code_info _ rfl) rfl rfl ?_))
    refine bodyPost_ret (v := .tuple #[.agg (arr .u8 16 (fun _ => 0)), .int .i64 1]) ?_ rfl ⟨rfl, ?_⟩
    · exact results_cell_tmp_row Try.results20 _ _ w.heap.size _ _ _ _ rfl H0.out Try.underlying31 rfl (code_info _ rfl)
    · exact HB.out
  · have HL := Lib.hid (wordB_lets hb)
    have hn := wordB_len hb
    have HN := Lib.hid hn
    have hm' : (l.length : Int) ≤ 40 := by omega
    go_enter Try.func20, Try.ntmps20
    rw [hb] at OK
    go_wp2_with fail
    refine (OK.out _).mono ?_
    rintro e w' ⟨rfl, rfl⟩
    have F1 : Hid (((w.alloc (.cells (arr .u8 16 (fun _ => 0)) 31)).alloc (.cells (arr .u8 16 (fun _ => 0)) 31)).frozen? ⟨w.heap.size + 1, 0, none⟩ = false) := Lib.hid (Lib.frozen_of_heap (by rw [Z]; exact H1.out) 0)
    have C1 : Hid (((w.alloc (.cells (arr .u8 16 (fun _ => 0)) 31)).alloc (.cells (arr .u8 16 (fun _ => 0)) 31)).cell? ⟨w.heap.size + 1, 0, none⟩ = some (.int .u8 0)) := Lib.hid ((Lib.cell_of_heap (by rw [Z]; exact H1.out) 0).trans rfl)
    rw [Z] at F1 C1
    clear Z
    generalize (w.alloc (.cells #[Value.int .u8 0, .int .u8 0, .int .u8 0, .int .u8 0, .int .u8 0, .int .u8 0, .int .u8 0, .int .u8 0, .int .u8 0, .int .u8 0, .int .u8 0, .int .u8 0, .int .u8 0, .int .u8 0, .int .u8 0, .int .u8 0] 31)).alloc (.cells #[Value.int .u8 0, .int .u8 0, .int .u8 0, .int .u8 0, .int .u8 0, .int .u8 0, .int .u8 0, .int .u8 0, .int .u8 0, .int .u8 0, .int .u8 0, .int .u8 0, .int .u8 0, .int .u8 0, .int .u8 0, .int .u8 0] 31) = w1 at H1 H0 HB F1 C1 ⊢
    have f1 := F1.out
    have c1 := C1.out
    go_wp2
    have G1 : Hid ((w1.setCell ⟨w.heap.size + 1, 0, none⟩ (.int .u8 (l.length : Int))).heap[w.heap.size + 1]? = some (.cells (arr .u8 16 (cdF l 0)) 31 (0, 0))) := Lib.hid (by rw [heap_setCell_at H1.out]; rfl)
    have G0 : Hid ((w1.setCell ⟨w.heap.size + 1, 0, none⟩ (.int .u8 (l.length : Int))).heap[w.heap.size]? = some (.cells (arr .u8 16 (fun _ => 0)) 31 (0, 0))) := Lib.hid (by rw [heap_setCell_far (by omega)]; exact H0.out)
    have GB : Hid (Below w.heap.size w (w1.setCell ⟨w.heap.size + 1, 0, none⟩ (.int .u8 (l.length : Int)))) := Lib.hid (HB.out.setCell (p := ⟨w.heap.size + 1, _, none⟩) (by simp) _)
    generalize w1.setCell ⟨w.heap.size + 1, 0, none⟩ (.int .u8 (l.length : Int)) = w2 at G1 G0 GB ⊢
    clear H1 H0 HB F1 C1 f1 c1 OK hn hm
    go_loopw [5] (fun z wr => ∃ i : Nat, i ≤ l.length ∧ z = .int .i64 (i : Int) ∧ wr.heap[w.heap.size + 1]? = some (.cells (arr .u8 16 (cdF l (3 * i))) 31 (0, 0)) ∧ wr.heap[w.heap.size]? = some (.cells (arr .u8 16 (fun _ => 0)) 31 (0, 0)) ∧ Below w.heap.size w wr) (fun z _ => l.length - (intOf z).toNat)
    case atStart => exact ⟨0, Nat.zero_le _, rfl, G1.out, G0.out, GB.out⟩
    case round =>
      obtain ⟨i, hi, rfl, hg, h0, hB⟩ := hrel
      have HG := Lib.hid hg
      have H0 := Lib.hid h0
      have HB := Lib.hid hB
      clear hg h0 hB G1 G0 GB
      by_cases hlt : i < l.length
      · have t1 : decide (i < l.length) = true := by simpa using hlt
        have hix := idx_txt l i hlt
        have HLT := Lib.hid hlt
        have IL : Hid (isL l[i] = true) := Lib.hid (HL.out _ (List.getElem_mem hlt))
        have BW : Hid (∀ b, b < 3 → bitW l (3 * i + b) = decide ((lnum l[i]).toNat / 2 ^ (2 - b) % 2 = 1)) := Lib.hid fun b hb => bitW_at rfl hb hlt
        have hlet := Lib.hid (letter_any l[i])
        obtain ⟨n0, n7⟩ := lnum_yes IL.out
        have hi' : (i : Int) ≤ 39 := by omega
        generalize l[i] = c at hix IL BW hlet n0 n7
        clear hlt hi
        go_wp2
        go_loopw [6] (fun z wr => ∃ b : Nat, b ≤ 3 ∧ z = .int .i64 (b : Int) ∧ wr.heap[w.heap.size + 1]? = some (.cells (arr .u8 16 (cdF l (3 * i + b))) 31 (0, 0)) ∧ wr.heap[w.heap.size]? = some (.cells (arr .u8 16 (fun _ => 0)) 31 (0, 0)) ∧ Below w.heap.size w wr) (fun z _ => 3 - (intOf z).toNat)
        case atStart => exact ⟨0, Nat.zero_le _, rfl, HG.out, H0.out, HB.out⟩
        case round =>
          obtain ⟨b, hb, rfl, hg, h0, hB⟩ := hrel
          have KG := Lib.hid hg
          have K0 := Lib.hid h0
          have KB := Lib.hid hB
          clear hg h0 hB HG H0 HB
          by_cases hb3 : b < 3
          · have t2 : decide ((b : Int) < 3) = true := by simp; omega
            obtain ⟨p, hp⟩ : ∃ p, p = 3 * i + b := ⟨_, rfl⟩
            have hpI : 3 * (i : Int) + (b : Int) = (p : Int) := by omega
            have BWb := BW.out b hb3
            rw [← hp] at KG BWb
            obtain ⟨j, m, hm8, hpj⟩ : ∃ j m, m < 8 ∧ p = 8 * j + m := ⟨p / 8, p % 8, by omega, by omega⟩
            have hj : j < 15 := by omega
            have HP := Lib.hid hp
            have HPJ := Lib.hid hpj
            have HB3 := Lib.hid hb3
            have q8 : (p : Int) / 8 = (j : Int) := by omega
            have r8 : (p : Int) % 8 = (m : Int) := by omega
            have hb' : (b : Int) ≤ 2 := by omega
            have hm8' : (m : Int) ≤ 7 := by omega
            have hj' : (j : Int) ≤ 14 := by omega
            have hp' : (p : Int) ≤ 119 := by omega
            have hcj : wr.cell? ⟨w.heap.size + 1, 1 + j, none⟩ = some (.int .u8 (cdF l p (1 + j))) := (Lib.cell_of_heap KG.out (1 + j)).trans (arr_get _ _ _ _ (by omega))
            have hfj : wr.frozen? ⟨w.heap.size + 1, 1 + j, none⟩ = false := Lib.frozen_of_heap KG.out (1 + j)
            obtain ⟨c0, c1⟩ := cdF_ok HN.out p (1 + j)
            have hd : lnum c / 2 ^ (2 - b) = (((lnum c).toNat / 2 ^ (2 - b) : Nat) : Int) := div_nat n0 _
            have hy := Nat.div_le_self (lnum c).toNat (2 ^ (2 - b))
            generalize (lnum c).toNat / 2 ^ (2 - b) = y at hd hy BWb
            have ha := and1_i64 (y := (y : Int)) (by omega) (by omega)
            cases hbw : bitW l p
            · have tb : (((y : Int) % 2) == 1) = false := by
                rw [beq_eq_false_iff_ne]
                rw [hbw] at BWb
                have := of_decide_eq_false BWb.symm
                omega
              have NX : Hid (cdF l p = cdF l (p + 1)) := Lib.hid (cdF_no hbw)
              clear hp hpj hb BWb hy hbw
              go_wp2_with (go_at_call 63; refine (hlet.out _).mono ?_; rintro e w' ⟨rfl, rfl⟩)
              go_roundw
              case rel => exact ⟨b + 1, HB3.out, by go_num, by rw [← Nat.add_assoc, ← HP.out, ← NX.out]; exact KG.out, K0.out, KB.out⟩
              case measure => have := HB3.out; simp [intOf]; omega
            · have tb : (((y : Int) % 2) == 1) = true := by
                rw [hbw] at BWb
                have := of_decide_eq_true BWb.symm
                simp
                omega
              have NX := Lib.hid (cdF_yes hpj hm8 hj hbw)
              have wp : Hid ((2 : Int) ^ (7 - m) % 256 = 2 ^ (7 - m)) := Lib.hid (pow_mod hm8)
              clear hp hpj hb BWb hy hbw
              go_wp2_with (go_at_call 63; refine (hlet.out _).mono ?_; rintro e w' ⟨rfl, rfl⟩)
              go_roundw
              case rel => exact ⟨b + 1, HB3.out, by go_num, by rw [← Nat.add_assoc, ← HP.out, heap_setCell_at KG.out, ← NX.out, wp.out], by rw [heap_setCell_far (by omega)]; exact K0.out, KB.out.setCell (p := ⟨w.heap.size + 1, _, none⟩) (by simp) _⟩
              case measure => have := HB3.out; simp [intOf]; omega
          · obtain rfl : b = 3 := by omega
            clear hb
            go_wp2
            go_roundw
            case rel => exact ⟨i + 1, HLT.out, by go_num, KG.out, K0.out, KB.out⟩
            case measure => have := HLT.out; simp [intOf]; omega
      · obtain rfl : i = l.length := by omega
        clear hlt hi
        go_wp2_with (first | (refine wpList_load_row rfl 31 _ rfl (w.heap.size + 1) rfl 31 _ _ _ HG.out Try.underlying31 rfl (code_info _ (arr_size _ _ _)) ?_) | (refine wpList_store_row rfl 31 _ _ rfl w.heap.size (arr .u8 16 (cdF l (3 * l.length))) rfl rfl 31 _ H0.out (code_info _ (arr_size _ _ _)) (by rw [arr_size, arr_size]) (arr_cells _ _ _) ?_))
        refine bodyPost_ret (v := .tuple #[.agg (arr .u8 16 (cdF l (3 * l.length))), .int .i64 0]) ?_ rfl ⟨rfl, ?_⟩
        · exact results_cell_tmp_row Try.results20 _ _ w.heap.size _ _ _ _ rfl (setRow_heap _ _ _ _ _ _ H0.out) Try.underlying31 rfl (code_info _ (arr_size _ _ _))
        · exact below_setRow HB.out (Nat.le_refl _) _
set_option maxRecDepth 20000 in
set_option maxHeartbeats 2000000 in
theorem eqcode_any (f g : Nat → Int) (h : ∀ i, i < 16 → f i = g i) (w : World) :
    Calls Try.prog 22 #[.agg (A16 f), .agg (A16 g)] w fun e w' => e = .returned (.bool true) ∧ Below w.heap.size w w' := by
  have hfg : A16 g = A16 f := by rw [← arr16, ← arr16]; exact arr_congr fun i hi => (h i hi).symm
  rw [hfg]
  clear hfg h
  have R0 : Hid (((w.alloc (.cells (A16 f) 31)).alloc (.cells (A16 f) 31)).heap[w.heap.size]? = some (.cells (arr .u8 16 f) 31 (0, 0))) := Lib.hid ((Below.heap_alloc _ _ _ (by simp)).trans (World.alloc_heap_new w _))
  have R1 : Hid (((w.alloc (.cells (A16 f) 31)).alloc (.cells (A16 f) 31)).heap[w.heap.size + 1]? = some (.cells (arr .u8 16 f) 31 (0, 0))) := Lib.hid (by
    have := World.alloc_heap_new (w.alloc (.cells (A16 f) 31)) (.cells (A16 f) 31)
    rw [World.size_alloc] at this
    exact this)
  have BB : Hid (Below w.heap.size w ((w.alloc (.cells (A16 f) 31)).alloc (.cells (A16 f) 31))) := Lib.hid (((Below.refl _ w).alloc (Nat.le_refl _) _).alloc (by simp) _)
  go_enter Try.func22, Try.ntmps22
  go_wp2
  generalize (w.alloc (.cells (A16 f) 31)).alloc (.cells (A16 f) 31) = w1 at R0 R1 BB ⊢
  go_loopw [5] (fun i wr => ∃ k n : Nat, k ≤ 16 ∧ i = .int .i64 k ∧ wr = w1.drewN n) (fun i _ => 16 - (intOf i).toNat)
  case atStart => exact ⟨0, 0, by omega, rfl, rfl⟩
  case round =>
    obtain ⟨k, n, hk, rfl, hw⟩ := hrel
    have W := Lib.hid hw
    by_cases hlt : k < 16
    · have hlt' : (k : Int) < 16 := by omega
      have c1 : wr.cell? ⟨w.heap.size, k, none⟩ = some (.int .u8 (f k)) := by rw [hw]; exact (Lib.cell_of_heap R0.out k).trans (arr_get _ _ _ _ hlt)
      have c2 : wr.cell? ⟨w.heap.size + 1, k, none⟩ = some (.int .u8 (f k)) := by rw [hw]; exact (Lib.cell_of_heap R1.out k).trans (arr_get _ _ _ _ hlt)
      clear hw
      generalize f k = v at c1 c2
      go_wp2
      go_quiet (fail)
      go_wp2
      go_roundw
      case rel => exact ⟨k + 1, _, by omega, by go_num, by rw [W.out, World.drewN_drewN]⟩
      case measure => simp [intOf]; omega
    · obtain rfl : k = 16 := by omega
      have B : Hid (Below w.heap.size w wr) := Lib.hid (by rw [hw]; exact BB.out.trans ⟨rfl, rfl, rfl, Nat.le_refl _, fun _ _ => rfl⟩)
      clear hw W
      go_wp2
      go_ret
      exact ⟨rfl, B.out⟩
set_option maxRecDepth 20000 in
set_option maxHeartbeats 4000000 in
theorem law_CodeOfWord (l : List UInt8) (w : World) :
    Calls Try.prog 6 #[.string (txt l)] w fun e w' => e = .returned (.bool true) ∧ Below w.heap.size w w' := by
  have hs := txt_size l
  by_cases hm : l.length ≤ 1048576
  · have hm' : (l.length : Int) ≤ 1048576 := by omega
    have t1 : decide ((1048576 : Int) < (l.length : Int)) = false := by simp; omega
    have h1 := Lib.hid (fun w => scode_any l (by omega) w)
    have h2 := Lib.hid (fun w => icode_any l (by omega) w)
    unfold CwPost at h1 h2
    rw [arr16] at h1 h2
    generalize codeF l = f at h1 h2
    generalize (if wordB l = true then (0 : Int) else 1) = C at h1 h2
    have HE := Lib.hid (eqcode_any f f (fun _ _ => rfl))
    go_enter Try.func6, Try.ntmps6
    go_wp2_with fail
    refine (h1.out _).mono ?_
    rintro e w1 ⟨rfl, B1⟩
    have X1 : Hid (Below w.heap.size w (w1.alloc (.cells (A16 f) 31))) := Lib.hid (B1.alloc B1.size _)
    clear B1 h1
    go_wp2_with fail
    have R1 : Hid ((w1.alloc (.cells (A16 f) 31)).heap[w1.heap.size]? = some (.cells (A16 f) 31 (0, 0))) := Lib.hid (World.alloc_heap_new w1 _)
    have L1 : Hid (w1.heap.size < (w1.alloc (.cells (A16 f) 31)).heap.size) := Lib.hid (by simp)
    generalize w1.alloc (.cells (A16 f) 31) = z1 at X1 R1 L1 ⊢
    refine (h2.out _).mono ?_
    rintro e w2 ⟨rfl, B2⟩
    have X2 : Hid (Below w.heap.size w (w2.alloc (.cells (A16 f) 31))) := Lib.hid (by have := X1.out.trans (B2.mono X1.out.size); exact this.alloc this.size _)
    have R2 : Hid ((w2.alloc (.cells (A16 f) 31)).heap[w1.heap.size]? = some (.cells (A16 f) 31 (0, 0))) := Lib.hid ((Below.heap_alloc _ _ _ (by have := B2.size; have := L1.out; omega)).trans ((B2.block _ L1.out).trans R1.out))
    have R3 : Hid ((w2.alloc (.cells (A16 f) 31)).heap[w2.heap.size]? = some (.cells (A16 f) 31 (0, 0))) := Lib.hid (World.alloc_heap_new w2 _)
    clear B2 h2 X1 R1 L1
    go_wp2_with (first | (refine wpList_load_row rfl 31 _ rfl w2.heap.size rfl 31 _ _ _ R3.out Try.underlying31 rfl (code_info _ rfl) ?_) | (refine wpList_load_row rfl 31 _ rfl w1.heap.size rfl 31 _ _ _ R2.out Try.underlying31 rfl (code_info _ rfl) ?_) | (go_at_call 22; refine (HE.out _).mono ?_; rintro e w3 ⟨rfl, B3⟩))
    go_ret
    exact ⟨rfl, X2.out.trans (B3.mono X2.out.size)⟩
  · have t1 : decide ((1048576 : Int) < (l.length : Int)) = true := by simp; omega
    go_enter Try.func6, Try.ntmps6
    go_wp2
    go_ret
    exact ⟨rfl, Below.refl _ _⟩
end Go.Proofs.Ytdcphheeapmjcaa
