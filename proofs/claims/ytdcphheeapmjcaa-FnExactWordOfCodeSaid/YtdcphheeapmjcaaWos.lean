/-
  CONTRACT: WordOfCode of the specification; the law.
-/
import Derived.Test.YtdcphheeapmjcaaWoc
import Derived.Test.YtdcphheeapmjcaaFd
namespace Go.Proofs.Ytdcphheeapmjcaa
open Go.ChangeShapes Go.WideShapes Go.ChangeAt Go.RowKit
open Wd
theorem fslice_chr2 (K : Nat) (hK : K ≤ 7) (w : World) : (Instr.slice 9 (.string (⟨#[97, 65, 98, 66, 99, 67, 100, 68]⟩ : ByteArray)) (some (.int .i64 (K : Int))) (some (.int .i64 ((K : Int) + 1))) none).run Try.prog w = .ok (.string (txt [chr K])) w := by
  have := fslice_lz [97, 65, 98, 66, 99, 67, 100, 68] K (K + 1) (by omega) (by simp; omega) (K : Int) ((K : Int) + 1) rfl (by push_cast; rfl) w
  refine this.trans ?_
  have : K = 0 ∨ K = 1 ∨ K = 2 ∨ K = 3 ∨ K = 4 ∨ K = 5 ∨ K = 6 ∨ K = 7 := by omega
  rcases this with rfl | rfl | rfl | rfl | rfl | rfl | rfl | rfl <;> rfl
theorem wcL_succ (f : Nat → Int) (i : Nat) : wcL f (i + 1) = wcL f i ++ [chr (numP f i 3)] := by simp [wcL, List.range_succ]
set_option maxRecDepth 100000 in
set_option maxHeartbeats 8000000 in
theorem swoc_any (f : Nat → Int) (hf : ∀ i, i < 16 → 0 ≤ f i ∧ f i ≤ 255) (w : World) : Calls Try.prog 23 #[.agg (arr .u8 16 f)] w (WocPost f w) := by
  unfold WocPost
  have HF := Lib.hid hf
  obtain ⟨a0, a1⟩ := hf 0 (by omega)
  have b0 : Below w.heap.size w (w.alloc (.cells (arr .u8 16 f) 31)) := (Below.refl _ w).alloc (Nat.le_refl _) _
  have h0 : (w.alloc (.cells (arr .u8 16 f) 31)).heap[w.heap.size]? = some (.cells (arr .u8 16 f) 31 (0, 0)) := World.alloc_heap_new w _
  have c0 : (w.alloc (.cells (arr .u8 16 f) 31)).cell? ⟨w.heap.size, 0, none⟩ = some (.int .u8 (f 0)) := (Lib.cell_of_heap h0 0).trans (arr_get _ _ _ _ (by omega))
  have B0 := Lib.hid b0
  have H0 := Lib.hid h0
  have S0 : Hid ((w.alloc (.cells (arr .u8 16 f) 31)).heap.size = w.heap.size + 1) := Lib.hid (by simp)
  clear b0 h0 hf
  by_cases h40 : f 0 ≤ 40
  · obtain ⟨n, hn⟩ : ∃ n : Nat, f 0 = n := ⟨(f 0).toNat, by omega⟩
    rw [hn] at c0
    have HN := Lib.hid hn
    have hn' : (n : Int) ≤ 40 := by omega
    have CELL : Hid (∀ j, j < 16 → (w.alloc (.cells (arr .u8 16 f) 31)).cell? ⟨w.heap.size, j, none⟩ = some (.int .u8 (f j))) := Lib.hid fun j hj => (Lib.cell_of_heap H0.out j).trans (arr_get _ _ _ _ hj)
    clear hn a0 a1 h40
    go_enter Try.func23, Try.ntmps23
    generalize hPP : TextPost (if wocOk f = true then wcL f (f 0).toNat else []) (if wocOk f = true then 0 else 5) w = PP
    have HPP := Lib.hid hPP
    clear hPP
    generalize hW1 : w.alloc (.cells (arr .u8 16 f) 31) = w1 at *
    go_wp2
    clear hW1
    go_loopw [4, 5] (fun out z wr => ∃ i : Nat, i ≤ n ∧ z = .int .i64 (i : Int) ∧ out = .string (txt (wcL f i)) ∧ wr = w1) (fun _ z _ => n - (intOf z).toNat)
    case atStart => exact ⟨0, Nat.zero_le _, rfl, rfl, rfl⟩
    case round =>
      obtain ⟨i, hi, rfl, rfl, rfl⟩ := hrel
      have hsz := txt_size (wcL f i)
      rw [wcL_length] at hsz
      by_cases hlt : i < n
      · have t1 : decide (i < n) = true := by simpa using hlt
        have HLT := Lib.hid hlt
        have hi' : (i : Int) ≤ 39 := by omega
        have W3 := Lib.hid (wcL_succ f i)
        have K7 := (numP_lt f i).2.2
        have K7' : (numP f i 3 : Int) ≤ 7 := by omega
        have SL := fslice_chr2 (numP f i 3) K7
        have z2 : (txt [chr (numP f i 3)]).size = 1 := rfl
        clear hlt hi
        go_wp2
        go_loopw [6, 7] (fun kk z wq => ∃ b : Nat, b ≤ 3 ∧ z = .int .i64 (b : Int) ∧ kk = .int .i64 (numP f i b : Int) ∧ wq = wr) (fun _ z _ => 3 - (intOf z).toNat)
        case atStart => exact ⟨0, Nat.zero_le _, rfl, rfl, rfl⟩
        case round =>
          obtain ⟨b, hb, rfl, rfl, rfl⟩ := hrel
          by_cases hb3 : b < 3
          · have t2 : decide ((b : Int) < 3) = true := by simp; omega
            obtain ⟨p, hp⟩ : ∃ p, p = 3 * i + b := ⟨_, rfl⟩
            have hpI : 3 * (i : Int) + (b : Int) = (p : Int) := by omega
            obtain ⟨j, m, hm8, hpj⟩ : ∃ j m, m < 8 ∧ p = 8 * j + m := ⟨p / 8, p % 8, by omega, by omega⟩
            have hj : j < 15 := by omega
            have hcj := CELL.out (1 + j) (by omega)
            obtain ⟨c0', c1'⟩ := HF.out (1 + j) (by omega)
            have hbv := bitC_val hpj hm8 ⟨c0', c1'⟩
            have hb1 := bitC_lt f p
            have hnb := numP_b f i b (by omega)
            have NS : Hid ((numP f i (b + 1) : Int) = 2 * (numP f i b : Int) + (bitC f p : Int)) := Lib.hid (by rw [hp]; simp [numP])
            have q8 : (p : Int) / 8 = (j : Int) := by omega
            have r8 : (p : Int) % 8 = (m : Int) := by omega
            have hb' : (b : Int) ≤ 2 := by omega
            have hm8' : (m : Int) ≤ 7 := by omega
            have hj' : (j : Int) ≤ 14 := by omega
            have hp' : (p : Int) ≤ 119 := by omega
            have HB3 := Lib.hid hb3
            have hx1 : (bitC f p : Int) ≤ 1 := by omega
            have hx3 : (numP f i b : Int) ≤ 3 := by omega
            clear hp hpj hb hb1 hnb hb3
            generalize numP f i b = v at *
            generalize bitC f p = x at *
            go_wp2
            go_roundw
            case rel => exact ⟨b + 1, HB3.out, by go_num, by rw [NS.out], trivial⟩
            case measure => have := HB3.out; simp [intOf]; omega
          · obtain rfl : b = 3 := by omega
            clear hb hb3
            generalize numP f i 3 = v at *
            go_wp2
            go_roundw
            case rel => exact ⟨i + 1, HLT.out, by go_num, by rw [W3.out, txt_app], trivial⟩
            case measure => have := HLT.out; simp [intOf]; omega
      · obtain rfl : i = n := by omega
        clear hlt hi
        have WL := wcL_letters f i
        have WN := wcL_length f i
        have WB : wordB (wcL f i) = true := by unfold wordB lets; rw [Bool.and_eq_true, List.all_eq_true]; exact ⟨WL, by rw [WN]; simp; omega⟩
        have SC : Hid (∀ w', Calls Try.prog 20 #[.string (txt (wcL f i))] w' fun e w'' => e = .returned (.tuple #[.agg (A16 (cdF (wcL f i) (3 * i))), .int .i64 0]) ∧ Below w'.heap.size w' w'') := Lib.hid fun w' => by
          have := scode_any (wcL f i) (by omega) w'
          unfold CwPost codeF at this
          rw [WB, WN] at this
          exact this
        have OKQ : wocOk f = (List.range 16).all fun k => cdF (wcL f i) (3 * i) k == f k := by unfold wocOk; rw [HN.out, Int.toNat_natCast, decide_eq_true hn', Bool.true_and]
        have hS : ∀ w, (Op.equalIn 10000 31 (.agg (A16 (cdF (wcL f i) (3 * i)))) (.agg (arr .u8 16 f))).run Try.prog w = .ok (wocOk f) w := fun w => by
          rw [OKQ]
          exact eqArrI (P := Try.prog) (t := 31) (q := .u8) _ f Try.underlying31 Try.underlying5 (by kernel_rfl) w
        have FIN : Hid (∀ w', Below wr.heap.size wr w' → PP (.returned (.tuple #[.string (txt (if wocOk f then wcL f i else [])), .int .i64 (if wocOk f then 0 else 5)])) w') := Lib.hid fun w' hb => by
          rw [← HPP.out, HN.out, Int.toNat_natCast]
          exact ⟨rfl, B0.out.trans (hb.mono B0.out.size)⟩
        clear OKQ HPP WL WN WB HN CELL hsz
        generalize cdF (wcL f i) (3 * i) = cf at *
        generalize wcL f i = wl at *
        go_wp2_with fail
        refine (SC.out _).mono ?_
        rintro e w2 ⟨rfl, B2⟩
        have X2 : Hid (Below wr.heap.size wr (w2.alloc (.cells (A16 cf) 31))) := Lib.hid (B2.alloc B2.size _)
        have R2 : Hid ((w2.alloc (.cells (A16 cf) 31)).heap[w2.heap.size]? = some (.cells (A16 cf) 31 (0, 0))) := Lib.hid (World.alloc_heap_new w2 _)
        have R0 : Hid ((w2.alloc (.cells (A16 cf) 31)).heap[w.heap.size]? = some (.cells (arr .u8 16 f) 31 (0, 0))) := Lib.hid (by rw [X2.out.block _ (by have := S0.out; omega)]; exact H0.out)
        clear B2 SC
        cases hok : wocOk f
        · rw [hok] at hS FIN
          have F2 : Hid (∀ w', Below wr.heap.size wr w' → PP (.returned (.tuple #[.string (⟨#[]⟩ : ByteArray), .int .i64 5])) w') := FIN
          clear FIN
          go_wp2_with (first | (refine wpList_load_row rfl 31 _ rfl w2.heap.size rfl 31 _ _ _ R2.out Try.underlying31 rfl (code_info _ rfl) ?_) | (refine wpList_load_row rfl 31 _ rfl w.heap.size rfl 31 _ _ _ R0.out Try.underlying31 rfl (code_info _ (arr_size _ _ _)) ?_))
          exact F2.out _ X2.out
        · rw [hok] at hS FIN
          have F2 : Hid (∀ w', Below wr.heap.size wr w' → PP (.returned (.tuple #[.string (txt wl), .int .i64 0])) w') := FIN
          clear FIN
          go_wp2_with (first | (refine wpList_load_row rfl 31 _ rfl w2.heap.size rfl 31 _ _ _ R2.out Try.underlying31 rfl (code_info _ rfl) ?_) | (refine wpList_load_row rfl 31 _ rfl w.heap.size rfl 31 _ _ _ R0.out Try.underlying31 rfl (code_info _ (arr_size _ _ _)) ?_))
          exact F2.out _ X2.out
  · have hw : wocOk f = false := by unfold wocOk; rw [decide_eq_false h40, Bool.false_and]
    rw [hw, if_neg (by simp), if_neg (by simp)]
    have t1 : decide ((40 : Int) < f 0) = true := by simp; omega
    clear hw
    go_enter Try.func23, Try.ntmps23
    go_wp2
    go_ret2
    exact ⟨rfl, B0.out⟩
set_option maxRecDepth 100000 in
set_option maxHeartbeats 4000000 in
theorem towc_any (f : Nat → Int) (w : World) : Calls Try.prog 24 #[.agg (arr .u8 16 f)] w fun e w' => e = .returned (.agg (arr .u8 16 f)) ∧ Below w.heap.size w w' := by
  have S0 : Hid ((w.alloc (.cells (arr .u8 16 f) 30)).heap[w.heap.size]? = some (.cells (arr .u8 16 f) 30 (0, 0))) := Lib.hid (World.alloc_heap_new w _)
  have B0 : Hid (Below w.heap.size w (w.alloc (.cells (arr .u8 16 f) 30))) := Lib.hid ((Below.refl _ w).alloc (Nat.le_refl _) _)
  have Z0 : Hid ((w.alloc (.cells (arr .u8 16 f) 30)).heap.size = w.heap.size + 1) := Lib.hid (by simp)
  go_enter Try.func24, Try.ntmps24
  generalize hW1 : w.alloc (.cells (arr .u8 16 f) 30) = w1 at *
  have Zs : w1.heap.size = w.heap.size + 1 := Z0.out
  go_wp2
  clear hW1
  have Z : arr .u8 16 (fun _ => 0) = #[Value.int .u8 0, .int .u8 0, .int .u8 0, .int .u8 0, .int .u8 0, .int .u8 0, .int .u8 0, .int .u8 0, .int .u8 0, .int .u8 0, .int .u8 0, .int .u8 0, .int .u8 0, .int .u8 0, .int .u8 0, .int .u8 0] := rfl
  rw [← Z]
  have A2 : Hid (((w1.alloc (.cells (arr .u8 16 (fun _ => 0)) 31)).alloc (.cells (arr .u8 16 (fun _ => 0)) 31)).heap[w.heap.size + 1 + 1]? = some (.cells (arr .u8 16 (fun _ => 0)) 31 (0, 0))) := Lib.hid (by
    have := World.alloc_heap_new (w1.alloc (.cells (arr .u8 16 (fun _ => 0)) 31)) (.cells (arr .u8 16 (fun _ => 0)) 31)
    rw [World.size_alloc, Zs] at this
    exact this)
  have A1 : Hid (((w1.alloc (.cells (arr .u8 16 (fun _ => 0)) 31)).alloc (.cells (arr .u8 16 (fun _ => 0)) 31)).heap[w.heap.size + 1]? = some (.cells (arr .u8 16 (fun _ => 0)) 31 (0, 0))) := Lib.hid (by
    have := World.alloc_heap_new w1 (.cells (arr .u8 16 (fun _ => 0)) 31)
    rw [Zs] at this
    exact (Below.heap_alloc _ _ _ (by simp [Zs])).trans this)
  have A0 : Hid (((w1.alloc (.cells (arr .u8 16 (fun _ => 0)) 31)).alloc (.cells (arr .u8 16 (fun _ => 0)) 31)).heap[w.heap.size]? = some (.cells (arr .u8 16 f) 30 (0, 0))) := Lib.hid ((Below.heap_alloc _ _ _ (by simp [Zs]; omega)).trans ((Below.heap_alloc _ _ _ (by omega)).trans S0.out))
  have AB : Hid (Below w.heap.size w ((w1.alloc (.cells (arr .u8 16 (fun _ => 0)) 31)).alloc (.cells (arr .u8 16 (fun _ => 0)) 31))) := Lib.hid ((B0.out.alloc (by omega) _).alloc (by simp [Zs]; omega) _)
  generalize (w1.alloc (.cells (arr .u8 16 (fun _ => 0)) 31)).alloc (.cells (arr .u8 16 (fun _ => 0)) 31) = w2 at A2 A1 A0 AB ⊢
  clear S0 B0 Z0 Z Zs
  go_loopw [4] (fun z wr => ∃ k : Nat, k ≤ 16 ∧ z = .int .i64 (k : Int) ∧ wr.heap[w.heap.size + 1 + 1]? = some (.cells (arr .u8 16 (mixI (fun _ => 0) f k)) 31 (0, 0)) ∧ wr.heap[w.heap.size + 1]? = some (.cells (arr .u8 16 (fun _ => 0)) 31 (0, 0)) ∧ wr.heap[w.heap.size]? = some (.cells (arr .u8 16 f) 30 (0, 0)) ∧ Below w.heap.size w wr) (fun z _ => 16 - (intOf z).toNat)
  case atStart => exact ⟨0, by omega, rfl, by rw [mixI_zero]; exact A2.out, A1.out, A0.out, AB.out⟩
  case round =>
    obtain ⟨k, hk, rfl, hg, h1, h0, hB⟩ := hrel
    have HG := Lib.hid hg
    have H1 := Lib.hid h1
    have H0 := Lib.hid h0
    have HB := Lib.hid hB
    clear hg h1 h0 hB A2 A1 A0 AB
    by_cases hlt : k < 16
    · have t1 : decide ((k : Int) < 16) = true := by simp; omega
      have hk' : (k : Int) ≤ 15 := by omega
      have HK := Lib.hid hlt
      have c0 : wr.cell? ⟨w.heap.size, k, none⟩ = some (.int .u8 (f k)) := (Lib.cell_of_heap H0.out k).trans (arr_get _ _ _ _ hlt)
      have c2 : wr.cell? ⟨w.heap.size + 1 + 1, k, none⟩ = some (.int .u8 (mixI (fun _ => 0) f k k)) := (Lib.cell_of_heap HG.out k).trans (arr_get _ _ _ _ hlt)
      have f2 : wr.frozen? ⟨w.heap.size + 1 + 1, k, none⟩ = false := Lib.frozen_of_heap HG.out k
      have NX : Hid ((arr .u8 16 (mixI (fun _ => 0) f k)).setIfInBounds k (.int .u8 (f k)) = arr .u8 16 (mixI (fun _ => 0) f (k + 1))) := Lib.hid (by rw [arr_set _ _ _ _ _ hlt, mixI_step])
      clear hlt hk
      generalize f k = v at c0 NX
      go_wp2
      go_roundw
      case rel => exact ⟨k + 1, HK.out, by go_num, by rw [heap_setCell_at HG.out, NX.out], by rw [heap_setCell_far (by omega)]; exact H1.out, by rw [heap_setCell_far (by omega)]; exact H0.out, HB.out.setCell (p := ⟨w.heap.size + 1 + 1, _, none⟩) (by show _ ≤ w.heap.size + 1 + 1; omega) _⟩
      case measure => have := HK.out; simp [intOf]; omega
    · obtain rfl : k = 16 := by omega
      have G2 : Hid (wr.heap[w.heap.size + 1 + 1]? = some (.cells (arr .u8 16 f) 31 (0, 0))) := Lib.hid (by have := HG.out; rwa [arr_mix] at this)
      clear HG hlt hk
      go_wp2_with (first | (refine wpList_load_row rfl 31 _ rfl (w.heap.size + 1 + 1) rfl 31 _ _ _ G2.out Try.underlying31 rfl (code_info _ (arr_size _ _ _)) ?_) | (refine wpList_store_row rfl 31 _ _ rfl (w.heap.size + 1) (arr .u8 16 f) rfl rfl 31 _ H1.out (code_info _ (arr_size _ _ _)) (by rw [arr_size, arr_size]) (arr_cells _ _ _) ?_))
      refine bodyPost_ret (v := .agg (arr .u8 16 f)) ?_ rfl ⟨rfl, ?_⟩
      · exact results_cell_row Try.results24 _ _ (w.heap.size + 1) _ _ _ _ rfl (setRow_heap _ _ _ _ _ _ H1.out) Try.underlying31 rfl (code_info _ (arr_size _ _ _))
      · exact below_setRow HB.out (by omega) _
theorem b16_info (A : Array Value) (h : A.size = 16) : (Try.prog.info? 30).map (·.size) = some A.size := by rw [h]; kernel_rfl
set_option maxRecDepth 20000 in
set_option maxHeartbeats 4000000 in
theorem fnExactWordOfCode_walk (f : Nat → Int) (hw : ∀ i, i < 16 → (Lit.int .u8 (f i)).wf = true) (w : World) :
    Calls Try.prog 7 #[.agg (arr .u8 16 f)] w fun e w' => e = .returned (.bool true) ∧ Below w.heap.size w w' := by
  have hf : ∀ i, i < 16 → 0 ≤ f i ∧ f i ≤ 255 := fun i hi => by
    have := hw i hi
    simp [Lit.wf, IntKind.min, IntKind.max, IntKind.bits, IntKind.signed] at this
    omega
  have h1 := Lib.hid (fun w => swoc_any f hf w)
  have h2 := Lib.hid (fun w => iwoc_any f hf w)
  have h3 := Lib.hid (fun w => towc_any f w)
  unfold WocPost at h1 h2
  generalize (if wocOk f = true then wcL f (f 0).toNat else []) = R at h1 h2
  generalize (if wocOk f = true then (0 : Int) else 5) = C at h1 h2
  have S0 : Hid ((w.alloc (.cells (arr .u8 16 f) 30)).heap[w.heap.size]? = some (.cells (arr .u8 16 f) 30 (0, 0))) := Lib.hid (World.alloc_heap_new w _)
  have B0 : Hid (Below w.heap.size w (w.alloc (.cells (arr .u8 16 f) 30))) := Lib.hid ((Below.refl _ w).alloc (Nat.le_refl _) _)
  have Z0 : Hid (w.heap.size < (w.alloc (.cells (arr .u8 16 f) 30)).heap.size) := Lib.hid (by simp)
  clear hf hw
  go_enter Try.func7, Try.ntmps7
  generalize hW1 : w.alloc (.cells (arr .u8 16 f) 30) = w1 at *
  go_wp2_with (refine wpList_load_row rfl 30 _ rfl w.heap.size rfl 30 _ _ _ S0.out Try.underlying30 rfl (b16_info _ (arr_size _ _ _)) ?_)
  clear hW1
  refine (h3.out _).mono ?_
  rintro e w2 ⟨rfl, B2⟩
  have X2 : Hid (Below w1.heap.size w1 w2) := Lib.hid B2
  clear B2
  go_wp2_with fail
  refine (h1.out _).mono ?_
  rintro e w3 ⟨rfl, B3⟩
  have X3 : Hid (Below w1.heap.size w1 w3) := Lib.hid (X2.out.trans (B3.mono X2.out.size))
  have S3 : Hid (w3.heap[w.heap.size]? = some (.cells (arr .u8 16 f) 30 (0, 0))) := Lib.hid ((X3.out.block _ Z0.out).trans S0.out)
  clear B3 X2
  go_wp2_with (refine wpList_load_row rfl 30 _ rfl w.heap.size rfl 30 _ _ _ S3.out Try.underlying30 rfl (b16_info _ (arr_size _ _ _)) ?_)
  refine (h3.out _).mono ?_
  rintro e w4 ⟨rfl, B4⟩
  have X4 : Hid (Below w1.heap.size w1 w4) := Lib.hid (X3.out.trans (B4.mono X3.out.size))
  clear B4 X3 S3
  go_wp2_with fail
  refine (h2.out _).mono ?_
  rintro e w5 ⟨rfl, B5⟩
  have X5 : Hid (Below w1.heap.size w1 w5) := Lib.hid (X4.out.trans (B5.mono X4.out.size))
  clear B5 X4
  go_wp2
  go_ret
  exact ⟨rfl, B0.out.trans (X5.out.mono B0.out.size)⟩
end Go.Proofs.Ytdcphheeapmjcaa
