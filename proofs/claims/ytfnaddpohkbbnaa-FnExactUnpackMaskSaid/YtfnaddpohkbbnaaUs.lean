/-
  CONTRACT: UnpackMask of the specification.
-/
import Derived.Test.YtfnaddpohkbbnaaUk
import Derived.Test.YtfnaddpohkbbnaaMs
namespace Go.Proofs.Ytfnaddpohkbbnaa
open Go.ChangeShapes Go.WideShapes Go.ChangeAt Go.RowKit
set_option maxRecDepth 20000 in
set_option maxHeartbeats 8000000 in
theorem sunpack_any (D : List UInt8) (hD : D.length ≤ 1048576) (av : Option Addr) (cap : Nat) (w : World) (hR : DR w.heap.size w av D) : Calls Try.prog 24 #[.slice av D.length cap] w (UnPost D w) := by
  unfold UnPost
  have S1 : ((w.alloc (.cells (M16 zI) 24)).alloc (.cells (M16 zI) 24)).heap[w.heap.size + 1]? = some (.cells (M16 zI) 24 (0, 0)) := by
    have := World.alloc_heap_new (w.alloc (.cells (M16 zI) 24)) (.cells (M16 zI) 24)
    rw [World.size_alloc] at this
    exact this
  have S0 : ((w.alloc (.cells (M16 zI) 24)).alloc (.cells (M16 zI) 24)).heap[w.heap.size]? = some (.cells (M16 zI) 24 (0, 0)) := (Below.heap_alloc _ _ _ (by simp)).trans (World.alloc_heap_new w _)
  have SB : Below w.heap.size w ((w.alloc (.cells (M16 zI) 24)).alloc (.cells (M16 zI) 24)) := ((Below.refl _ w).alloc (Nat.le_refl _) _).alloc (by simp) _
  have Z : M16 zI = #[Value.int .u16 0, Value.int .u16 0, Value.int .u16 0, Value.int .u16 0, Value.int .u16 0, Value.int .u16 0, Value.int .u16 0, Value.int .u16 0, Value.int .u16 0, Value.int .u16 0, Value.int .u16 0, Value.int .u16 0, Value.int .u16 0, Value.int .u16 0, Value.int .u16 0, Value.int .u16 0] := rfl
  have H1 := Lib.hid S1
  have H0 := Lib.hid S0
  have HB := Lib.hid SB
  clear S1 S0 SB
  rw [Z] at H1 H0 HB
  obtain ⟨W1, hW1⟩ : ∃ W1, ((w.alloc (.cells #[Value.int .u16 0, Value.int .u16 0, Value.int .u16 0, Value.int .u16 0, Value.int .u16 0, Value.int .u16 0, Value.int .u16 0, Value.int .u16 0, Value.int .u16 0, Value.int .u16 0, Value.int .u16 0, Value.int .u16 0, Value.int .u16 0, Value.int .u16 0, Value.int .u16 0, Value.int .u16 0] 24)).alloc (.cells #[Value.int .u16 0, Value.int .u16 0, Value.int .u16 0, Value.int .u16 0, Value.int .u16 0, Value.int .u16 0, Value.int .u16 0, Value.int .u16 0, Value.int .u16 0, Value.int .u16 0, Value.int .u16 0, Value.int .u16 0, Value.int .u16 0, Value.int .u16 0, Value.int .u16 0, Value.int .u16 0] 24)).setRow (w.heap.size + 1) (M16 zI) = W1 := ⟨_, rfl⟩
  have K1 : Hid (W1.heap[w.heap.size + 1]? = some (.cells (M16 zI) 24 (0, 0))) := Lib.hid (by rw [← hW1]; exact setRow_heap _ _ _ _ _ _ H1.out)
  have K0 : Hid (W1.heap[w.heap.size]? = some (.cells #[Value.int .u16 0, Value.int .u16 0, Value.int .u16 0, Value.int .u16 0, Value.int .u16 0, Value.int .u16 0, Value.int .u16 0, Value.int .u16 0, Value.int .u16 0, Value.int .u16 0, Value.int .u16 0, Value.int .u16 0, Value.int .u16 0, Value.int .u16 0, Value.int .u16 0, Value.int .u16 0] 24 (0, 0))) := Lib.hid (by rw [← hW1, setRow_other _ _ _ _ (by omega)]; exact H0.out)
  have KB : Hid (Below w.heap.size w W1) := Lib.hid (by rw [← hW1]; exact below_setRow HB.out (by omega) _)
  clear Z H0 HB
  have HR := Lib.hid hR
  have PK := Lib.hid (fun w => spack_any (uF D) (mkF_MB _ _) w)
  have hD' : (D.length : Int) ≤ 1048576 := by omega
  unfold PkPost at PK
  clear hR
  go_enter Try.func24, Try.ntmps24
  go_wp2_with (refine wpList_store_row rfl 24 _ _ rfl (w.heap.size + 1) (M16 zI) rfl rfl 24 _ H1.out (mask_info _ rfl) rfl (arr_cells _ _ _) ?_; rw [hW1])
  clear hW1 H1
  go_loopw [5, 6, 7] (fun at' i _ wr => ∃ i' a : Nat, i' ≤ D.length ∧ a ≤ 256 ∧ a = (rowD D i').length ∧ i = .int .i64 (i' : Int) ∧ at' = .int .i64 (a : Int) ∧ wr.heap[w.heap.size + 1]? = some (.cells (M16 (mkF (gF D) a)) 24 (0, 0)) ∧ wr.heap[w.heap.size]? = some (.cells #[Value.int .u16 0, Value.int .u16 0, Value.int .u16 0, Value.int .u16 0, Value.int .u16 0, Value.int .u16 0, Value.int .u16 0, Value.int .u16 0, Value.int .u16 0, Value.int .u16 0, Value.int .u16 0, Value.int .u16 0, Value.int .u16 0, Value.int .u16 0, Value.int .u16 0, Value.int .u16 0] 24 (0, 0)) ∧ Below w.heap.size w wr) (fun _ i _ _ => D.length - (intOf i).toNat)
  case atStart => exact ⟨0, 0, by omega, by omega, rfl, rfl, rfl, K1.out, K0.out, KB.out⟩
  case round =>
    obtain ⟨i, a, hi, ha, hal, rfl, rfl, h1, h0, hB⟩ := hrel
    have L1 := Lib.hid h1
    have L0 := Lib.hid h0
    have LB := Lib.hid hB
    clear h1 h0 hB K0 K1 KB
    by_cases hlt : i < D.length
    · have ti : (i : Int) < (D.length : Int) := by omega
      have HI := Lib.hid hlt
      obtain ⟨g, off, rfl, hg, hcs⟩ : ∃ g off, av = some ⟨g, off, none⟩ ∧ g < w.heap.size ∧ ∀ j (hj : j < D.length), w.cell? ⟨g, off + j, none⟩ = some (.int .u8 (((D[j]'hj).toNat : Nat) : Int)) := by
        rcases HR.out with h | h
        · omega
        · exact h
      obtain ⟨d, hd⟩ : ∃ d, (D.getD i 0).toNat = d := ⟨_, rfl⟩
      have hdv : (D[i]'hlt).toNat = d := by rw [← hd]; simp [List.getD_eq_getElem?_getD, List.getElem?_eq_getElem hlt]
      have DC : Hid (∀ wr, Below w.heap.size w wr → wr.cell? ⟨g, off + i, none⟩ = some (.int .u8 (d : Int))) := Lib.hid fun wr hb => (hb.cell (p := ⟨g, off + i, none⟩) hg).trans (by rw [hcs i hlt, hdv])
      have hd255 : d ≤ 255 := by have := (D[i]'hlt).toNat_lt; omega
      have hdi : (d : Int) ≤ 255 := by omega
      have HD := Lib.hid hd
      have HAL := Lib.hid hal
      clear hcs hd hdv hal
      go_wp2
      go_loopw [5, 7] (fun at' n wr => ∃ j a' : Nat, j ≤ d ∧ a' ≤ 256 ∧ a' = a + j ∧ n = .int .i64 (j : Int) ∧ at' = .int .i64 (a' : Int) ∧ wr.heap[w.heap.size + 1]? = some (.cells (M16 (mkF (gF D) a')) 24 (0, 0)) ∧ wr.heap[w.heap.size]? = some (.cells #[Value.int .u16 0, Value.int .u16 0, Value.int .u16 0, Value.int .u16 0, Value.int .u16 0, Value.int .u16 0, Value.int .u16 0, Value.int .u16 0, Value.int .u16 0, Value.int .u16 0, Value.int .u16 0, Value.int .u16 0, Value.int .u16 0, Value.int .u16 0, Value.int .u16 0, Value.int .u16 0] 24 (0, 0)) ∧ Below w.heap.size w wr) (fun _ n _ => d - (intOf n).toNat)
      case atStart => exact ⟨0, a, by omega, ha, rfl, rfl, rfl, L1.out, L0.out, LB.out⟩
      case round =>
        obtain ⟨j, b, hj, hb, hbj, rfl, rfl, h1, h0, hB⟩ := hrel
        have cD := DC.out _ hB
        clear L1 L0 LB
        have L1 := Lib.hid h1
        have L0 := Lib.hid h0
        have LB := Lib.hid hB
        clear h1 h0 hB
        by_cases hjd : j < d
        · have tj : (j : Int) < (d : Int) := by omega
          by_cases h256 : b = 256
          · have RN := un_long (D := D) (by
              have h1 := rowD_mono D (show i + 1 ≤ D.length from HI.out)
              rw [rowD_len, HD.out, ← HAL.out] at h1
              omega)
            subst h256
            clear hbj
            go_wp2_with (refine wpList_store_row rfl 24 _ _ rfl w.heap.size (M16 zI) rfl rfl 24 _ L0.out (mask_info _ rfl) rfl (arr_cells _ _ _) ?_)
            refine bodyPost_ret (v := .tuple #[.agg (M16 zI), .int .i64 5]) ?_ rfl ⟨by rw [RN.1, RN.2], ?_⟩
            · exact results_cell_tmp_row Try.results24 _ _ w.heap.size _ _ _ _ rfl (setRow_heap _ _ _ _ _ _ L0.out) Try.underlying24 rfl (mask_info _ rfl)
            · exact below_setRow LB.out (Nat.le_refl _) _

          · have tb : (b : Int) < 256 := by omega
            have tb2 : ((b : Int) == 256) = false := by simp; omega
            have GI : Hid (gF D b = onD i) := Lib.hid (by rw [hbj, HAL.out]; exact gF_in D HI.out (by rw [HD.out]; exact hjd))
            obtain ⟨x, y, hx, hy, hxy⟩ : ∃ x y, x < 16 ∧ y < 16 ∧ b = 16 * y + x := ⟨b % 16, b / 16, by omega, by omega, by omega⟩
            have q1 : (b : Int) / 16 = (y : Int) := by omega
            have q2 : (b : Int) % 16 = (x : Int) := by omega
            have hcy : wr.cell? ⟨w.heap.size + 1, y, none⟩ = some (.int .u16 (mkF (gF D) b y)) := (Lib.cell_of_heap L1.out y).trans (arr_get _ _ _ _ hy)
            have hfy : wr.frozen? ⟨w.heap.size + 1, y, none⟩ = false := Lib.frozen_of_heap L1.out y
            have MS := shl1 hx
            have hx' : (x : Int) < 16 := by omega
            have hy' : (y : Int) < 16 := by omega
            have HY := Lib.hid hy
            have HJ := Lib.hid hjd
            have HB2 : Hid (b + 1 ≤ 256 ∧ b + 1 = a + (j + 1)) := Lib.hid ⟨by omega, by omega⟩
            have NY : Hid (onD i = true → mkF (gF D) (b + 1) = setF (mkF (gF D) b) x y) := Lib.hid (fun h => by rw [← GI.out] at h; rw [hxy] at h ⊢; exact mkF_yes hx h)
            have NN : Hid (onD i = false → mkF (gF D) (b + 1) = mkF (gF D) b) := Lib.hid (fun h => mkF_no (by rw [GI.out]; exact h))
            clear hxy hx hy hjd hb hbj h256 hj
            by_cases hodd : i % 2 = 1
            · have te : (i : Int) % 2 = 1 := by omega
              have tm : Int.tmod (i : Int) 2 = 1 := by rw [Int.tmod_eq_emod_of_nonneg (by omega)]; omega
              have NX := Lib.hid (NY.out (by unfold onD; simpa using hodd))
              clear NY NN hodd
              go_wp2
              go_roundw
              case rel => exact ⟨j + 1, b + 1, HJ.out, HB2.out.1, HB2.out.2, by go_num, by go_num, by rw [NX.out]; exact (mset_at L1.out y _).trans (by rw [arr_set _ _ _ _ _ HY.out]; rfl), (mset_far (by omega) _).trans L0.out, LB.out.setCell (p := ⟨w.heap.size + 1, y, none⟩) (by simp) _⟩
              case measure => have := HJ.out; simp [intOf]; omega
            · have te : (i : Int) % 2 = 0 := by omega
              have tm : Int.tmod (i : Int) 2 = 0 := by rw [Int.tmod_eq_emod_of_nonneg (by omega)]; omega
              have NX := Lib.hid (NN.out (by unfold onD; simp; omega))
              clear NY NN hodd
              go_wp2
              go_roundw
              case rel => exact ⟨j + 1, b + 1, HJ.out, HB2.out.1, HB2.out.2, by go_num, by go_num, by rw [NX.out]; exact L1.out, L0.out, LB.out⟩
              case measure => have := HJ.out; simp [intOf]; omega
        · obtain rfl : j = d := by omega
          have HN : Hid (b = (rowD D (i + 1)).length) := Lib.hid (by rw [rowD_len, HD.out, ← HAL.out]; exact hbj)
          have HB2 := Lib.hid hb
          clear hjd hj hbj hb
          go_wp2
          go_roundw
          case rel => exact ⟨i + 1, b, HI.out, HB2.out, HN.out, by go_num, rfl, L1.out, L0.out, LB.out⟩
          case measure => have := HI.out; simp [intOf]; omega
    · obtain rfl : i = D.length := by omega
      clear hlt hi
      have HAL := Lib.hid hal
      clear hal
      by_cases hodd : D.length % 2 = 1
      · have te : (D.length : Int) % 2 = 1 := by omega
        have tm : Int.tmod (D.length : Int) 2 = 1 := by rw [Int.tmod_eq_emod_of_nonneg (by omega)]; omega
        have OD : Hid (onD D.length = true) := Lib.hid (by unfold onD; simpa using hodd)
        have GE : Hid (∀ b, a ≤ b → b < 256 → gF D b = true) := Lib.hid (fun b h1 h2 => by rw [gF_end D (by rw [← HAL.out]; exact h1) h2]; exact OD.out)
        clear hodd OD
        go_wp2
        go_loopw [5] (fun at' wr => ∃ b : Nat, a ≤ b ∧ b ≤ 256 ∧ at' = .int .i64 (b : Int) ∧ wr.heap[w.heap.size + 1]? = some (.cells (M16 (mkF (gF D) b)) 24 (0, 0)) ∧ wr.heap[w.heap.size]? = some (.cells #[Value.int .u16 0, Value.int .u16 0, Value.int .u16 0, Value.int .u16 0, Value.int .u16 0, Value.int .u16 0, Value.int .u16 0, Value.int .u16 0, Value.int .u16 0, Value.int .u16 0, Value.int .u16 0, Value.int .u16 0, Value.int .u16 0, Value.int .u16 0, Value.int .u16 0, Value.int .u16 0] 24 (0, 0)) ∧ Below w.heap.size w wr) (fun at' _ => 256 - (intOf at').toNat)
        case atStart => exact ⟨a, Nat.le_refl _, ha, rfl, L1.out, L0.out, LB.out⟩
        case round =>
          obtain ⟨b, hab, hb, rfl, h1, h0, hB⟩ := hrel
          clear L1 L0 LB
          have L1 := Lib.hid h1
          have L0 := Lib.hid h0
          have LB := Lib.hid hB
          clear h1 h0 hB
          by_cases hlt : b < 256
          · have tb : (b : Int) < 256 := by omega
            obtain ⟨x, y, hx, hy, hxy⟩ : ∃ x y, x < 16 ∧ y < 16 ∧ b = 16 * y + x := ⟨b % 16, b / 16, by omega, by omega, by omega⟩
            have q1 : (b : Int) / 16 = (y : Int) := by omega
            have q2 : (b : Int) % 16 = (x : Int) := by omega
            have hcy : wr.cell? ⟨w.heap.size + 1, y, none⟩ = some (.int .u16 (mkF (gF D) b y)) := (Lib.cell_of_heap L1.out y).trans (arr_get _ _ _ _ hy)
            have hfy : wr.frozen? ⟨w.heap.size + 1, y, none⟩ = false := Lib.frozen_of_heap L1.out y
            have MS := shl1 hx
            have hx' : (x : Int) < 16 := by omega
            have hy' : (y : Int) < 16 := by omega
            have HY := Lib.hid hy
            have HB2 : Hid (a ≤ b + 1 ∧ b + 1 ≤ 256) := Lib.hid ⟨by omega, by omega⟩
            have NX : Hid (mkF (gF D) (b + 1) = setF (mkF (gF D) b) x y) := Lib.hid (by have h := GE.out b hab hlt; rw [hxy] at h ⊢; exact mkF_yes hx h)
            clear hxy hx hy hab hb hlt
            go_wp2
            go_roundw
            case rel => exact ⟨b + 1, HB2.out.1, HB2.out.2, by go_num, by rw [NX.out]; exact (mset_at L1.out y _).trans (by rw [arr_set _ _ _ _ _ HY.out]; rfl), (mset_far (by omega) _).trans L0.out, LB.out.setCell (p := ⟨w.heap.size + 1, y, none⟩) (by simp) _⟩
            case measure => have := HB2.out.2; simp [intOf]; omega
          · obtain rfl : b = 256 := by omega
            have UE : uF D = mkF (gF D) 256 := rfl
            clear hlt hab hb GE
            have L1' : Hid (wr.heap[w.heap.size + 1]? = some (.cells (M16 (uF D)) 24 (0, 0))) := Lib.hid (by rw [show uF D = mkF (gF D) 256 from UE]; exact L1.out)
            have LZ : Hid (w.heap.size + 1 < wr.heap.size) := Lib.hid (Array.getElem?_eq_some_iff.1 L1.out).1
            clear L1 UE
            go_wp2_with (refine wpList_load_row rfl 24 _ rfl (w.heap.size + 1) rfl 24 _ _ _ L1'.out Try.underlying24 rfl (mask_info _ (arr_size _ _ _)) ?_)
            refine (PK.out _).mono ?_
            rintro e w2 ⟨v, rfl, hO, b2⟩
            have G1 := Lib.hid ((b2.block (w.heap.size + 1) LZ.out).trans L1'.out)
            have G0 := Lib.hid ((b2.block w.heap.size (by have := LZ.out; omega)).trans L0.out)
            have GB := Lib.hid (LB.out.trans (b2.mono (by have := LZ.out; omega)))
            clear b2 L1' L0 LB LZ PK
            obtain ⟨p, hp⟩ : ∃ p, pkL (uF D) = p := ⟨_, rfl⟩
            have hO' : w2.ownsRow wr.heap.size 5 1 v p.length (bytesN p) := by rw [← hp]; exact hO
            clear hO
            have RY := Lib.hid (fun h : p = natD D => un_yes (D := D) (hp.trans h))
            have RNN := Lib.hid (fun h : p ≠ natD D => un_no (D := D) (by rw [hp]; exact h))
            have HPL : Hid (p.length ≤ 256) := Lib.hid (by rw [← hp]; exact pkL_len _)
            generalize uF D = f at G1 hp RY
            clear hp
            obtain ⟨pa, pc, rfl, hpc⟩ : ∃ pa pc, v = .slice pa p.length pc ∧ (p.length = 0 ∨ ∃ g', pa = some ⟨g', 0, none⟩ ∧ ∀ j (hj : j < p.length), w2.cell? ⟨g', j, none⟩ = some (.int .u8 (((p[j]'hj : Nat)) : Int))) := by
              rcases hO'.2 with ⟨rfl, h0⟩ | ⟨g', cp, cur, rfl, _⟩
              · exact ⟨none, 0, by rw [h0], .inl h0⟩
              · exact ⟨_, cp, rfl, .inr ⟨g', rfl, fun j hj => by rw [hO'.cellAt j (by omega)]; simp [bytesN, hj]⟩⟩
            clear hO'
            have HPC := Lib.hid hpc
            clear hpc
            have hp' : (p.length : Int) ≤ 256 := by have := HPL.out; omega
            by_cases hl : p.length = D.length
            · have tl : ((p.length : Int) != (D.length : Int)) = false := by simp; omega
              rw [hl] at tl ⊢
              have HLL := Lib.hid hl
              clear hp' hl
              go_wp2
              go_loopw [9] (fun i wr => ∃ k q : Nat, k ≤ D.length ∧ i = .int .i64 (k : Int) ∧ p.take k = (natD D).take k ∧ wr = w2.drewN q) (fun i _ => D.length - (intOf i).toNat)
              case atStart => exact ⟨0, 0, Nat.zero_le _, rfl, rfl, rfl⟩
              case round =>
                obtain ⟨k, q, hk, rfl, heq, hw⟩ := hrel
                have HQ := Lib.hid heq
                have HW := Lib.hid hw
                have M1 : Hid (wr.heap[w.heap.size + 1]? = some (.cells (M16 f) 24 (0, 0))) := Lib.hid (by rw [hw]; exact G1.out)
                have M0 : Hid (wr.heap[w.heap.size]? = some (.cells #[Value.int .u16 0, Value.int .u16 0, Value.int .u16 0, Value.int .u16 0, Value.int .u16 0, Value.int .u16 0, Value.int .u16 0, Value.int .u16 0, Value.int .u16 0, Value.int .u16 0, Value.int .u16 0, Value.int .u16 0, Value.int .u16 0, Value.int .u16 0, Value.int .u16 0, Value.int .u16 0] 24 (0, 0))) := Lib.hid (by rw [hw]; exact G0.out)
                have MB' : Hid (Below w.heap.size w wr) := Lib.hid (by rw [hw]; exact GB.out.trans ⟨rfl, rfl, rfl, Nat.le_refl _, fun _ _ => rfl⟩)
                clear heq
                by_cases hkl : k < D.length
                · have tk : (k : Int) < (D.length : Int) := by omega
                  have HK := Lib.hid hkl
                  have hkp : k < p.length := by have := HLL.out; omega
                  obtain ⟨g', rfl, hcp⟩ : ∃ g', pa = some ⟨g', 0, none⟩ ∧ ∀ j (hj : j < p.length), w2.cell? ⟨g', j, none⟩ = some (.int .u8 (((p[j]'hj : Nat)) : Int)) := by
                    rcases HPC.out with h | h
                    · omega
                    · exact h
                  obtain ⟨g, off, rfl, hg, hcs⟩ : ∃ g off, av = some ⟨g, off, none⟩ ∧ g < w.heap.size ∧ ∀ j (hj : j < D.length), w.cell? ⟨g, off + j, none⟩ = some (.int .u8 (((D[j]'hj).toNat : Nat) : Int)) := by
                    rcases HR.out with h | h
                    · omega
                    · exact h
                  have cp : wr.cell? ⟨g', k, none⟩ = some (.int .u8 (((p[k]'hkp : Nat)) : Int)) := by rw [hw]; exact hcp k hkp
                  have cd : wr.cell? ⟨g, off + k, none⟩ = some (.int .u8 (((D[k]'hkl).toNat : Nat) : Int)) := (MB'.out.cell (p := ⟨g, off + k, none⟩) hg).trans (hcs k hkl)
                  have NQ : Hid (p[k]'hkp = (D[k]'hkl).toNat → p.take (k + 1) = (natD D).take (k + 1)) := Lib.hid fun h => by
                    rw [List.take_succ_eq_append_getElem hkp, List.take_succ_eq_append_getElem (show k < (natD D).length by simp [natD]; exact hkl), HQ.out, h]
                    simp [natD]
                  have NE : Hid (p[k]'hkp ≠ (D[k]'hkl).toNat → p ≠ natD D) := Lib.hid fun h h' => h (by subst h'; simp [natD])
                  generalize (D[k]'hkl).toNat = y at cd NQ NE
                  generalize p[k]'hkp = x at cp NQ NE
                  clear hkl hkp hcp hcs hg hk
                  by_cases hxy : x = y
                  · have NX := Lib.hid (NQ.out hxy)
                    subst hxy
                    clear NQ NE hw
                    go_wp2
                    go_quiet (fail)
                    go_wp2
                    go_roundw
                    case rel => exact ⟨k + 1, _, HK.out, by go_num, NX.out, by rw [HW.out, World.drewN_drewN]⟩
                    case measure => have := HK.out; simp [intOf]; omega
                  · have txy : ((x : Int) != (y : Int)) = true := by simp; omega
                    have RN := RNN.out (NE.out hxy)
                    clear NQ NE hw hxy
                    go_wp2
                    go_quiet (fail)
                    go_wp2_with (refine wpList_store_row rfl 24 _ _ rfl w.heap.size (M16 zI) rfl rfl 24 _ M0.out (mask_info _ rfl) rfl (arr_cells _ _ _) ?_)
                    refine bodyPost_ret (v := .tuple #[.agg (M16 zI), .int .i64 5]) ?_ rfl ⟨by rw [RN.1, RN.2], ?_⟩
                    · exact results_cell_tmp_row Try.results24 _ _ w.heap.size _ _ _ _ rfl (setRow_heap _ _ _ _ _ _ M0.out) Try.underlying24 rfl (mask_info _ (arr_size _ _ _))
                    · exact below_setRow (mdrewN MB'.out _) (Nat.le_refl _) _
                · obtain rfl : k = D.length := by omega
                  have RZ := RY.out (by have := HQ.out; rwa [List.take_of_length_le (by have := HLL.out; omega), List.take_of_length_le (by simp [natD])] at this)
                  clear hkl hw hk
                  go_wp2_with (first | (refine wpList_load_row rfl 24 _ rfl (w.heap.size + 1) rfl 24 _ _ _ M1.out Try.underlying24 rfl (mask_info _ (arr_size _ _ _)) ?_) | (refine wpList_store_row rfl 24 _ _ rfl w.heap.size (M16 f) rfl rfl 24 _ M0.out (mask_info _ rfl) rfl (arr_cells _ _ _) ?_))
                  refine bodyPost_ret (v := .tuple #[.agg (M16 f), .int .i64 0]) ?_ rfl ⟨by rw [RZ.1, RZ.2], ?_⟩
                  · exact results_cell_tmp_row Try.results24 _ _ w.heap.size _ _ _ _ rfl (setRow_heap _ _ _ _ _ _ M0.out) Try.underlying24 rfl (mask_info _ (arr_size _ _ _))
                  · exact below_setRow MB'.out (Nat.le_refl _) _
            · have tl : ((p.length : Int) != (D.length : Int)) = true := by simp; omega
              have RN := RNN.out (fun h => hl (by rw [h]; simp [natD]))
              clear hl
              go_wp2_with (refine wpList_store_row rfl 24 _ _ rfl w.heap.size (M16 zI) rfl rfl 24 _ G0.out (mask_info _ rfl) rfl (arr_cells _ _ _) ?_)
              refine bodyPost_ret (v := .tuple #[.agg (M16 zI), .int .i64 5]) ?_ rfl ⟨by rw [RN.1, RN.2], ?_⟩
              · exact results_cell_tmp_row Try.results24 _ _ w.heap.size _ _ _ _ rfl (setRow_heap _ _ _ _ _ _ G0.out) Try.underlying24 rfl (mask_info _ (arr_size _ _ _))
              · exact below_setRow GB.out (Nat.le_refl _) _
      · have te : (D.length : Int) % 2 = 0 := by omega
        have tm : Int.tmod (D.length : Int) 2 = 0 := by rw [Int.tmod_eq_emod_of_nonneg (by omega)]; omega
        have UE : uF D = mkF (gF D) a := by
          have h := mkF_stay (gF D) a (256 - a) (fun i h1 h2 => by rw [gF_end D (by rw [← HAL.out]; exact h1) (by omega)]; unfold onD; simp; omega)
          rw [show a + (256 - a) = 256 by omega] at h
          exact h
        clear hodd
        go_wp2
        go_loopw [5] (fun at' w3 => at' = .int .i64 (a : Int) ∧ w3 = wr) (fun _ _ => 0)
        case atStart => exact ⟨rfl, rfl⟩
        case round =>
          obtain ⟨rfl, hwq⟩ := hrel
          subst hwq
          have L1' : Hid (wr.heap[w.heap.size + 1]? = some (.cells (M16 (uF D)) 24 (0, 0))) := Lib.hid (by rw [show uF D = mkF (gF D) a from UE]; exact L1.out)
          have LZ : Hid (w.heap.size + 1 < wr.heap.size) := Lib.hid (Array.getElem?_eq_some_iff.1 L1.out).1
          clear L1 UE
          go_wp2_with (refine wpList_load_row rfl 24 _ rfl (w.heap.size + 1) rfl 24 _ _ _ L1'.out Try.underlying24 rfl (mask_info _ (arr_size _ _ _)) ?_)
          refine (PK.out _).mono ?_
          rintro e w2 ⟨v, rfl, hO, b2⟩
          have G1 := Lib.hid ((b2.block (w.heap.size + 1) LZ.out).trans L1'.out)
          have G0 := Lib.hid ((b2.block w.heap.size (by have := LZ.out; omega)).trans L0.out)
          have GB := Lib.hid (LB.out.trans (b2.mono (by have := LZ.out; omega)))
          clear b2 L1' L0 LB LZ PK
          obtain ⟨p, hp⟩ : ∃ p, pkL (uF D) = p := ⟨_, rfl⟩
          have hO' : w2.ownsRow wr.heap.size 5 1 v p.length (bytesN p) := by rw [← hp]; exact hO
          clear hO
          have RY := Lib.hid (fun h : p = natD D => un_yes (D := D) (hp.trans h))
          have RNN := Lib.hid (fun h : p ≠ natD D => un_no (D := D) (by rw [hp]; exact h))
          have HPL : Hid (p.length ≤ 256) := Lib.hid (by rw [← hp]; exact pkL_len _)
          generalize uF D = f at G1 hp RY
          clear hp
          obtain ⟨pa, pc, rfl, hpc⟩ : ∃ pa pc, v = .slice pa p.length pc ∧ (p.length = 0 ∨ ∃ g', pa = some ⟨g', 0, none⟩ ∧ ∀ j (hj : j < p.length), w2.cell? ⟨g', j, none⟩ = some (.int .u8 (((p[j]'hj : Nat)) : Int))) := by
            rcases hO'.2 with ⟨rfl, h0⟩ | ⟨g', cp, cur, rfl, _⟩
            · exact ⟨none, 0, by rw [h0], .inl h0⟩
            · exact ⟨_, cp, rfl, .inr ⟨g', rfl, fun j hj => by rw [hO'.cellAt j (by omega)]; simp [bytesN, hj]⟩⟩
          clear hO'
          have HPC := Lib.hid hpc
          clear hpc
          have hp' : (p.length : Int) ≤ 256 := by have := HPL.out; omega
          by_cases hl : p.length = D.length
          · have tl : ((p.length : Int) != (D.length : Int)) = false := by simp; omega
            rw [hl] at tl ⊢
            have HLL := Lib.hid hl
            clear hp' hl
            go_wp2
            go_loopw [9] (fun i wr => ∃ k q : Nat, k ≤ D.length ∧ i = .int .i64 (k : Int) ∧ p.take k = (natD D).take k ∧ wr = w2.drewN q) (fun i _ => D.length - (intOf i).toNat)
            case atStart => exact ⟨0, 0, Nat.zero_le _, rfl, rfl, rfl⟩
            case round =>
              obtain ⟨k, q, hk, rfl, heq, hw⟩ := hrel
              have HQ := Lib.hid heq
              have HW := Lib.hid hw
              have M1 : Hid (wr.heap[w.heap.size + 1]? = some (.cells (M16 f) 24 (0, 0))) := Lib.hid (by rw [hw]; exact G1.out)
              have M0 : Hid (wr.heap[w.heap.size]? = some (.cells #[Value.int .u16 0, Value.int .u16 0, Value.int .u16 0, Value.int .u16 0, Value.int .u16 0, Value.int .u16 0, Value.int .u16 0, Value.int .u16 0, Value.int .u16 0, Value.int .u16 0, Value.int .u16 0, Value.int .u16 0, Value.int .u16 0, Value.int .u16 0, Value.int .u16 0, Value.int .u16 0] 24 (0, 0))) := Lib.hid (by rw [hw]; exact G0.out)
              have MB' : Hid (Below w.heap.size w wr) := Lib.hid (by rw [hw]; exact GB.out.trans ⟨rfl, rfl, rfl, Nat.le_refl _, fun _ _ => rfl⟩)
              clear heq
              by_cases hkl : k < D.length
              · have tk : (k : Int) < (D.length : Int) := by omega
                have HK := Lib.hid hkl
                have hkp : k < p.length := by have := HLL.out; omega
                obtain ⟨g', rfl, hcp⟩ : ∃ g', pa = some ⟨g', 0, none⟩ ∧ ∀ j (hj : j < p.length), w2.cell? ⟨g', j, none⟩ = some (.int .u8 (((p[j]'hj : Nat)) : Int)) := by
                  rcases HPC.out with h | h
                  · omega
                  · exact h
                obtain ⟨g, off, rfl, hg, hcs⟩ : ∃ g off, av = some ⟨g, off, none⟩ ∧ g < w.heap.size ∧ ∀ j (hj : j < D.length), w.cell? ⟨g, off + j, none⟩ = some (.int .u8 (((D[j]'hj).toNat : Nat) : Int)) := by
                  rcases HR.out with h | h
                  · omega
                  · exact h
                have cp : wr.cell? ⟨g', k, none⟩ = some (.int .u8 (((p[k]'hkp : Nat)) : Int)) := by rw [hw]; exact hcp k hkp
                have cd : wr.cell? ⟨g, off + k, none⟩ = some (.int .u8 (((D[k]'hkl).toNat : Nat) : Int)) := (MB'.out.cell (p := ⟨g, off + k, none⟩) hg).trans (hcs k hkl)
                have NQ : Hid (p[k]'hkp = (D[k]'hkl).toNat → p.take (k + 1) = (natD D).take (k + 1)) := Lib.hid fun h => by
                  rw [List.take_succ_eq_append_getElem hkp, List.take_succ_eq_append_getElem (show k < (natD D).length by simp [natD]; exact hkl), HQ.out, h]
                  simp [natD]
                have NE : Hid (p[k]'hkp ≠ (D[k]'hkl).toNat → p ≠ natD D) := Lib.hid fun h h' => h (by subst h'; simp [natD])
                generalize (D[k]'hkl).toNat = y at cd NQ NE
                generalize p[k]'hkp = x at cp NQ NE
                clear hkl hkp hcp hcs hg hk
                by_cases hxy : x = y
                · have NX := Lib.hid (NQ.out hxy)
                  subst hxy
                  clear NQ NE hw
                  go_wp2
                  go_quiet (fail)
                  go_wp2
                  go_roundw
                  case rel => exact ⟨k + 1, _, HK.out, by go_num, NX.out, by rw [HW.out, World.drewN_drewN]⟩
                  case measure => have := HK.out; simp [intOf]; omega
                · have txy : ((x : Int) != (y : Int)) = true := by simp; omega
                  have RN := RNN.out (NE.out hxy)
                  clear NQ NE hw hxy
                  go_wp2
                  go_quiet (fail)
                  go_wp2_with (refine wpList_store_row rfl 24 _ _ rfl w.heap.size (M16 zI) rfl rfl 24 _ M0.out (mask_info _ rfl) rfl (arr_cells _ _ _) ?_)
                  refine bodyPost_ret (v := .tuple #[.agg (M16 zI), .int .i64 5]) ?_ rfl ⟨by rw [RN.1, RN.2], ?_⟩
                  · exact results_cell_tmp_row Try.results24 _ _ w.heap.size _ _ _ _ rfl (setRow_heap _ _ _ _ _ _ M0.out) Try.underlying24 rfl (mask_info _ (arr_size _ _ _))
                  · exact below_setRow (mdrewN MB'.out _) (Nat.le_refl _) _
              · obtain rfl : k = D.length := by omega
                have RZ := RY.out (by have := HQ.out; rwa [List.take_of_length_le (by have := HLL.out; omega), List.take_of_length_le (by simp [natD])] at this)
                clear hkl hw hk
                go_wp2_with (first | (refine wpList_load_row rfl 24 _ rfl (w.heap.size + 1) rfl 24 _ _ _ M1.out Try.underlying24 rfl (mask_info _ (arr_size _ _ _)) ?_) | (refine wpList_store_row rfl 24 _ _ rfl w.heap.size (M16 f) rfl rfl 24 _ M0.out (mask_info _ rfl) rfl (arr_cells _ _ _) ?_))
                refine bodyPost_ret (v := .tuple #[.agg (M16 f), .int .i64 0]) ?_ rfl ⟨by rw [RZ.1, RZ.2], ?_⟩
                · exact results_cell_tmp_row Try.results24 _ _ w.heap.size _ _ _ _ rfl (setRow_heap _ _ _ _ _ _ M0.out) Try.underlying24 rfl (mask_info _ (arr_size _ _ _))
                · exact below_setRow MB'.out (Nat.le_refl _) _
          · have tl : ((p.length : Int) != (D.length : Int)) = true := by simp; omega
            have RN := RNN.out (fun h => hl (by rw [h]; simp [natD]))
            clear hl
            go_wp2_with (refine wpList_store_row rfl 24 _ _ rfl w.heap.size (M16 zI) rfl rfl 24 _ G0.out (mask_info _ rfl) rfl (arr_cells _ _ _) ?_)
            refine bodyPost_ret (v := .tuple #[.agg (M16 zI), .int .i64 5]) ?_ rfl ⟨by rw [RN.1, RN.2], ?_⟩
            · exact results_cell_tmp_row Try.results24 _ _ w.heap.size _ _ _ _ rfl (setRow_heap _ _ _ _ _ _ G0.out) Try.underlying24 rfl (mask_info _ (arr_size _ _ _))
            · exact below_setRow GB.out (Nat.le_refl _) _
end Go.Proofs.Ytfnaddpohkbbnaa
