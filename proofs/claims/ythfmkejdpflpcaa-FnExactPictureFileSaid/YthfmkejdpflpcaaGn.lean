/-
  CONTRACT: the specification's l09Pack.
-/
import Derived.Test.YthfmkejdpflpcaaGm
namespace Go.Proofs.Ythfmkejdpflpcaa
open Go.ChangeShapes Go.WideShapes Go.ChangeAt Go.RowKit
def sg4 (k : Nat) : Nat → Int
  | 0 => 77
  | 1 => 80
  | 2 => 78
  | _ => (k : Int)
theorem sg4_is {k : Nat} (h : k < 256) : ∀ j, sg4 k j = sgn4 k j
  | 0 => rfl
  | 1 => rfl
  | 2 => rfl
  | j + 3 => by
    show (k : Int) = (k : Int) % 256
    omega
def AZ (A : Nat → Int) (N : Nat) : Nat → Int := fun j => if j < N then A j else 0
theorem AZ_lo {A : Nat → Int} {N j : Nat} (h : j < N) : AZ A N j = A j := if_pos h
theorem AZ_hi {A : Nat → Int} {N j : Nat} (h : N ≤ j) : AZ A N j = 0 := if_neg (by omega)
set_option maxRecDepth 20000 in
set_option maxHeartbeats 8000000 in
theorem lpack_any (k c n : Nat) (hk1 : 1 ≤ k) (hk : k ≤ 3) (hc : c ≤ 256) (hn : n ≤ 8192) (f : Nat → Int) (hf : ByF n f) (a : Option Addr) (cap : Nat) (w : World) (h : YrR w.heap.size w a n f) :
    Calls Try.prog 81 #[.int .i64 (k : Int), .int .i64 (c : Int), .slice a n cap] w fun e w' => ∃ v, e = .returned v ∧ OwnFr w.heap.size v (pkN n) (pkF (catU (hdF k c n) 12 f) (12 + n)) w' ∧ Below w.heap.size w w' := by
  have AB : Hid (ByF (12 + n) (catU (hdF k c n) 12 f)) := Lib.hid fun j hj => by
    unfold catU
    split
    · exact hdF_by k c n 12 j (by assumption)
    · exact hf _ (by omega)
  have kI : (k : Int) ≤ 3 := by omega
  have cI : (c : Int) ≤ 256 := by omega
  have nI : (n : Int) ≤ 8192 := by omega
  have HN : Hid (k ≤ 3 ∧ c ≤ 256 ∧ n ≤ 8192) := Lib.hid ⟨hk, hc, hn⟩
  have QN : Hid (pkN n ≤ 684 ∧ 12 + n ≤ 12 * pkN n ∧ 12 * pkN n < 12 + n + 12) := Lib.hid (by unfold pkN; omega)
  have HY := Lib.hid h
  obtain ⟨w1, hw1⟩ : ∃ w1, w.alloc (.cells #[.int .u8 77, .int .u8 80, .int .u8 78, .int .u8 (k : Int)] 5) = w1 := ⟨_, rfl⟩
  have B1 : Hid (Below w.heap.size w w1) := Lib.hid (by rw [← hw1]; exact (Below.refl _ w).alloc (Nat.le_refl _) _)
  have O1 : Hid (OwnU w.heap.size (.slice (some ⟨w.heap.size, 0, none⟩) 4 4) 4 (sgn4 k) w1) := Lib.hid (by
    rw [← hw1]
    have : OwnU w.heap.size (.slice (some ⟨w.heap.size, 0, none⟩) 4 4) 4 (sg4 k) (w.alloc (.cells #[.int .u8 77, .int .u8 80, .int .u8 78, .int .u8 (k : Int)] 5)) := ⟨rfl, .inr ⟨w.heap.size, 4, _, rfl, Nat.le_refl _, heap_alloc_new w _, Nat.le_refl _, by unfold maxLen; omega, rfl, rfl⟩⟩
    exact this.congr fun j _ => sg4_is (by omega) j)
  have FC := Lib.hid (fun base w h => four_any c (by omega) base w h)
  have FN := Lib.hid (fun base w h => four_any n (by omega) base w h)
  clear hk1 hk hc hn hf h
  go_enter Try.func81, Try.ntmps81
  go_wp2_with fail
  refine Calls.mono (FC.out w1.heap.size w1 (Nat.le_refl _)) ?_
  rintro e w2 ⟨v, rfl, h2, b2⟩
  obtain ⟨g2, cap2, rfl, -, hg2, hgs2, hc2⟩ := h2.form (by omega)
  have O2 : Hid (OwnU w.heap.size (.slice (some ⟨w.heap.size, 0, none⟩) 4 4) 4 (sgn4 k) w2) := Lib.hid (ownsRow_below O1.out b2)
  have C2 : Hid (∀ j, j < 4 → w2.cell? ⟨g2, 0 + j, none⟩ = some (.int .u8 (byW c j))) := Lib.hid fun j hj => by rw [Nat.zero_add]; exact hc2 j hj
  have B2 : Hid (Below w.heap.size w w2) := Lib.hid (B1.out.trans (b2.mono B1.out.size))
  have Z2 : Hid (w.heap.size ≤ w2.heap.size) := Lib.hid B2.out.size
  clear h2 b2 hg2 hgs2 hc2 hw1 FC O1
  go_wp2_with (at_builtin; refine wpList_append_u rfl _ _ rfl w.heap.size _ 4 (sgn4 k) rfl O2.out g2 0 4 cap2 (byW c) rfl C2.out (by omega) Z2.out w B2.out ?_; intro v3 w3 h1 h2; have O3 := Lib.hid h1; have B3 := Lib.hid h2; clear h1 h2)
  have Z3 : Hid (w.heap.size ≤ w3.heap.size) := Lib.hid B3.out.size
  clear O2 C2 B2 Z2
  refine Calls.mono (FN.out w3.heap.size w3 (Nat.le_refl _)) ?_
  rintro e w4 ⟨v, rfl, h2, b2⟩
  obtain ⟨g4, cap4, rfl, -, hg2, hgs2, hc2⟩ := h2.form (by omega)
  have O4 : Hid (OwnU w.heap.size v3 8 (catU (sgn4 k) 4 (byW c)) w4) := Lib.hid (ownsRow_below O3.out b2)
  have C4 : Hid (∀ j, j < 4 → w4.cell? ⟨g4, 0 + j, none⟩ = some (.int .u8 (byW n j))) := Lib.hid fun j hj => by rw [Nat.zero_add]; exact hc2 j hj
  have B4 : Hid (Below w.heap.size w w4) := Lib.hid (B3.out.trans (b2.mono Z3.out))
  have Z4 : Hid (w.heap.size ≤ w4.heap.size) := Lib.hid B4.out.size
  clear h2 b2 hg2 hgs2 hc2 FN O3 B3 Z3
  go_wp2_with (first | (at_builtin; refine wpList_append_u rfl _ _ rfl w.heap.size _ 8 (catU (sgn4 k) 4 (byW c)) rfl O4.out g4 0 4 cap4 (byW n) rfl C4.out (by omega) Z4.out w B4.out ?_; intro v5 w5 h1 h2; have O5 := Lib.hid h1; have B5 := Lib.hid h2; clear h1 h2; clear O4 C4 B4 Z4; obtain ⟨v6, w6, hr6, O6, G6⟩ := run_append_y 95 v5 12 (hdF k c n) O5.out a n cap f ((HY.out.below B5.out (Nat.le_refl _)).mono' B5.out.size) (by have := HN.out; omega) B5.out.size; have B6 := Lib.hid (B5.out.trans (grown_belowU O5.out G6 B5.out.size)); have P6 := Lib.hid O6; clear O5 B5 O6 G6) | (at_builtin; refine Lib.wpList_append_run _ rfl _ _ _ _ rfl _ _ rfl rfl _ _ hr6 ?_; clear hr6))
  obtain ⟨A, hA⟩ : ∃ A, catU (hdF k c n) 12 f = A := ⟨_, rfl⟩
  rw [hA] at AB P6
  obtain ⟨N, hN⟩ : ∃ N, 12 + n = N := ⟨_, rfl⟩
  obtain ⟨Q, hQ⟩ : ∃ Q, pkN n = Q := ⟨_, rfl⟩
  rw [hN] at AB P6
  have EA := Lib.hid hA
  have EN := Lib.hid hN
  have EQ := Lib.hid hQ
  have QQ : Hid (Q ≤ 684 ∧ 12 ≤ N ∧ N ≤ 12 * Q ∧ 12 * Q < N + 12 ∧ N ≤ 8204) := Lib.hid (by have := QN.out; have := HN.out; omega)
  have OZ : Hid (OwnU w.heap.size v6 N (AZ A N) w6) := Lib.hid (P6.out.congr fun j hj => (AZ_lo hj).symm)
  clear hA hN hQ QN HN HY P6 kI cI nI B1
  go_loopw [7] (fun d wr => ∃ m : Nat, N ≤ m ∧ m ≤ 12 * Q ∧ OwnU w.heap.size d m (AZ A N) wr ∧ Below w.heap.size w wr ∧ ∃ ad cp, d = .slice ad m cp) (fun d _ => 12 * Q - (match d with | .slice _ m _ => m | _ => 0))
  case atStart =>
    obtain ⟨g, cp, hv, -⟩ := OZ.out.form (by have := QQ.out; omega)
    exact ⟨N, Nat.le_refl _, QQ.out.2.2.1, OZ.out, B6.out, _, _, hv⟩
  case round =>
    obtain ⟨m, hm1, hm2, ho, hb, ad, cp, rfl⟩ := hrel
    have HO := Lib.hid ho
    have HB := Lib.hid hb
    have WZ : Hid (w.heap.size ≤ wr.heap.size) := Lib.hid hb.size
    clear ho hb OZ B6
    by_cases hm : m % 12 = 0
    · have tm : (m : Int).tmod 12 = 0 := by rw [Int.tmod_eq_emod_of_nonneg (by omega)]; omega
      have tm2 : (m : Int) % 12 = 0 := by omega
      obtain rfl : m = 12 * Q := by have := QQ.out; omega
      obtain ⟨g, cp', hv, -, hg, hgs, hcell⟩ := HO.out.form (by have := QQ.out; omega)
      obtain ⟨rfl, rfl⟩ : ad = some ⟨g, 0, none⟩ ∧ cp = cp' := by simpa using hv
      have DC : Hid (∀ j, j < 12 * Q → wr.cell? ⟨g, j, none⟩ = some (.int .u8 (AZ A N j))) := Lib.hid hcell
      have GL : Hid (g < wr.heap.size) := Lib.hid hgs
      obtain ⟨M, hM⟩ : ∃ M, 12 * Q = M := ⟨_, rfl⟩
      rw [hM] at DC tm tm2 ⊢
      have HM := Lib.hid hM
      obtain ⟨PF, hPF⟩ : ∃ PF, pkF A N = PF := ⟨_, rfl⟩
      have FE : Hid (∀ kk j, j < 16 → PF (kk * 16 + j) = mkfF kk (padP A N kk) j) := Lib.hid fun kk j hj => by
        rw [← hPF]
        unfold pkF
        rw [show (kk * 16 + j) / 16 = kk by omega, show (kk * 16 + j) % 16 = j by omega]
      have EP := Lib.hid hPF
      have O0 : Hid (OwnFr wr.heap.size (.slice (some ⟨wr.heap.size, 0, none⟩) 0 0) 0 PF (wr.alloc (.cells #[] 104))) := Lib.hid (OwnFr.made PF wr _ (Nat.le_refl _))
      have B0 : Hid (Below wr.heap.size wr (wr.alloc (.cells #[] 104))) := Lib.hid ((Below.refl _ wr).alloc (Nat.le_refl _) _)
      clear hm hm1 hm2 hv hg hgs hcell hM hPF HO
      go_wp2_with fail
      generalize wr.alloc (.cells #[] 104) = w7 at O0 B0 ⊢
      go_loopw [8, 9, 10, 11] (fun o i _ _ wq => ∃ kk : Nat, kk ≤ Q ∧ i = .int .i64 ((12 * kk : Nat) : Int) ∧ OwnFr wr.heap.size o kk PF wq ∧ Below wr.heap.size wr wq) (fun _ i _ _ _ => M + 12 - (intOf i).toNat)
      case atStart => exact ⟨0, Nat.zero_le _, rfl, O0.out, B0.out⟩
      case round =>
        rename World => wq
        obtain ⟨kk, hk, rfl, ho, hb⟩ := hrel
        have HO := Lib.hid ho
        have HQ := Lib.hid hb
        have WQ : Hid (wr.heap.size ≤ wq.heap.size) := Lib.hid hb.size
        clear ho hb O0 B0
        obtain ⟨i, hi⟩ : ∃ i, 12 * kk = i := ⟨_, rfl⟩
        have HI := Lib.hid hi
        rw [hi]
        have iI : (i : Int) ≤ 8220 := by have := QQ.out; omega
        have mI : (M : Int) ≤ 8220 := by have := QQ.out; have := HM.out; omega
        by_cases hlt : kk < Q
        · have tle : (i : Int) < (M : Int) := by have := HM.out; omega
          have PB : Hid (ByF 12 (padP A N kk)) := Lib.hid (padP_by AB.out _ _)
          have HC : Hid (∀ W, Below wr.heap.size wr W → ∀ j, j < 12 → W.cell? ⟨g, i + j, none⟩ = some (.int .u8 (padP A N kk j))) := Lib.hid fun W hW j hj => by
            rw [hW.cell (p := ⟨g, i + j, none⟩) GL.out, DC.out (i + j) (by have := HM.out; omega)]
            unfold AZ padP
            rw [hi]
          have tq : (i : Int).tdiv 12 = (kk : Int) := by rw [Int.tdiv_eq_ediv_of_nonneg (by omega)]; omega
          have tq2 : (i : Int) / 12 = (kk : Int) := by omega
          have kkI : (kk : Int) ≤ 684 := by have := QQ.out; omega
          have HK := Lib.hid hlt
          have LM := Lib.hid (l09Make_any kk (padP A N kk) PB.out (by have := QQ.out; omega))
          have FK := Lib.hid (FE.out kk)
          obtain ⟨pm, hpm⟩ : ∃ pm, padP A N kk = pm := ⟨_, rfl⟩
          rw [hpm] at PB HC LM FK
          clear hlt hk hi hpm
          obtain ⟨wa, hwa⟩ : ∃ x, wq.alloc (.cells #[Value.int .u8 0, Value.int .u8 0, Value.int .u8 0, Value.int .u8 0, Value.int .u8 0, Value.int .u8 0, Value.int .u8 0, Value.int .u8 0, Value.int .u8 0, Value.int .u8 0, Value.int .u8 0, Value.int .u8 0] 145) = x := ⟨_, rfl⟩
          have T1 : Hid (wa.heap[wq.heap.size]? = some (.cells #[Value.int .u8 0, Value.int .u8 0, Value.int .u8 0, Value.int .u8 0, Value.int .u8 0, Value.int .u8 0, Value.int .u8 0, Value.int .u8 0, Value.int .u8 0, Value.int .u8 0, Value.int .u8 0, Value.int .u8 0] 145 (0, 0))) := Lib.hid (by rw [← hwa]; exact World.alloc_heap_new wq _)
          have bb : Below wq.heap.size wq wa := by rw [← hwa]; exact (Below.refl _ _).alloc (Nat.le_refl _) _
          have S1 : Hid (wa.setRow wq.heap.size #[Value.int .u8 0, Value.int .u8 0, Value.int .u8 0, Value.int .u8 0, Value.int .u8 0, Value.int .u8 0, Value.int .u8 0, Value.int .u8 0, Value.int .u8 0, Value.int .u8 0, Value.int .u8 0, Value.int .u8 0] = wa) := Lib.hid (setRow_self _ _ _ _ _ T1.out)
          have ZZ : Hid ((#[Value.int .u8 0, Value.int .u8 0, Value.int .u8 0, Value.int .u8 0, Value.int .u8 0, Value.int .u8 0, Value.int .u8 0, Value.int .u8 0, Value.int .u8 0, Value.int .u8 0, Value.int .u8 0, Value.int .u8 0] : Array Value) = Q12 zI) := Lib.hid rfl
          have T2 : Hid (wa.heap[wq.heap.size]? = some (.cells (Q12 (mixI zI pm 0)) 145 (0, 0))) := Lib.hid (by rw [mixI_zero, ← ZZ.out]; exact T1.out)
          have BA := Lib.hid bb
          clear bb
          have ZO : Hid ((#[Value.int .u8 0, Value.int .u8 0, Value.int .u8 0, Value.int .u8 0, Value.int .u8 0, Value.int .u8 0, Value.int .u8 0, Value.int .u8 0, Value.int .u8 0, Value.int .u8 0, Value.int .u8 0, Value.int .u8 0] : Array Value).all (·.oneCell') = true) := Lib.hid (by rw [ZZ.out]; exact arr_cells _ _ _)
          go_wp2_with (refine wpList_store_row rfl 145 _ _ rfl wq.heap.size _ rfl rfl 145 _ T1.out (p12_info _ rfl) rfl ZO.out ?_; rw [S1.out])
          clear hwa S1 T1
          go_loopw [11] (fun x wx => ∃ j : Nat, j ≤ 12 ∧ x = .int .i64 (j : Int) ∧ wx.heap[wq.heap.size]? = some (.cells (Q12 (mixI zI pm j)) 145 (0, 0)) ∧ Below wq.heap.size wq wx) (fun x _ => 12 - (intOf x).toNat)
          case atStart => exact ⟨0, by omega, rfl, T2.out, BA.out⟩
          case round =>
            rename World => wz
            obtain ⟨j, hj, rfl, h2, hb⟩ := hrel
            have K2 := Lib.hid h2
            have KB := Lib.hid hb
            clear h2 hb T2 BA
            by_cases hjl : j < 12
            · have hjl' : (j : Int) < 12 := by omega
              have HJ := Lib.hid hjl
              have tix : (i : Int) + (j : Int) < (M : Int) := by have := HI.out; have := HM.out; have := HK.out; omega
              have tin : ((i : Int) + (j : Int)).toNat = i + j := by omega
              have c0 : wz.cell? ⟨g, i + j, none⟩ = some (.int .u8 (pm j)) := HC.out wz (HQ.out.trans (KB.out.mono WQ.out)) j hjl
              have c2 : wz.cell? ⟨wq.heap.size, j, none⟩ = some (.int .u8 (mixI zI pm j j)) := (Lib.cell_of_heap K2.out j).trans (arr_get _ _ _ _ hjl)
              have f2 : wz.frozen? ⟨wq.heap.size, j, none⟩ = false := Lib.frozen_of_heap K2.out j
              generalize mixI zI pm j j = v at c2
              clear hjl hj
              go_wp2
              go_roundw
              case rel => exact ⟨j + 1, HJ.out, by go_num, by rw [fset_at K2.out, arr_set _ _ _ _ _ HJ.out, mixI_step], KB.out.setCell (p := ⟨_, _, none⟩) (Nat.le_refl _) _⟩
              case measure => have := HJ.out; simp [intOf]; omega
            · obtain rfl : j = 12 := by omega
              clear hjl hj
              have K3 : Hid (wz.heap[wq.heap.size]? = some (.cells (Q12 pm) 145 (0, 0))) := Lib.hid (by have := K2.out; rwa [show Q12 (mixI zI pm 12) = Q12 pm from arr_mix .u8 12 zI pm] at this)
              have OW : Hid (OwnFr wr.heap.size _ kk PF wz) := Lib.hid (ownsRow_below HO.out KB.out)
              have WB : Hid (Below wr.heap.size wr wz) := Lib.hid (HQ.out.trans (KB.out.mono WQ.out))
              have WL : Hid (wr.heap.size ≤ wz.heap.size) := Lib.hid (Nat.le_trans WQ.out KB.out.size)
              clear K2
              go_wp2_with (refine wpList_load_row rfl 145 _ rfl wq.heap.size rfl 145 _ _ _ K3.out Try.underlying145 rfl (p12_info _ (arr_size _ _ _)) ?_)
              refine (LM.out wz).mono ?_
              rintro e wy ⟨rfl, b2⟩
              have OY : Hid (OwnFr wr.heap.size _ kk PF wy) := Lib.hid (ownsRow_below OW.out b2)
              have YB : Hid (Below wr.heap.size wr wy) := Lib.hid (WB.out.trans (b2.mono WL.out))
              have YL : Hid (wr.heap.size ≤ wy.heap.size) := Lib.hid (Nat.le_trans WL.out b2.size)
              clear b2 K3 OW WB WL LM
              have A16 : Hid ((Q16 (mkfF kk pm)).size = 16) := Lib.hid (arr_size _ _ _)
              have AG : Hid (∀ j, j < 16 → (Q16 (mkfF kk pm))[j]? = some (.int .u8 (mkfF kk pm j))) := Lib.hid fun j hj => arr_get _ _ _ _ hj
              obtain ⟨B, hB⟩ : ∃ B, Q16 (mkfF kk pm) = B := ⟨_, rfl⟩
              rw [hB] at A16 AG ⊢
              have sA := A16.out
              have TC : Hid (∀ C : Array Value, C = B → ∀ j, j < 1 * 16 → (wy.alloc (.cells C 104)).cell? ⟨wy.heap.size, 0 + j, none⟩ = some (.int .u8 (mkfF kk pm j))) := Lib.hid (fun C hC j hj => by rw [hC, Nat.zero_add]; exact (World.cell?_alloc_new wy B _ j).trans (AG.out j (by omega)))
              clear hB
              go_wp2_with (at_builtin; refine wpList_append_fr rfl _ _ rfl wr.heap.size _ kk PF rfl (OY.out.alloc _) wy.heap.size 0 1 1 (mkfF kk pm) rfl (TC.out _ (fold16 B A16.out)) (by have := HK.out; have := QQ.out; omega) (by have := YL.out; rw [World.size_alloc]; omega) wr (YB.out.alloc YL.out _) ?_; intro v' w' h1 h2; have H1 := Lib.hid h1; have H2 := Lib.hid h2; clear h1 h2)
              go_roundw
              case rel => exact ⟨kk + 1, HK.out, by have := HI.out; rw [Nat.mul_succ, this]; push_cast; rfl, (H1.out).congr (fun j hj => by
                unfold catU
                split
                · rfl
                · rw [← FK.out _ (by omega), show kk * 16 + (j - kk * 16) = j by omega]), H2.out⟩
              case measure => have := HK.out; have := HI.out; have := HM.out; simp [intOf]; omega
        · obtain rfl : kk = Q := by omega
          obtain rfl : i = M := by have := HM.out; omega
          clear hlt hk hi
          go_wp2_with fail
          go_ret
          exact ⟨_, rfl, by rw [EA.out, EN.out, EQ.out, EP.out]; exact OwnFr.base WZ.out HO.out, HB.out.trans (HQ.out.mono WZ.out)⟩
    · obtain ⟨r, hr, hr1⟩ : ∃ r, m % 12 = r ∧ 1 ≤ r ∧ r < 12 := ⟨_, rfl, by omega⟩
      have tm : (m : Int).tmod 12 = (r : Int) := by rw [Int.tmod_eq_emod_of_nonneg (by omega)]; omega
      have tm2 : (m : Int) % 12 = (r : Int) := by omega
      have tr : ¬ r = 0 := by omega
      have HM : Hid (N ≤ m ∧ m < 12 * Q) := Lib.hid (by have := QQ.out; omega)
      clear hr hr1 hm hm1 hm2
      go_wp2_with (at_builtin; refine wpList_append_u rfl _ _ rfl w.heap.size _ m (AZ A N) rfl (HO.out.alloc _) wr.heap.size 0 1 1 (fun _ => 0) rfl (fun j hj => by obtain rfl : j = 0 := (by omega); exact (World.cell?_alloc_new _ _ _ _).trans rfl) (by have := HM.out; have := QQ.out; omega) (by have := WZ.out; rw [World.size_alloc]; omega) w (HB.out.alloc WZ.out _) ?_; intro v' w' h1 h2; obtain ⟨g', cp', rfl, -⟩ := OwnU.form h1 (by omega); have H1 := Lib.hid h1; have H2 := Lib.hid h2; clear h1 h2)
      go_roundw
      case rel => exact ⟨m + 1, by have := HM.out; omega, HM.out.2, H1.out.congr (fun j hj => by
        unfold catU
        split
        · rfl
        · exact (AZ_hi (by have := HM.out; omega)).symm), H2.out, _, _, rfl⟩
      case measure => have := HM.out; show _ < _; simp; omega
end Go.Proofs.Ythfmkejdpflpcaa
