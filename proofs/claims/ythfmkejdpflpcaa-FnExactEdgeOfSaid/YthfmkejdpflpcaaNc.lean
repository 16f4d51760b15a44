/-
  CONTRACT: FrameOf by the specification.
-/
import Derived.Test.YthfmkejdpflpcaaJt
namespace Go.Proofs.Ythfmkejdpflpcaa
open Go.ChangeShapes Go.WideShapes Go.ChangeAt Go.RowKit
def fqC (f : Nat → Int) (n : Nat) : Int := if validP f n = true then (if cntF f n = 0 then 6 else 0) else 1
def fqV (c : Int) (m : List (Int × Int) → Nat → Nat → Int) (L : List (Int × Int)) (k : Nat) : Int := if c = 0 then m L k L.length else 0
def FqPost (f : Nat → Int) (n : Nat) (w : World) (e : Ending) (w' : World) : Prop := ∃ L, e = .returned (.tuple #[.agg #[.int .i32 (fqV (fqC f n) mnF L 0), .int .i32 (fqV (fqC f n) mnF L 1)], .agg #[.int .i32 (fqV (fqC f n) mxF L 0), .int .i32 (fqV (fqC f n) mxF L 1)], .int .i64 (fqC f n)]) ∧ (fqC f n = 0 → IsC f n L) ∧ Below w.heap.size w w'
theorem lw_k (m : Nat → Nat → Int) (i k : Nat) : lwF m i k k = m k i := if_neg (by omega)
theorem two_allocs (w : World) (o1 o2 : Obj) : ((w.alloc o1).alloc o2).heap[w.heap.size]? = some o1 ∧ ((w.alloc o1).alloc o2).heap[w.heap.size + 1]? = some o2 ∧ Below w.heap.size w ((w.alloc o1).alloc o2) ∧ ((w.alloc o1).alloc o2).heap.size = w.heap.size + 2 := by
  refine ⟨(Below.heap_alloc _ _ _ (by simp)).trans (World.alloc_heap_new w _), ?_, ((Below.refl _ w).alloc (Nat.le_refl _) _).alloc (by simp) _, by simp⟩
  have := World.alloc_heap_new (w.alloc o1) o2
  rw [World.size_alloc] at this
  exact this
theorem arr2 (f : Nat → Int) : arr .i32 2 f = #[.int .i32 (f 0), .int .i32 (f 1)] := rfl
set_option maxRecDepth 100000 in
set_option maxHeartbeats 8000000 in
theorem sFrame_any (a : Option Addr) (n cap : Nat) (f : Nat → Int) (w : World) (hn : n ≤ 1048576) (h : BlR w.heap.size w a n f) (hf : BlF n f) :
    Calls Try.prog 38 #[.slice a n cap] w (FqPost f n w) := by
  unfold FqPost
  have OK : Hid (∀ W, Below w.heap.size w W → Calls Try.prog 61 #[.slice a n cap] W fun e w' => e = .returned (.bool (validP f n)) ∧ Below W.heap.size W w') := Lib.hid fun W hW => sOk_any a n cap f W.heap.size W (Nat.le_refl _) hn (h.below hW hW.size) hf
  have TA := Lib.hid (two_allocs w (.cells #[.int .i32 0, .int .i32 0] CO) (.cells #[.int .i32 0, .int .i32 0] CO))
  cases hv : validP f n with
  | false =>
    have E2 : fqC f n = 1 := by unfold fqC; rw [hv]; exact if_neg (by decide)
    rw [E2]
    rw [hv] at OK
    clear hv E2 h hf hn
    go_enter Try.func38, Try.ntmps38
    go_wp2_with fail
    generalize (w.alloc (.cells #[.int .i32 0, .int .i32 0] CO)).alloc (.cells #[.int .i32 0, .int .i32 0] CO) = w1 at TA ⊢
    refine (OK.out _ TA.out.2.2.1).mono ?_
    rintro e w2 ⟨rfl, b⟩
    have s1 := TA.out.2.2.2
    have B2 := Lib.hid (TA.out.2.2.1.trans (b.mono TA.out.2.2.1.size))
    have R0 := Lib.hid ((b.block w.heap.size (by omega)).trans TA.out.1)
    have R1 := Lib.hid ((b.block (w.heap.size + 1) (by omega)).trans TA.out.2.1)
    have z2 : w.heap.size + 1 < w2.heap.size := Nat.lt_of_lt_of_le (by omega) b.size
    have z1 : w.heap.size < w2.heap.size := by omega
    have c0 : w2.cell? ⟨w.heap.size, 0, none⟩ = some (.int .i32 0) := Lib.cell_of_heap R0.out 0
    have c1 : w2.cell? ⟨w.heap.size, 1, none⟩ = some (.int .i32 0) := Lib.cell_of_heap R0.out 1
    have f0 : w2.frozen? ⟨w.heap.size, 0, none⟩ = false := Lib.frozen_of_heap R0.out 0
    have f1 : w2.frozen? ⟨w.heap.size, 1, none⟩ = false := Lib.frozen_of_heap R0.out 1
    have d0 : w2.cell? ⟨w.heap.size + 1, 0, none⟩ = some (.int .i32 0) := Lib.cell_of_heap R1.out 0
    have d1 : w2.cell? ⟨w.heap.size + 1, 1, none⟩ = some (.int .i32 0) := Lib.cell_of_heap R1.out 1
    have g0 : w2.frozen? ⟨w.heap.size + 1, 0, none⟩ = false := Lib.frozen_of_heap R1.out 0
    have g1 : w2.frozen? ⟨w.heap.size + 1, 1, none⟩ = false := Lib.frozen_of_heap R1.out 1
    clear b OK TA R0 R1
    go_wp2
    refine bodyPost_ret (v := .tuple #[.agg #[.int .i32 0, .int .i32 0], .agg #[.int .i32 0, .int .i32 0], .int .i64 1]) ?_ rfl ⟨[], rfl, fun h => absurd h (by decide), ?_⟩
    · simp [results, Try.results38, go_sem, c0, c1, d0, d1]
    · exact (((B2.out.setCell (p := ⟨w.heap.size, _, none⟩) (by simp) _).setCell (p := ⟨w.heap.size, _, none⟩) (by simp) _).setCell (p := ⟨w.heap.size + 1, _, none⟩) (by simp) _).setCell (p := ⟨w.heap.size + 1, _, none⟩) (by simp) _
  | true =>
    have CE : Hid (∀ W, Below w.heap.size w W → Calls Try.prog 62 #[.slice a n cap] W fun e w' => ∃ a2 c2 L, e = .returned (.slice a2 (cntF f n) c2) ∧ IsC f n L ∧ OW W.heap.size (.slice a2 (cntF f n) c2) L w' ∧ Below W.heap.size W w') := Lib.hid fun W hW => (cells_any a n cap f W hv (h.below hW hW.size) hf).mono fun e w' ⟨v, L, he, hg, ho, hb⟩ => by
      obtain ⟨a2, c2, rfl⟩ := ow_len ho
      rw [hg.count] at he ho
      exact ⟨a2, c2, L, he, hg.isC hv, ho, hb⟩
    have HC := cntF_le f n
    have h64 := validP_le hv
    have cB : (cntF f n : Int) ≤ 16384 := by omega
    have E3 : fqC f n = if cntF f n = 0 then 6 else 0 := by unfold fqC; rw [hv]; rfl
    rw [hv] at OK
    have HL : Hid (∀ L, IsC f n L → L.length = cntF f n) := Lib.hid fun L h => h.len
    rw [E3]
    clear hv h hf hn HC h64 E3
    generalize cntF f n = c at CE HL cB ⊢
    by_cases hc : c = 0
    · subst hc
      rw [if_pos rfl]
      go_enter Try.func38, Try.ntmps38
      go_wp2_with fail
      generalize (w.alloc (.cells #[.int .i32 0, .int .i32 0] CO)).alloc (.cells #[.int .i32 0, .int .i32 0] CO) = w1 at TA ⊢
      refine (OK.out _ TA.out.2.2.1).mono ?_
      rintro e w2 ⟨rfl, b⟩
      have s1 := TA.out.2.2.2
      have B2 := Lib.hid (TA.out.2.2.1.trans (b.mono TA.out.2.2.1.size))
      have R0 := Lib.hid ((b.block w.heap.size (by omega)).trans TA.out.1)
      have R1 := Lib.hid ((b.block (w.heap.size + 1) (by omega)).trans TA.out.2.1)
      have z2 : w.heap.size + 1 < w2.heap.size := Nat.lt_of_lt_of_le (by omega) b.size
      clear b OK TA s1
      go_wp2_with fail
      refine (CE.out _ B2.out).mono ?_
      rintro e w3 ⟨a2, c2, L, rfl, hL, ho, b⟩
      have B3 := Lib.hid (B2.out.trans (b.mono B2.out.size))
      have O3 := Lib.hid ho
      have L3 := Lib.hid hL
      have T0 := Lib.hid ((b.block w.heap.size (by omega)).trans R0.out)
      have T1 := Lib.hid ((b.block (w.heap.size + 1) (by omega)).trans R1.out)
      have z3 : w.heap.size + 1 < w3.heap.size := Nat.lt_of_lt_of_le z2 b.size
      have LL := HL.out L hL
      have Z23 : Hid (w2.heap.size ≤ w3.heap.size) := Lib.hid b.size
      clear b CE ho hL R0 R1 B2 HL
      have z1 : w.heap.size < w3.heap.size := by omega
      have c0 : w3.cell? ⟨w.heap.size, 0, none⟩ = some (.int .i32 0) := Lib.cell_of_heap T0.out 0
      have c1 : w3.cell? ⟨w.heap.size, 1, none⟩ = some (.int .i32 0) := Lib.cell_of_heap T0.out 1
      have f0 : w3.frozen? ⟨w.heap.size, 0, none⟩ = false := Lib.frozen_of_heap T0.out 0
      have f1 : w3.frozen? ⟨w.heap.size, 1, none⟩ = false := Lib.frozen_of_heap T0.out 1
      have d0 : w3.cell? ⟨w.heap.size + 1, 0, none⟩ = some (.int .i32 0) := Lib.cell_of_heap T1.out 0
      have d1 : w3.cell? ⟨w.heap.size + 1, 1, none⟩ = some (.int .i32 0) := Lib.cell_of_heap T1.out 1
      have g0 : w3.frozen? ⟨w.heap.size + 1, 0, none⟩ = false := Lib.frozen_of_heap T1.out 0
      have g1 : w3.frozen? ⟨w.heap.size + 1, 1, none⟩ = false := Lib.frozen_of_heap T1.out 1
      clear T0 T1 O3 L3 LL
      go_wp2
      refine bodyPost_ret (v := .tuple #[.agg #[.int .i32 0, .int .i32 0], .agg #[.int .i32 0, .int .i32 0], .int .i64 6]) ?_ rfl ⟨[], rfl, fun h => absurd h (by decide), ?_⟩
      · simp [results, Try.results38, go_sem, c0, c1, d0, d1]
      · exact (((B3.out.setCell (p := ⟨w.heap.size, _, none⟩) (by simp) _).setCell (p := ⟨w.heap.size, _, none⟩) (by simp) _).setCell (p := ⟨w.heap.size + 1, _, none⟩) (by simp) _).setCell (p := ⟨w.heap.size + 1, _, none⟩) (by simp) _
    · rw [if_neg hc]
      go_enter Try.func38, Try.ntmps38
      go_wp2_with fail
      generalize (w.alloc (.cells #[.int .i32 0, .int .i32 0] CO)).alloc (.cells #[.int .i32 0, .int .i32 0] CO) = w1 at TA ⊢
      refine (OK.out _ TA.out.2.2.1).mono ?_
      rintro e w2 ⟨rfl, b⟩
      have s1 := TA.out.2.2.2
      have B2 := Lib.hid (TA.out.2.2.1.trans (b.mono TA.out.2.2.1.size))
      have R0 := Lib.hid ((b.block w.heap.size (by omega)).trans TA.out.1)
      have R1 := Lib.hid ((b.block (w.heap.size + 1) (by omega)).trans TA.out.2.1)
      have z2 : w.heap.size + 1 < w2.heap.size := Nat.lt_of_lt_of_le (by omega) b.size
      clear b OK TA s1
      go_wp2_with fail
      refine (CE.out _ B2.out).mono ?_
      rintro e w3 ⟨a2, c2, L, rfl, hL, ho, b⟩
      have B3 := Lib.hid (B2.out.trans (b.mono B2.out.size))
      have O3 := Lib.hid ho
      have L3 := Lib.hid hL
      have T0 := Lib.hid ((b.block w.heap.size (by omega)).trans R0.out)
      have T1 := Lib.hid ((b.block (w.heap.size + 1) (by omega)).trans R1.out)
      have z3 : w.heap.size + 1 < w3.heap.size := Nat.lt_of_lt_of_le z2 b.size
      have LL := HL.out L hL
      have Z23 : Hid (w2.heap.size ≤ w3.heap.size) := Lib.hid b.size
      clear b CE ho hL R0 R1 B2 HL
      have hc0 : 0 < c := by omega
      obtain ⟨g, rfl, hg, hcell⟩ := ow_cell O3.out LL.symm hc0
      have tc0 : ((c : Int) == 0) = false := by simpa using hc
      have tc1 : (0 : Int) < (c : Int) := by omega
      have hgw : w.heap.size + 2 ≤ g ∨ True := .inr trivial
      have HCE := Lib.hid hcell
      have p0 : w3.cell? ⟨g, 0, none⟩ = some (.int .i32 (pk L[0]! 0)) := hcell 0 0 hc0 (by omega)
      have p1 : w3.cell? ⟨g, 1, none⟩ = some (.int .i32 (pk L[0]! 1)) := hcell 0 1 hc0 (by omega)
      have HG := Lib.hid hg
      have HC0 := Lib.hid hc0
      have LN := Lib.hid LL
      clear hc hcell hg LL O3 hc0 hgw Z23 z2
      have RL : ∀ m : List (Int × Int) → Nat → Nat → Int, (∀ k, m L k 0 = pk L[0]! k) → arr .i32 2 (lwF (m L) 0 0) = #[.int .i32 (pk L[0]! 0), .int .i32 (pk L[0]! 1)] := fun m hm => by
        rw [arr2]
        show #[Value.int .i32 (lwF (m L) 0 0 0), Value.int .i32 (lwF (m L) 0 0 1)] = _
        unfold lwF
        rw [if_neg (by omega), if_neg (by omega), hm, hm]
      have RLo := RL mnF fun _ => rfl
      have RHi := RL mxF fun _ => rfl
      clear RL
      obtain ⟨q0, hq0⟩ : ∃ z, pk L[0]! 0 = z := ⟨_, rfl⟩
      obtain ⟨q1, hq1⟩ : ∃ z, pk L[0]! 1 = z := ⟨_, rfl⟩
      rw [hq0] at p0 RLo RHi
      rw [hq1] at p1 RLo RHi
      clear hq0 hq1
      obtain ⟨w5, hw5⟩ : ∃ x, (w3.alloc (.cells #[.int .i32 q0, .int .i32 q1] CO)).alloc (.cells #[.int .i32 q0, .int .i32 q1] CO) = x := ⟨_, rfl⟩
      have TB := two_allocs w3 (.cells #[.int .i32 q0, .int .i32 q1] CO) (.cells #[.int .i32 q0, .int .i32 q1] CO)
      rw [hw5] at TB
      have Lo : Hid (w5.heap[w3.heap.size]? = some (.cells (arr .i32 2 (lwF (mnF L) 0 0)) CO (0, 0))) := Lib.hid (by rw [RLo]; exact TB.1)
      have Hi : Hid (w5.heap[w3.heap.size + 1]? = some (.cells (arr .i32 2 (lwF (mxF L) 0 0)) CO (0, 0))) := Lib.hid (by rw [RHi]; exact TB.2.1)
      have B5 : Hid (Below w3.heap.size w3 w5) := Lib.hid TB.2.2.1
      clear TB RLo RHi
      go_wp2
      clear hw5 p0 p1 tc0 tc1
      go_loopw [8] (fun vi wr => ∃ i : Nat, i ≤ c ∧ vi = .int .i64 (i : Int) ∧ Hid (wr.heap[w3.heap.size]? = some (.cells (arr .i32 2 (lwF (mnF L) i 0)) CO (0, 0))) ∧ Hid (wr.heap[w3.heap.size + 1]? = some (.cells (arr .i32 2 (lwF (mxF L) i 0)) CO (0, 0))) ∧ Hid (Below w3.heap.size w3 wr)) (fun vi _ => c - (intOf vi).toNat)
      case atStart => exact ⟨0, Nat.zero_le _, rfl, Lo, Hi, B5⟩
      case round =>
        obtain ⟨i, hi, rfl, Lo1, Hi1, B6⟩ := hrel
        clear Lo Hi B5
        by_cases hlt : i < c
        · have ti : (i : Int) < (c : Int) := by omega
          have HI := Lib.hid hlt
          have CX : Hid (∀ W, Below w3.heap.size w3 W → ∀ k, k < 2 → W.cell? ⟨g, i * 2 + k, none⟩ = some (.int .i32 (pk L[i]! k))) := Lib.hid fun W hW k hk => (hW.cell (p := ⟨g, i * 2 + k, none⟩) HG.out).trans (HCE.out i k hlt hk)
          have gne0 : g ≠ w3.heap.size := Nat.ne_of_lt HG.out
          have NM : Hid (∀ k, mnF L k (i + 1) = if pk L[i]! k < mnF L k i then pk L[i]! k else mnF L k i) := Lib.hid fun k => rfl
          have NX : Hid (∀ k, mxF L k (i + 1) = if mxF L k i < pk L[i]! k then pk L[i]! k else mxF L k i) := Lib.hid fun k => rfl
          clear hlt hi
          go_wp2
          go_loopw [9] (fun vk wr => ∃ k : Nat, k ≤ 2 ∧ vk = .int .i64 (k : Int) ∧ Hid (wr.heap[w3.heap.size]? = some (.cells (arr .i32 2 (lwF (mnF L) i k)) CO (0, 0))) ∧ Hid (wr.heap[w3.heap.size + 1]? = some (.cells (arr .i32 2 (lwF (mxF L) i k)) CO (0, 0))) ∧ Hid (Below w3.heap.size w3 wr)) (fun vk _ => 2 - (intOf vk).toNat)
          case atStart => exact ⟨0, Nat.zero_le _, rfl, Lo1, Hi1, B6⟩
          case round =>
            obtain ⟨k, hk, rfl, Lo2, Hi2, B7⟩ := hrel
            clear Lo1 Hi1 B6
            by_cases hlk : k < 2
            · have tk : (k : Int) < 2 := by omega
              have HK := Lib.hid hlk
              have cx := CX.out wr B7.out k hlk
              have cl : wr.cell? ⟨w3.heap.size, k, none⟩ = some (.int .i32 (mnF L k i)) := (Lib.cell_of_heap Lo2.out k).trans ((arr_get _ _ _ _ hlk).trans (by rw [lw_k]))
              have ch : wr.cell? ⟨w3.heap.size + 1, k, none⟩ = some (.int .i32 (mxF L k i)) := (Lib.cell_of_heap Hi2.out k).trans ((arr_get _ _ _ _ hlk).trans (by rw [lw_k]))
              have fl : wr.frozen? ⟨w3.heap.size, k, none⟩ = false := Lib.frozen_of_heap Lo2.out k
              have fh : wr.frozen? ⟨w3.heap.size + 1, k, none⟩ = false := Lib.frozen_of_heap Hi2.out k
              have n1 := NM.out k
              have n2 := NX.out k
              obtain ⟨z, hz⟩ : ∃ z, pk L[i]! k = z := ⟨_, rfl⟩
              obtain ⟨lo, hlo⟩ : ∃ z, mnF L k i = z := ⟨_, rfl⟩
              obtain ⟨hi, hhi⟩ : ∃ z, mxF L k i = z := ⟨_, rfl⟩
              rw [hz] at cx n1 n2
              rw [hlo] at cl n1
              rw [hhi] at ch n2
              have N1 : Hid (mnF L k (i + 1) = if z < lo then z else lo) := Lib.hid n1
              have N2 : Hid (mxF L k (i + 1) = if hi < z then z else hi) := Lib.hid n2
              have HLO := Lib.hid hlo
              have HHI := Lib.hid hhi
              have LoN : Hid (∀ W : World, W.heap[w3.heap.size]? = some (.cells (arr .i32 2 (lwF (mnF L) i k)) CO (0, 0)) → ¬ z < lo → W.heap[w3.heap.size]? = some (.cells (arr .i32 2 (lwF (mnF L) i (k + 1))) CO (0, 0))) := Lib.hid fun W hW hz => by rw [lw_same (by rw [N1.out, if_neg hz, HLO.out])]; exact hW
              have HiN : Hid (∀ W : World, W.heap[w3.heap.size + 1]? = some (.cells (arr .i32 2 (lwF (mxF L) i k)) CO (0, 0)) → ¬ hi < z → W.heap[w3.heap.size + 1]? = some (.cells (arr .i32 2 (lwF (mxF L) i (k + 1))) CO (0, 0))) := Lib.hid fun W hW hz => by rw [lw_same (by rw [N2.out, if_neg hz, HHI.out])]; exact hW
              have LoY : Hid (∀ W : World, W.heap[w3.heap.size]? = some (.cells (arr .i32 2 (lwF (mnF L) i k)) CO (0, 0)) → z < lo → (W.setCell ⟨w3.heap.size, k, none⟩ (.int .i32 z)).heap[w3.heap.size]? = some (.cells (arr .i32 2 (lwF (mnF L) i (k + 1))) CO (0, 0))) := Lib.hid fun W hW hz => by
                rw [mset_at hW, arr_set _ _ _ _ _ HK.out, ← lw_step, N1.out, if_pos hz]
              have HiY : Hid (∀ W : World, W.heap[w3.heap.size + 1]? = some (.cells (arr .i32 2 (lwF (mxF L) i k)) CO (0, 0)) → hi < z → (W.setCell ⟨w3.heap.size + 1, k, none⟩ (.int .i32 z)).heap[w3.heap.size + 1]? = some (.cells (arr .i32 2 (lwF (mxF L) i (k + 1))) CO (0, 0))) := Lib.hid fun W hW hz => by
                rw [mset_at hW, arr_set _ _ _ _ _ HK.out, ← lw_step, N2.out, if_pos hz]
              clear hz hlo hhi n1 n2 N1 N2 HLO HHI hlk hk
              by_cases a1 : z < lo
              · by_cases a2 : hi < z
                · have t1 := decide_eq_true a1
                  have t2 := decide_eq_true a2
                  go_wp2
                  go_quiet (fail)
                  go_wp2
                  go_quiet (fail)
                  go_wp2
                  go_roundw
                  case rel => exact ⟨k + 1, HK.out, by go_num, Lib.hid ((mset_far (fun h => absurd h (by omega)) _).trans (LoY.out _ Lo2.out a1)), Lib.hid (HiY.out _ ((mset_far (Nat.succ_ne_self _) _).trans Hi2.out) a2), Lib.hid ((belowN ((belowN (B7.out)).setCell (p := ⟨w3.heap.size, k, none⟩) (Nat.le_refl _) _)).setCell (p := ⟨w3.heap.size + 1, k, none⟩) (Nat.le_succ _) _)⟩
                  case measure => have := HK.out; simp [intOf]; omega
                · have t1 := decide_eq_true a1
                  have t2 := decide_eq_false a2
                  go_wp2
                  go_quiet (fail)
                  go_wp2
                  go_quiet (fail)
                  go_wp2
                  go_roundw
                  case rel => exact ⟨k + 1, HK.out, by go_num, Lib.hid (LoY.out _ Lo2.out a1), Lib.hid ((mset_far (Nat.succ_ne_self _) _).trans (HiN.out _ Hi2.out a2)), Lib.hid (belowN ((belowN (B7.out)).setCell (p := ⟨w3.heap.size, k, none⟩) (Nat.le_refl _) _))⟩
                  case measure => have := HK.out; simp [intOf]; omega
              · by_cases a2 : hi < z
                · have t1 := decide_eq_false a1
                  have t2 := decide_eq_true a2
                  go_wp2
                  go_quiet (fail)
                  go_wp2
                  go_quiet (fail)
                  go_wp2
                  go_roundw
                  case rel => exact ⟨k + 1, HK.out, by go_num, Lib.hid ((mset_far (fun h => absurd h (by omega)) _).trans (LoN.out _ Lo2.out a1)), Lib.hid (HiY.out _ Hi2.out a2), Lib.hid ((belowN (B7.out)).setCell (p := ⟨w3.heap.size + 1, k, none⟩) (Nat.le_succ _) _)⟩
                  case measure => have := HK.out; simp [intOf]; omega
                · have t1 := decide_eq_false a1
                  have t2 := decide_eq_false a2
                  go_wp2
                  go_quiet (fail)
                  go_wp2
                  go_quiet (fail)
                  go_wp2
                  go_roundw
                  case rel => exact ⟨k + 1, HK.out, by go_num, Lib.hid (LoN.out _ Lo2.out a1), Lib.hid (HiN.out _ Hi2.out a2), Lib.hid (belowN (B7.out))⟩
                  case measure => have := HK.out; simp [intOf]; omega
            · have tk : ¬ (k : Int) < 2 := by omega
              have LoE : Hid (wr.heap[w3.heap.size]? = some (.cells (arr .i32 2 (lwF (mnF L) (i + 1) 0)) CO (0, 0))) := Lib.hid (by
                have : k = 2 := by omega
                subst this
                rw [← lw_end]; exact Lo2.out)
              have HiE : Hid (wr.heap[w3.heap.size + 1]? = some (.cells (arr .i32 2 (lwF (mxF L) (i + 1) 0)) CO (0, 0))) := Lib.hid (by
                have : k = 2 := by omega
                subst this
                rw [← lw_end]; exact Hi2.out)
              clear hlk hk Lo2 Hi2
              go_wp2
              go_roundw
              case rel => exact ⟨i + 1, HI.out, by go_num, LoE, HiE, B7⟩
              case measure => have := HI.out; simp [intOf]; omega
        · have ti : ¬ (i : Int) < (c : Int) := by omega
          obtain rfl : i = c := by omega
          have B8 := Lib.hid (B3.out.trans (B6.out.mono B3.out.size))
          have T2 := Lib.hid ((B6.out.block w.heap.size (by omega)).trans T0.out)
          have T3 := Lib.hid ((B6.out.block (w.heap.size + 1) (by omega)).trans T1.out)
          have z8 : w.heap.size + 1 < wr.heap.size := Nat.lt_of_lt_of_le z3 B6.out.size
          have z1 : w.heap.size < wr.heap.size := by omega
          have ny0 : w3.heap.size ≠ w.heap.size := by omega
          have ny1 : w3.heap.size ≠ w.heap.size + 1 := by omega
          have ny2 : w3.heap.size + 1 ≠ w.heap.size := by omega
          have ny3 : w3.heap.size + 1 ≠ w.heap.size + 1 := by omega
          have c0 : wr.cell? ⟨w.heap.size, 0, none⟩ = some (.int .i32 0) := Lib.cell_of_heap T2.out 0
          have c1 : wr.cell? ⟨w.heap.size, 1, none⟩ = some (.int .i32 0) := Lib.cell_of_heap T2.out 1
          have f0 : wr.frozen? ⟨w.heap.size, 0, none⟩ = false := Lib.frozen_of_heap T2.out 0
          have f1 : wr.frozen? ⟨w.heap.size, 1, none⟩ = false := Lib.frozen_of_heap T2.out 1
          have d0 : wr.cell? ⟨w.heap.size + 1, 0, none⟩ = some (.int .i32 0) := Lib.cell_of_heap T3.out 0
          have d1 : wr.cell? ⟨w.heap.size + 1, 1, none⟩ = some (.int .i32 0) := Lib.cell_of_heap T3.out 1
          have g0 : wr.frozen? ⟨w.heap.size + 1, 0, none⟩ = false := Lib.frozen_of_heap T3.out 0
          have g1 : wr.frozen? ⟨w.heap.size + 1, 1, none⟩ = false := Lib.frozen_of_heap T3.out 1
          have l0 : wr.cell? ⟨w3.heap.size, 0, none⟩ = some (.int .i32 (mnF L 0 i)) := Lib.cell_of_heap Lo1.out 0
          have l1 : wr.cell? ⟨w3.heap.size, 1, none⟩ = some (.int .i32 (mnF L 1 i)) := Lib.cell_of_heap Lo1.out 1
          have h0 : wr.cell? ⟨w3.heap.size + 1, 0, none⟩ = some (.int .i32 (mxF L 0 i)) := Lib.cell_of_heap Hi1.out 0
          have h1 : wr.cell? ⟨w3.heap.size + 1, 1, none⟩ = some (.int .i32 (mxF L 1 i)) := Lib.cell_of_heap Hi1.out 1
          have LA : Hid (∀ m k, fqV 0 m L k = m L k i) := Lib.hid fun m k => by unfold fqV; rw [if_pos rfl, LN.out]
          clear T0 T1 T2 T3 Lo1 Hi1 hlt hi HCE B6 HG z3
          go_wp2
          go_region
          all_goals go_wp2
          all_goals refine bodyPost_ret (v := .tuple #[.agg #[.int .i32 (mnF L 0 i), .int .i32 (mnF L 1 i)], .agg #[.int .i32 (mxF L 0 i), .int .i32 (mxF L 1 i)], .int .i64 0]) ?_ rfl ⟨L, by rw [LA.out, LA.out, LA.out, LA.out], fun _ => L3.out, ?_⟩
          all_goals first
            | (simp [results, Try.results38, go_sem, c0, c1, d0, d1, z1, z8]; done)
            | repeat (first | exact B8.out | apply Below.drew | refine Below.setCell ?_ (by simp) _)
end Go.Proofs.Ythfmkejdpflpcaa
