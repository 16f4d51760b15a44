/-
  CONTRACTS: frames that are made, on both sides.
-/
import Derived.Test.YtkijgadkgfapgaaFm
namespace Go.Proofs.Ytkijgadkgfapgaa
open Go.ChangeShapes Go.WideShapes Go.ChangeAt Go.RowKit
theorem zcell_set (w : World) (g k : Nat) (h : k ≠ g) (x : Nat) (v : Value) (j : Nat) : (w.setCell ⟨g, x, none⟩ v).cell? ⟨k, j, none⟩ = w.cell? ⟨k, j, none⟩ := by
  unfold World.cell?
  simp only
  rw [fset_far h]
set_option maxRecDepth 20000 in
set_option maxHeartbeats 4000000 in
theorem l09Make_any (i : Nat) (p : Nat → Int) (hp : ByF 12 p) (hi : i < 4294967296) (w : World) :
    Calls Try.prog 109 #[.int .i64 (i : Int), .agg (Q12 p)] w fun e w' => e = .returned (.agg (Q16 (mkfF i p))) ∧ Below w.heap.size w w' := by
  obtain ⟨Z, hZ⟩ : ∃ Z, Z = Q16 zI := ⟨_, rfl⟩
  have ZE : Z = #[Value.int .u8 0, Value.int .u8 0, Value.int .u8 0, Value.int .u8 0, Value.int .u8 0, Value.int .u8 0, Value.int .u8 0, Value.int .u8 0, Value.int .u8 0, Value.int .u8 0, Value.int .u8 0, Value.int .u8 0, Value.int .u8 0, Value.int .u8 0, Value.int .u8 0, Value.int .u8 0] := hZ
  obtain ⟨m, hm⟩ : ∃ m, mkfF i p = m := ⟨_, rfl⟩
  have M0 : Hid (∀ j, j < 12 → m j = p j) := Lib.hid fun j hj => by rw [← hm]; exact mkfF_lo _ _ hj
  have M1 : Hid (∀ j, m (12 + j) = byW (chk i p) j) := Lib.hid fun j => by rw [← hm]; exact mkfF_hi _ _ _
  have CK := Lib.hid (l09Check_any i p hp hi)
  have FO := Lib.hid (fun base w h => four_any (chk i p) (chk_lt i p) base w h)
  obtain ⟨c, hc⟩ : ∃ c, chk i p = c := ⟨_, rfl⟩
  rw [hc] at M1 CK FO
  rw [hm]
  clear hm hc hp hi
  obtain ⟨w1, hw1⟩ : ∃ w1, ((w.alloc (.cells (Q12 p) 141)).alloc (.cells Z 93)).alloc (.cells Z 93) = w1 := ⟨_, rfl⟩
  have B0 : Hid (Below w.heap.size w w1) := Lib.hid (by rw [← hw1]; exact (((Below.refl _ w).alloc (Nat.le_refl _) _).alloc (by simp) _).alloc (by simp; omega) _)
  have H0 : Hid (w1.heap[w.heap.size]? = some (.cells (Q12 p) 141 (0, 0))) := Lib.hid (by rw [← hw1]; exact ((Below.heap_alloc _ _ _ (by simp; omega)).trans (Below.heap_alloc _ _ _ (by simp))).trans (World.alloc_heap_new w _))
  have H1 : Hid (w1.heap[w.heap.size + 1]? = some (.cells Z 93 (0, 0))) := Lib.hid (by
    rw [← hw1]
    refine (Below.heap_alloc _ _ _ (by simp)).trans ?_
    have := World.alloc_heap_new (w.alloc (.cells (Q12 p) 141)) (.cells Z 93)
    rw [World.size_alloc] at this
    exact this)
  have H2 : Hid (w1.heap[w.heap.size + 1 + 1]? = some (.cells Z 93 (0, 0))) := Lib.hid (by
    rw [← hw1]
    have := World.alloc_heap_new ((w.alloc (.cells (Q12 p) 141)).alloc (.cells Z 93)) (.cells Z 93)
    rw [World.size_alloc, World.size_alloc] at this
    exact this)
  have ZS : Z.size = 16 := by rw [hZ]; exact arr_size _ _ _
  have ZO : Z.all (·.oneCell') = true := by rw [hZ]; exact arr_cells _ _ _
  have H2' : Hid (w1.heap[w.heap.size + 1 + 1]? = some (.cells (Q16 (mixI zI m 0)) 93 (0, 0))) := Lib.hid (by rw [mixI_zero, ← hZ]; exact H2.out)
  have SS : Hid (w1.setRow (w.heap.size + 1 + 1) Z = w1) := Lib.hid (setRow_self _ _ _ _ _ H2.out)
  rw [ZE] at H1 H2 hw1 ZS ZO SS
  clear ZE hZ
  go_enter Try.func109, Try.ntmps109
  go_wp2_with (refine wpList_store_row rfl 93 _ _ rfl (w.heap.size + 1 + 1) _ rfl rfl 93 _ H2.out (fr_info _ ZS) rfl ZO ?_; rw [SS.out])
  clear hw1 SS H2
  go_loopw [6] (fun i wr => ∃ k : Nat, k ≤ 12 ∧ i = .int .i64 (k : Int) ∧ wr.heap[w.heap.size + 1 + 1]? = some (.cells (Q16 (mixI zI m k)) 93 (0, 0)) ∧ wr.heap[w.heap.size]? = some (.cells (Q12 p) 141 (0, 0)) ∧ wr.heap[w.heap.size + 1]? = some (.cells #[Value.int .u8 0, Value.int .u8 0, Value.int .u8 0, Value.int .u8 0, Value.int .u8 0, Value.int .u8 0, Value.int .u8 0, Value.int .u8 0, Value.int .u8 0, Value.int .u8 0, Value.int .u8 0, Value.int .u8 0, Value.int .u8 0, Value.int .u8 0, Value.int .u8 0, Value.int .u8 0] 93 (0, 0)) ∧ Below w.heap.size w wr) (fun i _ => 12 - (intOf i).toNat)
  case atStart => exact ⟨0, Nat.zero_le _, rfl, H2'.out, H0.out, H1.out, B0.out⟩
  case round =>
    obtain ⟨k, hk, rfl, h2, h0, h1, hB⟩ := hrel
    have K2 := Lib.hid h2
    have K0 := Lib.hid h0
    have K1 := Lib.hid h1
    have KB := Lib.hid hB
    clear h2 h0 h1 hB H0 H1 H2' B0
    by_cases hlt : k < 12
    · have t1 : (k : Int) < 12 := by omega
      have HK := Lib.hid hlt
      have c0 : wr.cell? ⟨w.heap.size, k, none⟩ = some (.int .u8 (m k)) := by rw [M0.out k hlt]; exact (Lib.cell_of_heap K0.out k).trans (arr_get _ _ _ _ hlt)
      have c2 : wr.cell? ⟨w.heap.size + 1 + 1, k, none⟩ = some (.int .u8 (mixI zI m k k)) := (Lib.cell_of_heap K2.out k).trans (arr_get _ _ _ _ (by omega))
      have f2 : wr.frozen? ⟨w.heap.size + 1 + 1, k, none⟩ = false := Lib.frozen_of_heap K2.out k
      generalize mixI zI m k k = v at c2
      clear hlt hk
      go_wp2
      go_roundw
      case rel => exact ⟨k + 1, by have := HK.out; omega, by go_num, by rw [fset_at K2.out, arr_set _ _ _ _ _ (by have := HK.out; omega), mixI_step], by rw [fset_far (by omega)]; exact K0.out, by rw [fset_far (by omega)]; exact K1.out, KB.out.setCell (p := ⟨w.heap.size + 1 + 1, _, none⟩) (by simp; omega) _⟩
      case measure => have := HK.out; simp [intOf]; omega
    · obtain rfl : k = 12 := by omega
      have LZ : Hid (w.heap.size + 1 + 1 < wr.heap.size) := Lib.hid (Array.getElem?_eq_some_iff.1 K2.out).1
      clear hlt hk
      go_wp2_with (refine wpList_load_row rfl 141 _ rfl w.heap.size rfl 141 _ _ _ K0.out Try.underlying141 rfl (p12_info _ (arr_size _ _ _)) ?_)
      refine (CK.out _).mono ?_
      rintro e w2 ⟨rfl, b2⟩
      have P2 := Lib.hid ((b2.block _ (by have := LZ.out; omega)).trans K2.out)
      have P1 := Lib.hid ((b2.block (w.heap.size + 1) (by have := LZ.out; omega)).trans K1.out)
      have PB := Lib.hid (KB.out.trans (b2.mono (by have := LZ.out; omega)))
      have PZ : Hid (w.heap.size + 1 + 1 < w2.heap.size) := Lib.hid (by have := LZ.out; have := b2.size; omega)
      clear b2 K0 K1 K2 KB LZ CK
      go_wp2_with fail
      refine Calls.mono (FO.out w2.heap.size w2 (Nat.le_refl _)) ?_
      rintro e w3 ⟨v, rfl, h3, b3⟩
      obtain ⟨g, cap, rfl, -, hg, -, hc3⟩ := h3.form (by omega)
      have C3 := Lib.hid hc3
      have G3 : Hid (w.heap.size + 1 + 1 < g) := Lib.hid (by have := PZ.out; omega)
      have Q2 : Hid (w3.heap[w.heap.size + 1 + 1]? = some (.cells (Q16 (mixI zI m (12 + 0))) 93 (0, 0))) := Lib.hid ((b3.block _ (by have := PZ.out; omega)).trans P2.out)
      have Q1 := Lib.hid ((b3.block (w.heap.size + 1) (by have := PZ.out; omega)).trans P1.out)
      have QB := Lib.hid (PB.out.trans (b3.mono (by have := PZ.out; omega)))
      clear b3 P2 P1 PB PZ h3 hg hc3 FO
      go_wp2_with fail
      go_loopw [8] (fun i wr => ∃ k : Nat, k ≤ 4 ∧ i = .int .i64 (k : Int) ∧ wr.heap[w.heap.size + 1 + 1]? = some (.cells (Q16 (mixI zI m (12 + k))) 93 (0, 0)) ∧ (∀ j, j < 4 → wr.cell? ⟨g, j, none⟩ = some (.int .u8 (byW c j))) ∧ wr.heap[w.heap.size + 1]? = some (.cells #[Value.int .u8 0, Value.int .u8 0, Value.int .u8 0, Value.int .u8 0, Value.int .u8 0, Value.int .u8 0, Value.int .u8 0, Value.int .u8 0, Value.int .u8 0, Value.int .u8 0, Value.int .u8 0, Value.int .u8 0, Value.int .u8 0, Value.int .u8 0, Value.int .u8 0, Value.int .u8 0] 93 (0, 0)) ∧ Below w.heap.size w wr) (fun i _ => 4 - (intOf i).toNat)
      case atStart => exact ⟨0, Nat.zero_le _, rfl, Q2.out, C3.out, Q1.out, QB.out⟩
      case round =>
        obtain ⟨k, hk, rfl, h2, h0, h1, hB⟩ := hrel
        have K2 := Lib.hid h2
        have K0 := Lib.hid h0
        have K1 := Lib.hid h1
        have KB := Lib.hid hB
        clear h2 h0 h1 hB Q2 C3 Q1 QB
        by_cases hlt : k < 4
        · have t1 : (k : Int) < 4 := by omega
          have HK := Lib.hid hlt
          have NE : g ≠ w.heap.size + 1 + 1 := by have := G3.out; omega
          have HNE := Lib.hid NE
          have tn : ((12 : Int) + (k : Int)).toNat = 12 + k := by omega
          have tk : (12 : Int) + (k : Int) < 16 := by omega
          have c0 : wr.cell? ⟨g, k, none⟩ = some (.int .u8 (m (12 + k))) := by rw [M1.out k]; exact K0.out k hlt
          have c2 : wr.cell? ⟨w.heap.size + 1 + 1, 12 + k, none⟩ = some (.int .u8 (mixI zI m (12 + k) (12 + k))) := (Lib.cell_of_heap K2.out (12 + k)).trans (arr_get _ _ _ _ (by omega))
          have f2 : wr.frozen? ⟨w.heap.size + 1 + 1, 12 + k, none⟩ = false := Lib.frozen_of_heap K2.out (12 + k)
          generalize mixI zI m (12 + k) (12 + k) = v at c2
          clear hlt hk NE
          go_wp2
          go_roundw
          case rel => exact ⟨k + 1, by have := HK.out; omega, by go_num, by rw [fset_at K2.out, arr_set _ _ _ _ _ (by have := HK.out; omega), mixI_step]; rfl, fun j hj => by rw [zcell_set _ _ _ HNE.out]; exact K0.out j hj, by rw [fset_far (by omega)]; exact K1.out, KB.out.setCell (p := ⟨w.heap.size + 1 + 1, _, none⟩) (by simp; omega) _⟩
          case measure => have := HK.out; simp [intOf]; omega
        · obtain rfl : k = 4 := by omega
          have G2 : Hid (wr.heap[w.heap.size + 1 + 1]? = some (.cells (Q16 m) 93 (0, 0))) := Lib.hid (by have := K2.out; rwa [show Q16 (mixI zI m (12 + 4)) = Q16 m from arr_mix .u8 16 zI m] at this)
          clear K2 hk hlt
          go_wp2_with (first | (refine wpList_load_row rfl 93 _ rfl (w.heap.size + 1 + 1) rfl 93 _ _ _ G2.out Try.underlying93 rfl (fr_info _ (arr_size _ _ _)) ?_) | (refine wpList_store_row rfl 93 _ _ rfl (w.heap.size + 1) (Q16 m) rfl rfl 93 _ K1.out (fr_info _ rfl) rfl (arr_cells _ _ _) ?_))
          refine bodyPost_ret (v := .agg (Q16 m)) ?_ rfl ⟨rfl, ?_⟩
          · exact results_cell_row Try.results109 _ _ (w.heap.size + 1) _ _ _ _ rfl (setRow_heap _ _ _ _ _ _ K1.out) Try.underlying93 rfl (fr_info _ (arr_size _ _ _))
          · exact below_setRow KB.out (by omega) _
end Go.Proofs.Ytkijgadkgfapgaa
