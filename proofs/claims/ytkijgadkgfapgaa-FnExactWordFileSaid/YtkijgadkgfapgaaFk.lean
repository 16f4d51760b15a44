/-
  CONTRACTS: the specification's check, and its CheckOf.
-/
import Derived.Test.YtkijgadkgfapgaaFc
namespace Go.Proofs.Ytkijgadkgfapgaa
open Go.ChangeShapes Go.WideShapes Go.ChangeAt Go.RowKit
theorem catU_same {q : Nat → Int} {n : Nat} : ∀ j, j < n + 1 → catU q n (fun _ => q n) j = q j := fun j hj => by
  unfold catU
  split
  · rfl
  · rw [show j = n by omega]
set_option maxRecDepth 8000 in
set_option maxHeartbeats 2000000 in
theorem l09Check_any (i : Nat) (p : Nat → Int) (hp : ByF 12 p) (hi : i < 4294967296) (w : World) :
    Calls Try.prog 133 #[.int .i64 (i : Int), .agg (Q12 p)] w fun e w' => e = .returned (.int .u32 (chk i p : Int)) ∧ Below w.heap.size w w' := by
  have hi' : (i : Int) < 4294967296 := by omega
  obtain ⟨w1, hw1⟩ : ∃ w1, w.alloc (.cells (Q12 p) 141) = w1 := ⟨_, rfl⟩
  have S0 : Hid (w1.heap[w.heap.size]? = some (.cells (Q12 p) 141 (0, 0))) := Lib.hid (by rw [← hw1]; exact World.alloc_heap_new w _)
  have Z1 : Hid (w1.heap.size = w.heap.size + 1) := Lib.hid (by rw [← hw1]; simp)
  have B0 : Hid (Below w.heap.size w w1) := Lib.hid (by rw [← hw1]; exact (Below.refl _ _).alloc (Nat.le_refl _) _)
  have FO := Lib.hid (four_any i hi (w.heap.size + 1) w1 (by have := Z1.out; omega))
  have HP := Lib.hid hp
  have QI : Hid (∃ q, catU (byW i) 4 p = q ∧ (∀ j, j < 4 → q j = byW i j) ∧ ∀ j, q (4 + j) = p j) := Lib.hid ⟨_, rfl, fun j hj => catU_lo hj, fun j => catU_hi _ _ _ _⟩
  obtain ⟨q, hq, hq1, hq2⟩ := QI.out
  have CK : Hid (ckF q 16 = (chk i p : Int)) := Lib.hid (by rw [← hq]; exact chk_int i p)
  have HQ1 := Lib.hid hq1
  have HQ2 := Lib.hid hq2
  clear hi hp QI hq hq1 hq2
  go_enter Try.func133, Try.ntmps133
  go_wp2_with fail
  refine Calls.mono (FO.out) ?_
  rintro e w2 ⟨v, rfl, h2, b2⟩
  have O2 : Hid (OwnU (w.heap.size + 1) v 4 q w2) := Lib.hid (h2.congr fun j hj => (HQ1.out j hj).symm)
  have B2 : Hid (Below (w.heap.size + 1) w1 w2) := Lib.hid (by have := Z1.out; rw [← this]; exact b2)
  clear h2 b2 FO hw1
  go_wp2_with fail
  go_loopw [6, 7] (fun a i wr => ∃ k : Nat, k ≤ 12 ∧ i = .int .i64 (k : Int) ∧ OwnU (w.heap.size + 1) a (4 + k) q wr ∧ Below (w.heap.size + 1) w1 wr) (fun _ i _ => 12 - (intOf i).toNat)
  case atStart => exact ⟨0, by omega, rfl, O2.out, B2.out⟩
  case round =>
    obtain ⟨k, hk, rfl, ho, hb⟩ := hrel
    have HO := Lib.hid ho
    have HB := Lib.hid hb
    have WZ : Hid (w.heap.size + 1 ≤ wr.heap.size) := Lib.hid (by have := hb.size; have := Z1.out; omega)
    clear ho hb O2 B2
    by_cases hlt : k < 12
    · have tk : (k : Int) < 12 := by omega
      have HK := Lib.hid hlt
      have c0 : wr.cell? ⟨w.heap.size, k, none⟩ = some (.int .u8 (q (4 + k))) := by
        rw [HB.out.cell (p := ⟨w.heap.size, k, none⟩) (by show w.heap.size < _; omega), HQ2.out k]
        exact (Lib.cell_of_heap S0.out k).trans (arr_get _ _ _ _ hlt)
      clear hlt hk
      obtain ⟨x, hx⟩ : ∃ x, q (4 + k) = x := ⟨_, rfl⟩
      have HX := Lib.hid hx
      rw [hx] at c0
      clear hx
      go_wp2_with (at_builtin; go_loud (refine wpList_append_u rfl _ _ rfl (w.heap.size + 1) _ (4 + k) q rfl (HO.out.alloc _) wr.heap.size 0 1 1 (fun _ => x) rfl (fun j hj => by obtain rfl : j = 0 := (by omega); exact (World.cell?_alloc_new _ _ _ _).trans rfl) (by have := HK.out; omega) (by have := WZ.out; rw [World.size_alloc]; omega) w1 (HB.out.alloc WZ.out _) ?_); intro v' w' h1 h2; have H1 := Lib.hid h1; have H2 := Lib.hid h2; clear h1 h2)
      go_roundw
      case rel => exact ⟨k + 1, HK.out, by go_num, (H1.out).congr (by rw [← HX.out]; exact catU_same), H2.out⟩
      case measure => have := HK.out; simp [intOf]; omega
    · obtain rfl : k = 12 := by omega
      clear hlt hk
      obtain ⟨g, cap, rfl, hcap, hg, hgs, hc⟩ := (show OwnU _ _ 16 q wr from HO.out).form (by omega)
      have HC := Lib.hid hc
      have WB : Hid (Below w.heap.size w wr) := Lib.hid (B0.out.trans (HB.out.mono (Nat.le_succ _)))
      have CZ : Hid (ckF q 0 = 2166136261) := Lib.hid rfl
      have SS : Hid (∀ k, ckF q (k + 1) = ckS (ckF q k) (q k)) := Lib.hid fun _ => rfl
      clear hc hcap hg hgs HO HB
      go_wp2_with fail
      go_loop [5, 8] (fun c i => ∃ k : Nat, k ≤ 16 ∧ i = .int .i64 (k : Int) ∧ c = .int .u32 (ckF q k)) (fun _ i => 16 - (intOf i).toNat)
      case atStart => exact ⟨0, by omega, rfl, by rw [CZ.out]⟩
      case round =>
        obtain ⟨k, hk, rfl, rfl⟩ := hrel
        by_cases hlt : k < 16
        · have tk : (k : Int) < 16 := by omega
          have HK := Lib.hid hlt
          have c0 : wr.cell? ⟨g, k, none⟩ = some (.int .u8 (q k)) := HC.out k hlt
          obtain ⟨x, hx⟩ : ∃ x, q k = x := ⟨_, rfl⟩
          have HX := Lib.hid hx
          rw [hx] at c0
          have SK := Lib.hid (SS.out k)
          obtain ⟨c, hcq⟩ : ∃ c, ckF q k = c := ⟨_, rfl⟩
          have HCQ := Lib.hid hcq
          rw [hcq]
          clear hx hcq hlt hk
          go_wp2
          go_round
          case rel => exact ⟨k + 1, HK.out, by go_num, by rw [SK.out, HCQ.out, HX.out]; rfl⟩
          case measure => have := HK.out; simp [intOf]; omega
        · obtain rfl : k = 16 := by omega
          clear hlt hk
          rw [CK.out]
          go_wp2
          go_ret
          exact ⟨rfl, WB.out⟩
end Go.Proofs.Ytkijgadkgfapgaa
