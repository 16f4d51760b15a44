/-
  CONTRACTS: the specification's l09Head.
-/
import Derived.Test.YtkijgadkgfapgaaHk
import Derived.Test.YtkijgadkgfapgaaQr
namespace Go.Proofs.Ytkijgadkgfapgaa
open Go.ChangeShapes Go.WideShapes Go.ChangeAt Go.RowKit
theorem slice_fromU (g n c p : Nat) (hp : p < n) (hn : n ≤ c) (w : World) : (Instr.slice 45 (.slice (some ⟨g, 0, none⟩) n c) (some (.int .i64 (p : Int))) none none).run Try.prog w = .ok (.slice (some ⟨g, p, none⟩) (n - p) (c - p)) w := by
  have hs : ∀ w, (sizeOf (Try.prog.elem 45)).run Try.prog w = .ok 1 w := fun w => by kernel_rfl
  rw [run_slice_l (P := Try.prog) (w := w) 45 (some ⟨g, 0, none⟩) n c (by kernel_rfl) .i64 (p : Int) (by omega) (by omega), hs]
  simp only [Result.andThen_ok, sliced, Int.toNat_natCast]
  simp [show ¬ c = p by omega, Go.WideShapes.add_plain]
def sgnOk (m : Nat → Int) : Bool := m 0 == 77 && m 1 == 80 && m 2 == 78
set_option maxRecDepth 20000 in
set_option maxHeartbeats 8000000 in
theorem head_any (m : Nat → Int) (hm : ByF 16 m) (w : World) :
    Calls Try.prog 70 #[.agg (Q16 m)] w fun e w' => e = .returned (.tuple #[.int .i64 (m 3), .int .i64 (hdB (fun j => m (4 + j)) 0 4 : Nat), .int .i64 (hdB (fun j => m (8 + j)) 0 4 : Nat), .bool (sgnOk m)]) ∧ Below w.heap.size w w' := by
  obtain ⟨w1, hw1⟩ : ∃ w1, w.alloc (.cells (Q16 m) 93) = w1 := ⟨_, rfl⟩
  have C1 : Hid (∀ W, Below w1.heap.size w1 W → ∀ j, j < 16 → W.cell? ⟨w.heap.size, j, none⟩ = some (.int .u8 (m j))) := Lib.hid fun W hW j hj => by
    rw [hW.cell (p := ⟨w.heap.size, j, none⟩) (by rw [← hw1]; simp), ← hw1]
    exact (World.cell?_alloc_new w _ _ j).trans (arr_get _ _ _ _ hj)
  have B1 : Hid (Below w.heap.size w w1) := Lib.hid (by rw [← hw1]; exact (Below.refl _ w).alloc (Nat.le_refl _) _)
  have O0 : Hid (OwnU w1.heap.size (.slice (some ⟨w1.heap.size, 0, none⟩) 0 0) 0 m (w1.alloc (.cells #[] 5))) := Lib.hid (OwnU.made m w1 _ (Nat.le_refl _))
  have B0 : Hid (Below w1.heap.size w1 (w1.alloc (.cells #[] 5))) := Lib.hid ((Below.refl _ w1).alloc (Nat.le_refl _) _)
  have NA := Lib.hid (number_any)
  have HM := Lib.hid hm
  go_enter Try.func70, Try.ntmps70
  go_wp2_with fail
  generalize w1.alloc (.cells #[] 5) = w2 at O0 B0 ⊢
  go_loopw [6, 7] (fun o i wr => ∃ j : Nat, j ≤ 12 ∧ i = .int .i64 (j : Int) ∧ OwnU w1.heap.size o j m wr ∧ Below w1.heap.size w1 wr) (fun _ i _ => 12 - (intOf i).toNat)
  case atStart => exact ⟨0, by omega, rfl, O0.out, B0.out⟩
  case round =>
    obtain ⟨j, hj, rfl, ho, hb⟩ := hrel
    have HO := Lib.hid ho
    have HB := Lib.hid hb
    have WZ : Hid (w1.heap.size ≤ wr.heap.size) := Lib.hid hb.size
    clear ho hb O0 B0
    by_cases hjl : j < 12
    · have hjl' : (j : Int) < 12 := by omega
      have hj16 : (j : Int) < 16 := by omega
      have HJ := Lib.hid hjl
      have c0 := C1.out wr HB.out j (by omega)
      clear hjl hj
      obtain ⟨x, hx⟩ : ∃ x, m j = x := ⟨_, rfl⟩
      have HX := Lib.hid hx
      rw [hx] at c0
      clear hx
      go_wp2_with (at_builtin; refine wpList_append_u rfl _ _ rfl w1.heap.size _ j m rfl (HO.out.alloc _) wr.heap.size 0 1 1 (fun _ => x) rfl (fun j hj => by obtain rfl : j = 0 := (by omega); exact (World.cell?_alloc_new _ _ _ _).trans rfl) (by have := HJ.out; omega) (by have := WZ.out; rw [World.size_alloc]; omega) w1 (HB.out.alloc WZ.out _) ?_; intro v' w' h1 h2; have H1 := Lib.hid h1; have H2 := Lib.hid h2; clear h1 h2)
      go_roundw
      case rel => exact ⟨j + 1, HJ.out, by go_num, H1.out.congr (by rw [← HX.out]; exact catU_same), H2.out⟩
      case measure => have := HJ.out; simp [intOf]; omega
    · obtain rfl : j = 12 := by omega
      clear hjl hj
      obtain ⟨g, cap, rfl, hcap, hg, hgs, hcell⟩ := HO.out.form (by omega)
      have CC := Lib.hid hcell
      have WB : Hid (Below w.heap.size w wr) := Lib.hid (B1.out.trans (HB.out.mono B1.out.size))
      have sl4 : ∀ W, (Instr.slice 45 (.slice (some ⟨g, 0, none⟩) 12 cap) (some (.int .i64 4)) none none).run Try.prog W = .ok (.slice (some ⟨g, 4, none⟩) 8 (cap - 4)) W := fun W => slice_fromU g 12 cap 4 (by omega) hcap W
      have sl8 : ∀ W, (Instr.slice 45 (.slice (some ⟨g, 0, none⟩) 12 cap) (some (.int .i64 8)) none none).run Try.prog W = .ok (.slice (some ⟨g, 8, none⟩) 4 (cap - 8)) W := fun W => slice_fromU g 12 cap 8 (by omega) hcap W
      have c3 := CC.out 3 (by omega)
      have b3 := HM.out 3 (by omega)
      obtain ⟨x3, hx3⟩ : ∃ x, m 3 = x := ⟨_, rfl⟩
      have X3 := Lib.hid hx3
      rw [hx3] at c3 b3
      clear hcap hg hgs hcell hx3
      go_wp2_with fail
      refine (NA.out g 4 8 (cap - 4) (fun j => m (4 + j)) (fun j hj => HM.out _ (by omega)) (by omega) (by omega) wr (fun j hj => CC.out (4 + j) (by omega))).mono ?_
      rintro e x ⟨rfl, rfl⟩
      have N1 : Hid (((hdB (fun j => m (4 + j)) 0 4 : Nat) : Int) ≤ 4294967295) := Lib.hid (by have := hdB_lt (fun j => m (4 + j)) 0 4 (fun i hi => by simpa using HM.out (4 + i) (by omega)); omega)
      have N2 : Hid (((hdB (fun j => m (8 + j)) 0 4 : Nat) : Int) ≤ 4294967295) := Lib.hid (by have := hdB_lt (fun j => m (8 + j)) 0 4 (fun i hi => by simpa using HM.out (8 + i) (by omega)); omega)
      have E3 := Lib.hid (NA.out g 8 4 (cap - 8) (fun j => m (8 + j)) (fun j hj => HM.out _ (by omega)) (by omega) (by omega) wr (fun j hj => CC.out (8 + j) (by omega)))
      obtain ⟨na, hna⟩ : ∃ x, hdB (fun j => m (4 + j)) 0 4 = x := ⟨_, rfl⟩
      obtain ⟨nb, hnb⟩ : ∃ x, hdB (fun j => m (8 + j)) 0 4 = x := ⟨_, rfl⟩
      have EA := Lib.hid hna
      have EB := Lib.hid hnb
      rw [hna] at N1 ⊢
      rw [hnb] at N2 E3
      have n1 := N1.out
      have n2 := N2.out
      clear hna hnb
      go_wp2_with fail
      refine E3.out.mono ?_
      rintro e x ⟨rfl, rfl⟩
      have d0 := CC.out 0 (by omega)
      have d1 := CC.out 1 (by omega)
      have d2 := CC.out 2 (by omega)
      obtain ⟨sg, hsg⟩ : ∃ s, sgnOk m = s := ⟨_, rfl⟩
      have ES := Lib.hid hsg
      unfold sgnOk at hsg
      obtain ⟨x0, hx0⟩ : ∃ x, m 0 = x := ⟨_, rfl⟩
      obtain ⟨x1, hx1⟩ : ∃ x, m 1 = x := ⟨_, rfl⟩
      obtain ⟨x2, hx2⟩ : ∃ x, m 2 = x := ⟨_, rfl⟩
      rw [hx0] at hsg d0
      rw [hx1] at hsg d1
      rw [hx2] at hsg d2
      clear hx0 hx1 hx2 E3 N1 N2
      have R : Hid (∀ (e : Ending) (w' : World), e = .returned (.tuple #[.int .i64 x3, .int .i64 (na : Int), .int .i64 (nb : Int), .bool sg]) ∧ Below w.heap.size w w' → e = .returned (.tuple #[.int .i64 (m 3), .int .i64 (hdB (fun j => m (4 + j)) 0 4 : Nat), .int .i64 (hdB (fun j => m (8 + j)) 0 4 : Nat), .bool (sgnOk m)]) ∧ Below w.heap.size w w') := Lib.hid fun e w' ⟨h1, h2⟩ => ⟨by rw [h1, X3.out, EA.out, EB.out, ES.out], h2⟩
      have FD : Hid (∀ k, Below w.heap.size w (wr.drewN k)) := Lib.hid fun k => fdrewN WB.out k
      cases h0 : x0 == 77 with
      | false =>
        have hsg' : sg = false := by rw [← hsg, h0]; rfl
        subst hsg'
        clear hsg
        go_wp2
        go_quiet (fail)
        go_wp2
        exact bodyPost_ret (v := .tuple #[.int .i64 x3, .int .i64 (na : Int), .int .i64 (nb : Int), .bool false]) (by simp [results, Try.results70, go_sem]) rfl (R.out _ _ ⟨rfl, FD.out nq⟩)
      | true =>
        cases h1 : x1 == 80 with
        | false =>
          have hsg' : sg = false := by rw [← hsg, h0, h1]; rfl
          subst hsg'
          clear hsg
          go_wp2
          go_quiet (fail)
          go_wp2
          exact bodyPost_ret (v := .tuple #[.int .i64 x3, .int .i64 (na : Int), .int .i64 (nb : Int), .bool false]) (by simp [results, Try.results70, go_sem]) rfl (R.out _ _ ⟨rfl, FD.out nq⟩)
        | true =>
          cases h2 : x2 == 78 with
          | false =>
            have hsg' : sg = false := by rw [← hsg, h0, h1, h2]; rfl
            subst hsg'
            clear hsg
            go_wp2
            go_quiet (fail)
            go_wp2
            exact bodyPost_ret (v := .tuple #[.int .i64 x3, .int .i64 (na : Int), .int .i64 (nb : Int), .bool false]) (by simp [results, Try.results70, go_sem]) rfl (R.out _ _ ⟨rfl, FD.out nq⟩)
          | true =>
            have hsg' : sg = true := by rw [← hsg, h0, h1, h2]; rfl
            subst hsg'
            clear hsg
            go_wp2
            go_quiet (fail)
            go_wp2
            exact bodyPost_ret (v := .tuple #[.int .i64 x3, .int .i64 (na : Int), .int .i64 (nb : Int), .bool true]) (by simp [results, Try.results70, go_sem]) rfl (R.out _ _ ⟨rfl, FD.out nq⟩)
end Go.Proofs.Ytkijgadkgfapgaa
