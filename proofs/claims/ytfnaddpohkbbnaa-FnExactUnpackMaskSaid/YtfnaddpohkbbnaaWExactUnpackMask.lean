/-
  THE WALK of the law, whole.
-/
import Derived.Test.YtfnaddpohkbbnaaUi
import Derived.Test.YtfnaddpohkbbnaaTy
namespace Go.Proofs.Ytfnaddpohkbbnaa
open Go.ChangeShapes Go.WideShapes Go.ChangeAt Go.RowKit
set_option maxHeartbeats 1000000 in
theorem eqYL_any (x y n c1 c2 : Nat) (f : Nat → Int) (w : World) (hn : n ≤ 1048576)
    (hx : ∀ j, j < n → w.cell? ⟨x, j, none⟩ = some (.int .u8 (f j))) (hy : ∀ j, j < n → w.cell? ⟨y, j, none⟩ = some (.int .u8 (f j))) :
    Calls Try.prog 21 #[.slice (some ⟨x, 0, none⟩) n c1, .slice (some ⟨y, 0, none⟩) n c2] w fun e w' => e = .returned (.bool true) ∧ Below w.heap.size w w' := by
  have HX := Lib.hid hx
  have HY := Lib.hid hy
  clear hx hy
  have hn' : (n : Int) ≤ 1048576 := by omega
  go_enter Try.func21, Try.ntmps21
  go_wp2
  go_loopw [5] (fun i wr => ∃ k m : Nat, k ≤ n ∧ i = .int .i64 k ∧ wr = w.drewN m) (fun i _ => n - (intOf i).toNat)
  case atStart => exact ⟨0, 0, Nat.zero_le _, rfl, rfl⟩
  case round =>
    obtain ⟨k, m, hk, rfl, hw⟩ := hrel
    by_cases hlt : k < n
    · have tl : (k : Int) < n := by omega
      have cx : wr.cell? ⟨x, k, none⟩ = some (.int .u8 (f k)) := by rw [hw]; exact HX.out k hlt
      have cy : wr.cell? ⟨y, k, none⟩ = some (.int .u8 (f k)) := by rw [hw]; exact HY.out k hlt
      have HW := Lib.hid hw
      clear hw
      generalize f k = z at cx cy
      go_wp2
      go_quiet (fail)
      go_wp2
      go_roundw
      case rel => exact ⟨k + 1, _, by omega, by go_num, by rw [HW.out, World.drewN_drewN]⟩
      case measure => simp [intOf]; omega
    · obtain rfl : k = n := by omega
      have B : Hid (Below w.heap.size w wr) := Lib.hid (by rw [hw]; exact mdrewN (Below.refl _ _) _)
      clear hw
      go_wp2
      go_ret
      exact ⟨rfl, B.out⟩
set_option maxRecDepth 20000 in
set_option maxHeartbeats 4000000 in
theorem fnExactUnpackMask_walk (D : List UInt8) (av : Option Addr) (cap : Nat) (w : World) (hR : DR w.heap.size w av D) :
    Calls Try.prog 5 #[.slice av D.length cap] w fun e w' => e = .returned (.bool true) ∧ Below w.heap.size w w' := by
  by_cases hn : 1048576 < D.length
  · obtain ⟨n, hn'⟩ : ∃ n, D.length = n := ⟨_, rfl⟩
    rw [hn'] at hn ⊢
    have tn : (1048576 : Int) < (n : Int) := by omega
    clear hn' hR hn
    go_enter Try.func5, Try.ntmps5
    go_wp2
    go_ret
    exact ⟨rfl, Below.refl _ _⟩
  · have hl : D.length ≤ 1048576 := by omega
    have tn : (D.length : Int) ≤ 1048576 := by omega
    have HR := Lib.hid hR
    have HL := Lib.hid hl
    clear hn hR hl
    have h1 := Lib.hid (fun av cap w (h : DR w.heap.size w av D) => sunpack_any D HL.out av cap w h)
    have h2 := Lib.hid (fun av cap w (h : DR w.heap.size w av D) => iunpack_any D HL.out av cap w h)
    unfold UnPost at h1 h2
    generalize unF D = g at h1 h2
    generalize unC D = c at h1 h2
    go_enter Try.func5, Try.ntmps5
    go_wp2_with fail
    refine (toY_any av cap D w.heap.size w (Nat.le_refl _) HR.out HL.out).mono ?_
    rintro e w1 ⟨rfl, d1, b1, z1⟩
    have D1 := Lib.hid d1
    have B1 := Lib.hid b1
    have Z1 := Lib.hid z1
    clear d1 b1 z1
    go_wp2_with fail
    refine (h1.out _ _ w1 (D1.out.below (Below.refl _ _) (by have := Z1.out; omega))).mono ?_
    rintro e w2 ⟨rfl, b2⟩
    have B2 : Hid (Below w.heap.size w w2) := Lib.hid (B1.out.trans (b2.mono (by have := Z1.out; omega)))
    have Z2 : Hid (w.heap.size ≤ w2.heap.size) := Lib.hid B2.out.size
    clear b2 D1 B1 Z1
    have N2 : Hid ((w2.alloc (.cells #[Value.int .u16 0, Value.int .u16 0, Value.int .u16 0, Value.int .u16 0, Value.int .u16 0, Value.int .u16 0, Value.int .u16 0, Value.int .u16 0, Value.int .u16 0, Value.int .u16 0, Value.int .u16 0, Value.int .u16 0, Value.int .u16 0, Value.int .u16 0, Value.int .u16 0, Value.int .u16 0] 24)).heap[w2.heap.size]? = some (.cells #[Value.int .u16 0, Value.int .u16 0, Value.int .u16 0, Value.int .u16 0, Value.int .u16 0, Value.int .u16 0, Value.int .u16 0, Value.int .u16 0, Value.int .u16 0, Value.int .u16 0, Value.int .u16 0, Value.int .u16 0, Value.int .u16 0, Value.int .u16 0, Value.int .u16 0, Value.int .u16 0] 24 (0, 0))) := Lib.hid (World.alloc_heap_new w2 _)
    obtain ⟨W3, hW3⟩ : ∃ W3, (w2.alloc (.cells #[Value.int .u16 0, Value.int .u16 0, Value.int .u16 0, Value.int .u16 0, Value.int .u16 0, Value.int .u16 0, Value.int .u16 0, Value.int .u16 0, Value.int .u16 0, Value.int .u16 0, Value.int .u16 0, Value.int .u16 0, Value.int .u16 0, Value.int .u16 0, Value.int .u16 0, Value.int .u16 0] 24)).setRow w2.heap.size (M16 g) = W3 := ⟨_, rfl⟩
    have E3 : Hid (W3.heap[w2.heap.size]? = some (.cells (M16 g) 24 (0, 0))) := Lib.hid (by rw [← hW3]; exact setRow_heap _ _ _ _ _ _ N2.out)
    have B3 : Hid (Below w.heap.size w W3) := Lib.hid (by rw [← hW3]; exact below_setRow (B2.out.alloc Z2.out _) Z2.out _)
    have Z3 : Hid (w2.heap.size < W3.heap.size) := Lib.hid (by rw [← hW3]; simp)
    go_wp2_with (refine wpList_store_row rfl 24 _ _ rfl w2.heap.size (M16 g) rfl rfl 24 _ N2.out (mask_info _ rfl) rfl (arr_cells _ _ _) ?_; rw [hW3])
    clear hW3 N2
    refine (toY_any av cap D w.heap.size W3 B3.out.size (HR.out.below B3.out (Nat.le_refl _)) HL.out).mono ?_
    rintro e w4 ⟨rfl, d4, b4, z4⟩
    have D4 := Lib.hid d4
    have Z4 := Lib.hid z4
    have E4 := Lib.hid ((b4.block w2.heap.size Z3.out).trans E3.out)
    have B4 := Lib.hid (B3.out.trans (b4.mono B3.out.size))
    clear d4 b4 z4 E3
    go_wp2_with fail
    refine (h2.out _ _ w4 (D4.out.below (Below.refl _ _) (by have := Z4.out; omega))).mono ?_
    rintro e w5 ⟨rfl, b5⟩
    have D5 : Hid (DR w4.heap.size w5 (some ⟨W3.heap.size, 0, none⟩) D) := Lib.hid ((D4.out.below (Below.refl _ _) (by have := Z4.out; omega)).below b5 (Nat.le_refl _))
    have E5 := Lib.hid ((b5.block w2.heap.size (by have := Z3.out; have := Z4.out; omega)).trans E4.out)
    have B5 := Lib.hid (B4.out.trans (b5.mono B4.out.size))
    have Z5 : Hid (w4.heap.size ≤ w5.heap.size) := Lib.hid b5.size
    clear b5 D4 E4 B4
    have N5 : Hid ((w5.alloc (.cells #[Value.int .u16 0, Value.int .u16 0, Value.int .u16 0, Value.int .u16 0, Value.int .u16 0, Value.int .u16 0, Value.int .u16 0, Value.int .u16 0, Value.int .u16 0, Value.int .u16 0, Value.int .u16 0, Value.int .u16 0, Value.int .u16 0, Value.int .u16 0, Value.int .u16 0, Value.int .u16 0] 24)).heap[w5.heap.size]? = some (.cells #[Value.int .u16 0, Value.int .u16 0, Value.int .u16 0, Value.int .u16 0, Value.int .u16 0, Value.int .u16 0, Value.int .u16 0, Value.int .u16 0, Value.int .u16 0, Value.int .u16 0, Value.int .u16 0, Value.int .u16 0, Value.int .u16 0, Value.int .u16 0, Value.int .u16 0, Value.int .u16 0] 24 (0, 0))) := Lib.hid (World.alloc_heap_new w5 _)
    have K5 : Hid (Below w5.heap.size w5 ((w5.alloc (.cells #[Value.int .u16 0, Value.int .u16 0, Value.int .u16 0, Value.int .u16 0, Value.int .u16 0, Value.int .u16 0, Value.int .u16 0, Value.int .u16 0, Value.int .u16 0, Value.int .u16 0, Value.int .u16 0, Value.int .u16 0, Value.int .u16 0, Value.int .u16 0, Value.int .u16 0, Value.int .u16 0] 24)).setRow w5.heap.size (M16 g))) := Lib.hid (below_setRow ((Below.refl _ _).alloc (Nat.le_refl _) _) (Nat.le_refl _) _)
    obtain ⟨W6, hW6⟩ : ∃ W6, (w5.alloc (.cells #[Value.int .u16 0, Value.int .u16 0, Value.int .u16 0, Value.int .u16 0, Value.int .u16 0, Value.int .u16 0, Value.int .u16 0, Value.int .u16 0, Value.int .u16 0, Value.int .u16 0, Value.int .u16 0, Value.int .u16 0, Value.int .u16 0, Value.int .u16 0, Value.int .u16 0, Value.int .u16 0] 24)).setRow w5.heap.size (M16 g) = W6 := ⟨_, rfl⟩
    rw [hW6] at K5
    have H6 : Hid (W6.heap[w5.heap.size]? = some (.cells (M16 g) 24 (0, 0))) := Lib.hid (by rw [← hW6]; exact setRow_heap _ _ _ _ _ _ N5.out)
    have E6 : Hid (W6.heap[w2.heap.size]? = some (.cells (M16 g) 24 (0, 0))) := Lib.hid ((K5.out.block _ (by have := Z3.out; have := Z4.out; have := Z5.out; omega)).trans E5.out)
    have D6 : Hid (DR w5.heap.size W6 (some ⟨W3.heap.size, 0, none⟩) D) := Lib.hid ((D5.out.below (Below.refl _ _) Z5.out).below K5.out (Nat.le_refl _))
    have B6 := Lib.hid (B5.out.trans (K5.out.mono B5.out.size))
    have Z6 : Hid (w5.heap.size ≤ W6.heap.size) := Lib.hid K5.out.size
    clear D5 E5 B5 K5
    go_wp2_with (first | (refine wpList_store_row rfl 24 _ _ rfl w5.heap.size (M16 g) rfl rfl 24 _ N5.out (mask_info _ rfl) rfl (arr_cells _ _ _) ?_; rw [hW6]) | (refine wpList_load_row rfl 24 _ rfl w5.heap.size rfl 24 _ _ _ H6.out Try.underlying24 rfl (mask_info _ (arr_size _ _ _)) ?_) | (refine wpList_load_row rfl 24 _ rfl w2.heap.size rfl 24 _ _ _ E6.out Try.underlying24 rfl (mask_info _ (arr_size _ _ _)) ?_))
    clear hW6 N5
    refine (eqMask_any g g rfl _).mono ?_
    rintro e w7 ⟨rfl, b7⟩
    have D7 : Hid (DR W6.heap.size w7 (some ⟨W3.heap.size, 0, none⟩) D) := Lib.hid ((D6.out.below (Below.refl _ _) Z6.out).below b7 (Nat.le_refl _))
    have B7 := Lib.hid (B6.out.trans (b7.mono B6.out.size))
    have Z7 : Hid (W6.heap.size ≤ w7.heap.size) := Lib.hid b7.size
    have tc : (c != c) = false := by simp
    clear b7 D6 B6 E6 H6
    go_wp2_with fail
    refine (toY_any av cap D w.heap.size w7 B7.out.size (HR.out.below B7.out (Nat.le_refl _)) HL.out).mono ?_
    rintro e w8 ⟨rfl, d8, b8, z8⟩
    have D8 : Hid (DR w7.heap.size w8 (some ⟨W3.heap.size, 0, none⟩) D) := Lib.hid ((D7.out.below (Below.refl _ _) Z7.out).below b8 (Nat.le_refl _))
    have X8 := Lib.hid d8
    have B8 := Lib.hid (B7.out.trans (b8.mono B7.out.size))
    clear d8 b8 z8 D7 B7
    have EQ := Lib.hid (eqYL_any W3.heap.size w7.heap.size D.length D.length D.length (fun j => (((D[j]?.getD 0).toNat : Nat) : Int)) w8 HL.out (fun j hj => by
      rcases D8.out with h | ⟨x, off, hx, _, hc⟩
      · omega
      · cases hx
        have := hc j hj
        rw [Nat.zero_add] at this
        rw [this, List.getElem?_eq_getElem hj]; rfl) (fun j hj => by
      rcases X8.out with h | ⟨x, off, hx, _, hc⟩
      · omega
      · cases hx
        have := hc j hj
        rw [Nat.zero_add] at this
        rw [this, List.getElem?_eq_getElem hj]; rfl))
    go_wp2_with fail
    refine (EQ.out).mono ?_
    rintro e w9 ⟨rfl, b9⟩
    have B9 := Lib.hid (B8.out.trans (b9.mono B8.out.size))
    clear b9
    go_wp2
    go_ret
    exact ⟨rfl, B9.out⟩
end Go.Proofs.Ytfnaddpohkbbnaa
