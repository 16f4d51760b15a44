/-
  THE WALK of the law, whole.
-/
import Derived.Test.YtandgjjfiniboaaMp
import Derived.WalkKit
import Derived.ProofKit
import Derived.OpenShut
import Derived.WalkLawsBesides
import Derived.Outline
import Derived.OwnWalk
import Derived.LoopTactic
import Derived.Laws.Rows
import Derived.Laws.Tables
import Derived.Laws.CopyOwn
import Derived.Deep.RegionHeld3
import Derived.StillTailTactics
import Derived.Deep.QuietTactic
import Derived.BigQuiet
import Derived.WalkSmall
import Derived.Lib.Hide
namespace Go.Proofs.Ytandgjjfiniboaa
open Go.ChangeShapes Go.WideShapes Go.ChangeAt Go.RowKit
theorem eqPt_same2 (a b : Int) (w : World) :
    Calls Try.prog 50 #[.agg #[.int .i32 a, .int .i32 b], .agg #[.int .i32 a, .int .i32 b]] w fun e w' => e = .returned (.bool true) ∧ Below w.heap.size w w' := by
  go_enter Try.func50, Try.ntmps50
  go_wp2
  refine wp_loop_rounds 3 ?_
  rw [rounds_succ]
  go_wp2
  go_quiet (fail)
  go_wp2
  rw [rounds_succ]
  go_wp2
  go_quiet (fail)
  go_wp2
  rw [rounds_succ]
  go_wp2
  go_ret
  exact ⟨rfl, by repeat (first | exact Below.refl _ _ | apply mdrewN | refine Below.alloc ?_ (by first | exact Nat.le_refl _ | (simp; done) | (simp; omega)) _)⟩
set_option maxHeartbeats 1000000 in
theorem eqPtL_any (x y n c1 c2 : Nat) (f : Nat → Int) (w : World) (hn : n ≤ 1048576)
    (hx : ∀ j, j < 2 * n → w.cell? ⟨x, j, none⟩ = some (.int .i32 (f j))) (hy : ∀ j, j < 2 * n → w.cell? ⟨y, j, none⟩ = some (.int .i32 (f j))) :
    Calls Try.prog 20 #[.slice (some ⟨x, 0, none⟩) n c1, .slice (some ⟨y, 0, none⟩) n c2] w fun e w' => e = .returned (.bool true) ∧ Below w.heap.size w w' := by
  have HX := Lib.hid hx
  have HY := Lib.hid hy
  clear hx hy
  have hn' : (n : Int) ≤ 1048576 := by omega
  go_enter Try.func20, Try.ntmps20
  go_wp2
  go_loopw [5] (fun i wr => ∃ k : Nat, k ≤ n ∧ i = .int .i64 k ∧ Below w.heap.size w wr) (fun i _ => n - (intOf i).toNat)
  case atStart => exact ⟨0, Nat.zero_le _, rfl, Below.refl _ _⟩
  case round =>
    obtain ⟨k, hk, rfl, hb⟩ := hrel
    by_cases hlt : k < n
    · have hxl := World.block_lt_of_cell? _ _ (HX.out (2 * k) (by omega))
      have hyl := World.block_lt_of_cell? _ _ (HY.out (2 * k) (by omega))
      have hS : ∀ W, Below w.heap.size w W → Below w.heap.size w W ∧ W.cell? ⟨x, k * 2, none⟩ = some (.int .i32 (f (2 * k))) ∧ W.cell? ⟨x, k * 2 + 1, none⟩ = some (.int .i32 (f (2 * k + 1))) ∧ W.cell? ⟨y, k * 2, none⟩ = some (.int .i32 (f (2 * k))) ∧ W.cell? ⟨y, k * 2 + 1, none⟩ = some (.int .i32 (f (2 * k + 1))) := fun W hW => by
        refine ⟨hW, ?_, ?_, ?_, ?_⟩
        · rw [hW.cell (p := ⟨x, k * 2, none⟩) hxl, Nat.mul_comm]; exact HX.out _ (by omega)
        · rw [hW.cell (p := ⟨x, k * 2 + 1, none⟩) hxl, Nat.mul_comm]; exact HX.out _ (by omega)
        · rw [hW.cell (p := ⟨y, k * 2, none⟩) hyl, Nat.mul_comm]; exact HY.out _ (by omega)
        · rw [hW.cell (p := ⟨y, k * 2 + 1, none⟩) hyl, Nat.mul_comm]; exact HY.out _ (by omega)
      have HS := Lib.hid hS
      have HB := Lib.hid hb
      clear hS hb hxl hyl
      go_wp2
      go_region_held3 (fun w' => Below w.heap.size w w' ∧ w'.cell? ⟨x, k * 2, none⟩ = some (.int .i32 (f (2 * k))) ∧ w'.cell? ⟨x, k * 2 + 1, none⟩ = some (.int .i32 (f (2 * k + 1))) ∧ w'.cell? ⟨y, k * 2, none⟩ = some (.int .i32 (f (2 * k))) ∧ w'.cell? ⟨y, k * 2 + 1, none⟩ = some (.int .i32 (f (2 * k + 1))))
        (first | exact HS.out _ HB.out.drew | exact HS.out _ (HB.out.drew.trans (Below.mono (by assumption) HB.out.size)))
        (first | (go_at_call 50; refine (eqPt_same2 _ _ _).mono ?_; rintro e w' ⟨rfl, hb⟩))
      rename_i hH
      have HB' := Lib.hid hH.1
      clear hH hb HB
      go_wp2
      go_roundw
      case rel => exact ⟨k + 1, by omega, by go_num, HB'.out⟩
      case measure => simp [intOf]; omega
    · obtain rfl : k = n := by omega
      have HB := Lib.hid hb
      clear hb
      go_wp2
      go_ret
      exact ⟨rfl, HB.out⟩
set_option maxRecDepth 20000 in
set_option maxHeartbeats 4000000 in
theorem fnExactMaskOf_walk (n : Nat) (f : Nat → Int) (hf : P32 n f) (hm : n ≤ maxLen) (av : Option Addr) (cap : Nat) (w : World) (hR : PtR w.heap.size w av n f) :
    Calls Try.prog 3 #[.slice av n cap] w fun e w' => e = .returned (.bool true) ∧ Below w.heap.size w w' := by
  have hm' : (n : Int) ≤ 9223372036854775807 := by simp [maxLen] at hm; omega
  have ws : IntKind.i64.wrap (1048576 - (n : Int)) = 1048576 - (n : Int) := by rw [IntKind.wrap_i64]; omega
  have SZ : Hid (Calls Try.prog 15 #[.slice av n cap, .int .i64 1048576] w fun e w' => e = .returned (.int .i64 (if 1048576 < n then -1 else 1048576 - (n : Int))) ∧ w = w') := Lib.hid (by
    by_cases hn : 1048576 < n
    · rw [if_pos hn]
      have tn : (1048576 : Int) - (n : Int) < 0 := by omega
      clear hR hf hm
      go_enter Try.func15, Try.ntmps15
      go_wp2
      go_ret
      exact ⟨rfl, rfl⟩
    · rw [if_neg hn]
      have tn : (0 : Int) ≤ (1048576 : Int) - (n : Int) := by omega
      clear hR hf hm
      go_enter Try.func15, Try.ntmps15
      go_wp2
      go_ret
      exact ⟨rfl, rfl⟩)
  by_cases hn : 1048576 < n
  · rw [if_pos hn] at SZ
    clear hR hn hf hm
    go_enter Try.func3, Try.ntmps3
    go_wp2_with fail
    refine (SZ.out).mono ?_
    rintro e w' ⟨rfl, rfl⟩
    go_wp2
    go_ret
    exact ⟨rfl, Below.refl _ _⟩
  · rw [if_neg hn] at SZ
    have hl : n ≤ 1048576 := by omega
    have tn : (0 : Int) ≤ 1048576 - (n : Int) := by omega
    have HR := Lib.hid hR
    have HL := Lib.hid hl
    have HP := Lib.hid hf
    clear hn hR hl hf hm
    have h1 := Lib.hid (fun av cap w (h : PtR w.heap.size w av n f) => smaskOf_any n f HP.out HL.out av cap w h)
    have h2 := Lib.hid (fun av cap w (h : PtR w.heap.size w av n f) => imaskOf_any n f HP.out HL.out av cap w h)
    unfold MoPost at h1 h2
    generalize maF f n = g at h1 h2
    generalize maC f n = c at h1 h2
    go_enter Try.func3, Try.ntmps3
    go_wp2_with fail
    refine (SZ.out).mono ?_
    rintro e w' ⟨rfl, rfl⟩
    go_wp2_with fail
    refine (toPS_any av cap n f w.heap.size w (Nat.le_refl _) HR.out HL.out).mono ?_
    rintro e w1 ⟨rfl, d1, b1, z1⟩
    have D1 := Lib.hid d1
    have B1 := Lib.hid b1
    have Z1 := Lib.hid z1
    clear d1 b1 z1
    go_wp2_with fail
    refine (h1.out _ _ w1 (D1.out.below (Below.refl _ _) (by have := Z1.out; omega))).mono ?_
    rintro e w2 ⟨rfl, b2⟩
    have B2 : Hid (Below w.heap.size w w2) := Lib.hid (B1.out.trans (b2.mono (by have := Z1.out; omega)))
    have Z2 : Hid (w.heap.size ≤ w2.heap.size) := Lib.hid B2.out.size
    clear b2 D1 B1 Z1
    have N2 : Hid ((w2.alloc (.cells #[Value.int .u16 0, Value.int .u16 0, Value.int .u16 0, Value.int .u16 0, Value.int .u16 0, Value.int .u16 0, Value.int .u16 0, Value.int .u16 0, Value.int .u16 0, Value.int .u16 0, Value.int .u16 0, Value.int .u16 0, Value.int .u16 0, Value.int .u16 0, Value.int .u16 0, Value.int .u16 0] 26)).heap[w2.heap.size]? = some (.cells #[Value.int .u16 0, Value.int .u16 0, Value.int .u16 0, Value.int .u16 0, Value.int .u16 0, Value.int .u16 0, Value.int .u16 0, Value.int .u16 0, Value.int .u16 0, Value.int .u16 0, Value.int .u16 0, Value.int .u16 0, Value.int .u16 0, Value.int .u16 0, Value.int .u16 0, Value.int .u16 0] 26 (0, 0))) := Lib.hid (World.alloc_heap_new w2 _)
    obtain ⟨W3, hW3⟩ : ∃ W3, (w2.alloc (.cells #[Value.int .u16 0, Value.int .u16 0, Value.int .u16 0, Value.int .u16 0, Value.int .u16 0, Value.int .u16 0, Value.int .u16 0, Value.int .u16 0, Value.int .u16 0, Value.int .u16 0, Value.int .u16 0, Value.int .u16 0, Value.int .u16 0, Value.int .u16 0, Value.int .u16 0, Value.int .u16 0] 26)).setRow w2.heap.size (M16 g) = W3 := ⟨_, rfl⟩
    have E3 : Hid (W3.heap[w2.heap.size]? = some (.cells (M16 g) 26 (0, 0))) := Lib.hid (by rw [← hW3]; exact setRow_heap _ _ _ _ _ _ N2.out)
    have B3 : Hid (Below w.heap.size w W3) := Lib.hid (by rw [← hW3]; exact below_setRow (B2.out.alloc Z2.out _) Z2.out _)
    have Z3 : Hid (w2.heap.size < W3.heap.size) := Lib.hid (by rw [← hW3]; simp)
    go_wp2_with (refine wpList_store_row rfl 26 _ _ rfl w2.heap.size (M16 g) rfl rfl 26 _ N2.out (mask_info _ rfl) rfl (arr_cells _ _ _) ?_; rw [hW3])
    clear hW3 N2
    refine (toPS_any av cap n f w.heap.size W3 B3.out.size (HR.out.below B3.out (Nat.le_refl _)) HL.out).mono ?_
    rintro e w4 ⟨rfl, d4, b4, z4⟩
    have D4 := Lib.hid d4
    have Z4 := Lib.hid z4
    have E4 := Lib.hid ((b4.block w2.heap.size Z3.out).trans E3.out)
    have B4 := Lib.hid (B3.out.trans (b4.mono B3.out.size))
    clear d4 b4 z4 E3
    go_wp2_with fail
    refine (h2.out _ _ w4 (D4.out.below (Below.refl _ _) (by have := Z4.out; omega))).mono ?_
    rintro e w5 ⟨rfl, b5⟩
    have D5 : Hid (PtR w4.heap.size w5 (some ⟨W3.heap.size, 0, none⟩) n f) := Lib.hid ((D4.out.below (Below.refl _ _) (by have := Z4.out; omega)).below b5 (Nat.le_refl _))
    have E5 := Lib.hid ((b5.block w2.heap.size (by have := Z3.out; have := Z4.out; omega)).trans E4.out)
    have B5 := Lib.hid (B4.out.trans (b5.mono B4.out.size))
    have Z5 : Hid (w4.heap.size ≤ w5.heap.size) := Lib.hid b5.size
    clear b5 D4 E4 B4
    have N5 : Hid ((w5.alloc (.cells #[Value.int .u16 0, Value.int .u16 0, Value.int .u16 0, Value.int .u16 0, Value.int .u16 0, Value.int .u16 0, Value.int .u16 0, Value.int .u16 0, Value.int .u16 0, Value.int .u16 0, Value.int .u16 0, Value.int .u16 0, Value.int .u16 0, Value.int .u16 0, Value.int .u16 0, Value.int .u16 0] 26)).heap[w5.heap.size]? = some (.cells #[Value.int .u16 0, Value.int .u16 0, Value.int .u16 0, Value.int .u16 0, Value.int .u16 0, Value.int .u16 0, Value.int .u16 0, Value.int .u16 0, Value.int .u16 0, Value.int .u16 0, Value.int .u16 0, Value.int .u16 0, Value.int .u16 0, Value.int .u16 0, Value.int .u16 0, Value.int .u16 0] 26 (0, 0))) := Lib.hid (World.alloc_heap_new w5 _)
    have K5 : Hid (Below w5.heap.size w5 ((w5.alloc (.cells #[Value.int .u16 0, Value.int .u16 0, Value.int .u16 0, Value.int .u16 0, Value.int .u16 0, Value.int .u16 0, Value.int .u16 0, Value.int .u16 0, Value.int .u16 0, Value.int .u16 0, Value.int .u16 0, Value.int .u16 0, Value.int .u16 0, Value.int .u16 0, Value.int .u16 0, Value.int .u16 0] 26)).setRow w5.heap.size (M16 g))) := Lib.hid (below_setRow ((Below.refl _ _).alloc (Nat.le_refl _) _) (Nat.le_refl _) _)
    obtain ⟨W6, hW6⟩ : ∃ W6, (w5.alloc (.cells #[Value.int .u16 0, Value.int .u16 0, Value.int .u16 0, Value.int .u16 0, Value.int .u16 0, Value.int .u16 0, Value.int .u16 0, Value.int .u16 0, Value.int .u16 0, Value.int .u16 0, Value.int .u16 0, Value.int .u16 0, Value.int .u16 0, Value.int .u16 0, Value.int .u16 0, Value.int .u16 0] 26)).setRow w5.heap.size (M16 g) = W6 := ⟨_, rfl⟩
    rw [hW6] at K5
    have H6 : Hid (W6.heap[w5.heap.size]? = some (.cells (M16 g) 26 (0, 0))) := Lib.hid (by rw [← hW6]; exact setRow_heap _ _ _ _ _ _ N5.out)
    have E6 : Hid (W6.heap[w2.heap.size]? = some (.cells (M16 g) 26 (0, 0))) := Lib.hid ((K5.out.block _ (by have := Z3.out; have := Z4.out; have := Z5.out; omega)).trans E5.out)
    have D6 : Hid (PtR w5.heap.size W6 (some ⟨W3.heap.size, 0, none⟩) n f) := Lib.hid ((D5.out.below (Below.refl _ _) Z5.out).below K5.out (Nat.le_refl _))
    have B6 := Lib.hid (B5.out.trans (K5.out.mono B5.out.size))
    have Z6 : Hid (w5.heap.size ≤ W6.heap.size) := Lib.hid K5.out.size
    clear D5 E5 B5 K5
    go_wp2_with (first | (refine wpList_store_row rfl 26 _ _ rfl w5.heap.size (M16 g) rfl rfl 26 _ N5.out (mask_info _ rfl) rfl (arr_cells _ _ _) ?_; rw [hW6]) | (refine wpList_load_row rfl 26 _ rfl w5.heap.size rfl 26 _ _ _ H6.out Try.underlying26 rfl (mask_info _ (arr_size _ _ _)) ?_) | (refine wpList_load_row rfl 26 _ rfl w2.heap.size rfl 26 _ _ _ E6.out Try.underlying26 rfl (mask_info _ (arr_size _ _ _)) ?_))
    clear hW6 N5
    refine (eqMask_any g g rfl _).mono ?_
    rintro e w7 ⟨rfl, b7⟩
    have D7 : Hid (PtR W6.heap.size w7 (some ⟨W3.heap.size, 0, none⟩) n f) := Lib.hid ((D6.out.below (Below.refl _ _) Z6.out).below b7 (Nat.le_refl _))
    have B7 := Lib.hid (B6.out.trans (b7.mono B6.out.size))
    have Z7 : Hid (W6.heap.size ≤ w7.heap.size) := Lib.hid b7.size
    have tc : (c != c) = false := by simp
    clear b7 D6 B6 E6 H6
    go_wp2_with fail
    refine (toPS_any av cap n f w.heap.size w7 B7.out.size (HR.out.below B7.out (Nat.le_refl _)) HL.out).mono ?_
    rintro e w8 ⟨rfl, d8, b8, z8⟩
    have D8 : Hid (PtR w7.heap.size w8 (some ⟨W3.heap.size, 0, none⟩) n f) := Lib.hid ((D7.out.below (Below.refl _ _) Z7.out).below b8 (Nat.le_refl _))
    have X8 := Lib.hid d8
    have B8 := Lib.hid (B7.out.trans (b8.mono B7.out.size))
    clear d8 b8 z8 D7 B7
    have EQ := Lib.hid (eqPtL_any W3.heap.size w7.heap.size n n n f w8 HL.out (fun j hj => by
      rcases D8.out with h | ⟨x, off, hx, _, hc⟩
      · omega
      · cases hx
        have := hc j hj
        rwa [Nat.zero_add] at this) (fun j hj => by
      rcases X8.out with h | ⟨x, off, hx, _, hc⟩
      · omega
      · cases hx
        have := hc j hj
        rwa [Nat.zero_add] at this))
    go_wp2_with fail
    refine (EQ.out).mono ?_
    rintro e w9 ⟨rfl, b9⟩
    have B9 := Lib.hid (B8.out.trans (b9.mono B8.out.size))
    clear b9
    go_wp2
    go_ret
    exact ⟨rfl, B9.out⟩
end Go.Proofs.Ytandgjjfiniboaa
