/-
  CONTRACTS: the specification's l09Number and l09Data.
-/
import Derived.Test.YtkijgadkgfapgaaHj
import Derived.Test.YtkijgadkgfapgaaGh
import Derived.Test.YtkijgadkgfapgaaGab
namespace Go.Proofs.Ytkijgadkgfapgaa
open Go.ChangeShapes Go.WideShapes Go.ChangeAt Go.RowKit
set_option maxHeartbeats 4000000 in
theorem number_any (g off n c : Nat) (q : Nat → Int) (hq : ByF 4 q) (hn : 4 ≤ n) (hnl : n ≤ 1000) (w : World) (hc : ∀ j, j < 4 → w.cell? ⟨g, off + j, none⟩ = some (.int .u8 (q j))) :
    Calls Try.prog 111 #[.slice (some ⟨g, off, none⟩) n c] w fun e w' => e = .returned (.int .u32 (hdB q 0 4 : Nat)) ∧ w = w' := by
  have nI : (4 : Int) ≤ (n : Int) ∧ (n : Int) ≤ 1000 := by omega
  have HC := Lib.hid hc
  have HQ := Lib.hid hq
  have HN : Hid (4 ≤ n) := Lib.hid hn
  clear hc hq hn hnl
  go_enter Try.func111, Try.ntmps111
  go_wp2
  go_loop [3, 4] (fun x i => ∃ k : Nat, k ≤ 4 ∧ i = .int .i64 k ∧ x = .int .u32 (hdB q 0 k : Nat)) (fun _ i => 4 - (intOf i).toNat)
  case atStart => exact ⟨0, by omega, rfl, rfl⟩
  case round =>
    obtain ⟨k, hk, rfl, rfl⟩ := hrel
    by_cases hlt : k < 4
    · have hs : hdB q 0 (k + 1) = hdB q 0 k * 256 + (q k).toNat := by simp [hdB]
      have hx1 := hdB_24 (f := q) (o := 0) hlt (fun i hi => by simpa using HQ.out i (by omega))
      obtain ⟨b0, b1⟩ := HQ.out k hlt
      have hor := or_byte _ _ hx1 b0 b1
      rw [← hs] at hor
      have hx0 : (0 : Int) ≤ (hdB q 0 k : Nat) := by omega
      have hx2 : ((hdB q 0 k : Nat) : Int) ≤ 16777215 := by omega
      have c0 := HC.out k hlt
      have tkn : (k : Int) < (n : Int) := by omega
      have tk4 : (k : Int) < 4 := by omega
      clear hs hx1
      go_wp2
      go_round
      case rel => exact ⟨k + 1, by omega, by go_num, rfl⟩
      case measure => simp [intOf]; omega
    · obtain rfl : k = 4 := by omega
      go_wp2
      go_ret
      exact ⟨rfl, rfl⟩
/-- the bytes behind the head -/
def pdF (f : Nat → Int) : Nat → Int := fun j => f ((j / 12 + 1) * 16 + j % 12)
set_option maxRecDepth 20000 in
set_option maxHeartbeats 8000000 in
theorem data_any (a : Option Addr) (n cap : Nat) (f : Nat → Int) (w : World) (hn1 : 1 ≤ n) (hn : n ≤ 700) (h : FrR w.heap.size w a n f) :
    Calls Try.prog 98 #[.slice a n cap] w fun e w' => ∃ v, e = .returned v ∧ OwnU w.heap.size v (12 * (n - 1)) (pdF f) w' ∧ Below w.heap.size w w' := by
  obtain ⟨g, off, rfl, hg, hc⟩ : ∃ g off, a = some ⟨g, off, none⟩ ∧ g < w.heap.size ∧ ∀ j, j < 16 * n → w.cell? ⟨g, off + j, none⟩ = some (.int .u8 (f j)) := by
    rcases h with h | h
    · omega
    · exact h
  have HC : Hid (∀ W, Below w.heap.size w W → ∀ j, j < 16 * n → W.cell? ⟨g, off + j, none⟩ = some (.int .u8 (f j))) := Lib.hid fun W hW j hj => (hW.cell (p := ⟨g, off + j, none⟩) hg).trans (hc j hj)
  have HN : Hid (1 ≤ n ∧ n ≤ 700) := Lib.hid ⟨hn1, hn⟩
  have nI : (1 : Int) ≤ (n : Int) ∧ (n : Int) ≤ 700 := by omega
  have O0 : Hid (OwnU w.heap.size (.slice (some ⟨w.heap.size, 0, none⟩) 0 0) (12 * 0) (pdF f) (w.alloc (.cells #[] 5))) := Lib.hid (OwnU.made (pdF f) w _ (Nat.le_refl _))
  have B0 : Hid (Below w.heap.size w (w.alloc (.cells #[] 5))) := Lib.hid ((Below.refl _ w).alloc (Nat.le_refl _) _)
  clear h hg hc hn hn1
  go_enter Try.func98, Try.ntmps98
  go_wp2_with fail
  generalize w.alloc (.cells #[] 5) = w1 at O0 B0 ⊢
  go_loopw [3, 4, 5] (fun d i _ wr => ∃ k : Nat, k + 1 ≤ n ∧ i = .int .i64 ((k + 1 : Nat) : Int) ∧ OwnU w.heap.size d (12 * k) (pdF f) wr ∧ Below w.heap.size w wr) (fun _ i _ _ => n - (intOf i).toNat)
  case atStart => exact ⟨0, HN.out.1, rfl, O0.out, B0.out⟩
  case round =>
    obtain ⟨k, hk, rfl, ho, hb⟩ := hrel
    have HO := Lib.hid ho
    have HB := Lib.hid hb
    clear ho hb O0 B0
    obtain ⟨p, hp⟩ : ∃ p, k + 1 = p := ⟨_, rfl⟩
    have EP := Lib.hid hp
    rw [hp]
    by_cases hlt : p < n
    · have hlt' : (p : Int) < (n : Int) := by omega
      have HK := Lib.hid hlt
      clear hlt hk hp
      go_wp2_with fail
      go_loopw [3, 5] (fun o i wx => ∃ j : Nat, j ≤ 12 ∧ i = .int .i64 (j : Int) ∧ OwnU w.heap.size o (12 * k + j) (pdF f) wx ∧ Below w.heap.size w wx) (fun _ i _ => 12 - (intOf i).toNat)
      case atStart => exact ⟨0, by omega, rfl, HO.out, HB.out⟩
      case round =>
        rename World => wz
        obtain ⟨j, hj, rfl, ho, hb⟩ := hrel
        have HO2 := Lib.hid ho
        have HB2 := Lib.hid hb
        have WZ : Hid (w.heap.size ≤ wz.heap.size) := Lib.hid hb.size
        clear ho hb
        by_cases hjl : j < 12
        · have hjl' : (j : Int) < 12 := by omega
          have hj16 : (j : Int) < 16 := by omega
          have HJ := Lib.hid hjl
          obtain ⟨x, hx⟩ : ∃ x, f (p * 16 + j) = x := ⟨_, rfl⟩
          have c0 : wz.cell? ⟨g, off + p * 16 + j, none⟩ = some (.int .u8 x) := by
            rw [Nat.add_assoc, HC.out wz HB2.out (p * 16 + j) (by have := HK.out; omega), hx]
          have FX : Hid (pdF f (12 * k + j) = x) := Lib.hid (by
            rw [← hx]
            unfold pdF
            rw [show (12 * k + j) / 12 + 1 = p by have := EP.out; omega, show (12 * k + j) % 12 = j by omega])
          clear hjl hj hx
          go_wp2_with (at_builtin; refine wpList_append_u rfl _ _ rfl w.heap.size _ (12 * k + j) (pdF f) rfl (HO2.out.alloc _) wz.heap.size 0 1 1 (fun _ => x) rfl (fun j hj => by obtain rfl : j = 0 := (by omega); exact (World.cell?_alloc_new _ _ _ _).trans rfl) (by have := HK.out; have := HJ.out; have := HN.out; have := EP.out; omega) (by have := WZ.out; rw [World.size_alloc]; omega) w (HB2.out.alloc WZ.out _) ?_; intro v' w' h1 h2; have H1 := Lib.hid h1; have H2 := Lib.hid h2; clear h1 h2)
          go_roundw
          case rel => exact ⟨j + 1, HJ.out, by go_num, H1.out.congr (by rw [← FX.out]; exact catU_same), H2.out⟩
          case measure => have := HJ.out; simp [intOf]; omega
        · obtain rfl : j = 12 := by omega
          clear hjl hj
          go_wp2
          go_roundw
          case rel => exact ⟨k + 1, by have := HK.out; have := EP.out; omega, by rw [EP.out]; go_num, by rw [show 12 * (k + 1) = 12 * k + 12 by omega]; exact HO2.out, HB2.out⟩
          case measure => have := HK.out; have := EP.out; simp [intOf]; omega
    · obtain rfl : p = n := by omega
      obtain rfl : k = p - 1 := by omega
      clear hlt hk hp
      go_wp2
      go_ret
      exact ⟨_, rfl, HO.out, HB.out⟩
end Go.Proofs.Ytkijgadkgfapgaa
