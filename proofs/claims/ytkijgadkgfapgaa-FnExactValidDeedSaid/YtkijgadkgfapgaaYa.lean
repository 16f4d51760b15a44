/-
  CONTRACTS: one number of a mask's key, by the program: its bytes.
-/
import Derived.Test.YtkijgadkgfapgaaFm
import Derived.Test.YtkijgadkgfapgaaMl
namespace Go.Proofs.Ytkijgadkgfapgaa
open Go.ChangeShapes Go.WideShapes Go.ChangeAt Go.RowKit
/-- one number more is taken into a key -/
def kS (c x m : Int) : Int := IntKind.u64.wrap (IntKind.u64.wrap (x * c) + m)
/-- what has been found behind k numbers -/
def kF (s c : Int) (f : Nat → Int) : Nat → Int
  | 0 => s
  | k + 1 => kS c (kF s c f k) (f k)
theorem kS_in (c x m : Int) : 0 ≤ kS c x m ∧ kS c x m ≤ 18446744073709551615 := by
  unfold kS
  rw [IntKind.wrap_u64]
  omega
theorem kF_in (s c : Int) (f : Nat → Int) (hs : 0 ≤ s ∧ s ≤ 18446744073709551615) (k : Nat) : 0 ≤ kF s c f k ∧ kF s c f k ≤ 18446744073709551615 := by
  cases k with
  | zero => exact hs
  | succ k => exact kS_in _ _ _
/-- the bytes of a number of 64 bits, the highest first -/
def byL (x : Int) : Nat → Int
  | 0 => x / 72057594037927936 % 256
  | 1 => x / 281474976710656 % 256
  | 2 => x / 1099511627776 % 256
  | 3 => x / 4294967296 % 256
  | 4 => x / 16777216 % 256
  | 5 => x / 65536 % 256
  | 6 => x / 256 % 256
  | _ => x % 256
theorem byL_cat (x : Int) (h : 0 ≤ x ∧ x ≤ 18446744073709551615) : ∀ j, j < 8 → catU (byW (x / 4294967296).toNat) 4 (byW (x % 4294967296).toNat) j = byL x j := by
  intro j hj
  obtain ⟨n, rfl⟩ : ∃ n : Nat, x = n := ⟨x.toNat, by omega⟩
  have e1 : ((n : Int) / 4294967296).toNat = n / 4294967296 := by omega
  have e2 : ((n : Int) % 4294967296).toNat = n % 4294967296 := by omega
  rw [e1, e2]
  match j, hj with
  | 0, _ => simp only [catU, byW, byL]; simp; try omega
  | 1, _ => simp only [catU, byW, byL]; simp; omega
  | 2, _ => simp only [catU, byW, byL]; simp; omega
  | 3, _ => simp only [catU, byW, byL]; simp; try omega
  | 4, _ => simp only [catU, byW, byL]; simp; try omega
  | 5, _ => simp only [catU, byW, byL]; simp; omega
  | 6, _ => simp only [catU, byW, byL]; simp; omega
  | 7, _ => simp only [catU, byW, byL]; simp; try omega
  | k + 8, h => omega
theorem mk16_info (A : Array Value) (h : A.size = 16) : (Try.prog.info? 27).map (·.size) = some A.size := by rw [h]; kernel_rfl
set_option maxRecDepth 20000 in
set_option maxHeartbeats 2000000 in
theorem keyPart_any (f : Nat → Int) (hf : MB f) (s c : Int) (hs : 0 ≤ s ∧ s ≤ 18446744073709551615) (base : Nat) (w : World) (hb : base ≤ w.heap.size) :
    Calls Try.prog 55 #[.agg (arr .u16 16 f), .int .u64 s, .int .u64 c] w fun e w' => ∃ v, e = .returned v ∧ OwnU base v 8 (byL (kF s c f 16)) w' ∧ Below base w w' := by
  obtain ⟨w1, hw1⟩ : ∃ w1, w.alloc (.cells (arr .u16 16 f) 27) = w1 := ⟨_, rfl⟩
  have H0 : Hid (w1.heap[w.heap.size]? = some (.cells (arr .u16 16 f) 27 (0, 0))) := Lib.hid (by rw [← hw1]; exact World.alloc_heap_new w _)
  have B0 : Hid (Below base w w1) := Lib.hid (by rw [← hw1]; exact (Below.refl _ w).alloc hb _)
  have Z1 : Hid (base ≤ w1.heap.size) := Lib.hid (by rw [← hw1, World.size_alloc]; omega)
  have KZ : Hid (kF s c f 0 = s) := Lib.hid rfl
  have KS : Hid (∀ k, kF s c f (k + 1) = kS c (kF s c f k) (f k)) := Lib.hid fun _ => rfl
  have KI := Lib.hid (kF_in s c f hs)
  have HF := Lib.hid hf
  have BC := Lib.hid (byL_cat (kF s c f 16) (kF_in s c f hs 16))
  generalize kF s c f = K at KZ KS KI BC ⊢
  have AN := Lib.hid (appendWord_nil)
  have AO := Lib.hid (appendWord_own)
  have IX : Hid (∀ k : Nat, k < 16 → ∀ w, (Instr.index 27 (.agg (arr .u16 16 f)) (.int .i64 (k : Int))).run Try.prog w = .ok (.int .u16 (f k)) w) := Lib.hid fun k hk w => run_index_arr .i64 f k Try.underlying27 Try.underlying22 (by kernel_rfl) hk w
  have GS := Lib.hid (arr_size .u16 16 f)
  generalize arr .u16 16 f = A at hw1 H0 IX GS ⊢
  clear hf hs hb
  go_enter Try.func55, Try.ntmps55
  go_wp2_with (refine wpList_load_row rfl 27 _ rfl w.heap.size rfl 27 _ _ _ H0.out Try.underlying27 rfl (mk16_info _ GS.out) ?_)
  clear hw1
  go_loop [7, 9, 12] (fun x _ i => ∃ k : Nat, k ≤ 16 ∧ i = .int .i64 (k : Int) ∧ x = .int .u64 (K k)) (fun _ _ i => 16 - (intOf i).toNat)
  case atStart => exact ⟨0, by omega, rfl, by rw [KZ.out]⟩
  case round =>
    obtain ⟨k, hk, rfl, rfl⟩ := hrel
    by_cases hlt : k < 16
    · have tk : (k : Int) < 16 := by omega
      have HK := Lib.hid hlt
      have ix := IX.out k hlt
      obtain ⟨m0, m1⟩ := HF.out k hlt
      have SK := Lib.hid (KS.out k)
      obtain ⟨x0, x1⟩ := KI.out k
      have X1 := Lib.hid x1
      clear x1
      obtain ⟨x, hx⟩ : ∃ x, K k = x := ⟨_, rfl⟩
      obtain ⟨m, hm⟩ : ∃ m, f k = m := ⟨_, rfl⟩
      rw [hx] at x0 X1 SK
      rw [hm] at ix m0 m1 SK
      rw [hx]
      clear hx hm hlt hk
      unfold kS at SK
      go_wp2
      go_round
      case rel => exact ⟨k + 1, HK.out, by go_num, by rw [SK.out]⟩
      case measure => have := HK.out; simp [intOf]; omega
    · obtain rfl : k = 16 := by omega
      clear hlt hk
      obtain ⟨x0, x1⟩ := KI.out 16
      obtain ⟨x, hx⟩ : ∃ x, K 16 = x := ⟨_, rfl⟩
      have HX := Lib.hid hx
      rw [hx] at x0 x1 BC
      rw [hx]
      clear hx
      obtain ⟨r1, e1⟩ : ∃ r : Nat, x / 4294967296 = (r : Int) := ⟨(x / 4294967296).toNat, by omega⟩
      obtain ⟨r2, e2⟩ : ∃ r : Nat, x % 4294967296 = (r : Int) := ⟨(x % 4294967296).toNat, by omega⟩
      have d1 : (r1 : Int) ≤ 4294967295 := by omega
      have BD : Hid (∀ j, j < 8 → catU (byW r1) 4 (byW r2) j = byL x j) := Lib.hid fun j hj => by have := BC.out j hj; rwa [e1, e2, Int.toNat_natCast, Int.toNat_natCast] at this
      have X1 := Lib.hid x1
      clear x1 BC
      go_wp2_with fail
      refine (AN.out r1 base w1 Z1.out).mono ?_
      rintro e w2 ⟨v2, rfl, o2, b2⟩
      have O2 := Lib.hid o2
      have B2 := Lib.hid (B0.out.trans b2)
      have Z2 : Hid (base ≤ w2.heap.size) := Lib.hid (Nat.le_trans Z1.out b2.size)
      clear o2 b2
      go_wp2_with fail
      refine (AO.out v2 4 (byW r1) base r2 w2 (by omega) Z2.out O2.out).mono ?_
      rintro e w3 ⟨v3, rfl, o3, b3⟩
      have O3 := Lib.hid (o3.congr BD.out)
      have B3 := Lib.hid (B2.out.trans b3)
      clear o3 b3
      go_wp2
      go_ret
      exact ⟨_, rfl, by rw [HX.out]; exact O3.out, B3.out⟩
/-- the key of a mask -/
def keyM (f : Nat → Int) : Nat → Int := catU (byL (kF 14695981039346656037 1099511628211 f 16)) 8 (byL (kF 7809847782465536322 6364136223846793005 f 16))
end Go.Proofs.Ytkijgadkgfapgaa
