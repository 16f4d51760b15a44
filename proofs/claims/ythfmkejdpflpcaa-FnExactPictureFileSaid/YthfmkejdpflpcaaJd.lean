/-
  CONTRACTS: the program's count of a picture's cells.
-/
import Derived.Test.YthfmkejdpflpcaaJa
import Derived.Test.YthfmkejdpflpcaaCc
namespace Go.Proofs.Ythfmkejdpflpcaa
open Go.ChangeShapes Go.WideShapes Go.ChangeAt Go.RowKit Go.Maps Go.WideMaps
def cntF (f : Nat → Int) : Nat → Nat
  | 0 => 0
  | k + 1 => cntF f k + (cellL (mkF f k)).length
theorem cntF_le (f : Nat → Int) : ∀ k, cntF f k ≤ 256 * k
  | 0 => Nat.le_refl _
  | k + 1 => by
    have h1 := cntF_le f k
    have h2 := cellK_len (mkF f k) 256
    show cntF f k + (cellK (mkF f k) 256).length ≤ _
    omega
def cpC (f : Nat → Int) (n : Nat) : Int := if validP f n = true then 0 else 1
def cpN (f : Nat → Int) (n : Nat) : Int := if validP f n = true then (cntF f n : Int) else 0
theorem validP_le {f : Nat → Int} {n : Nat} (h : validP f n = true) : n ≤ 64 := by
  unfold validP at h
  simp only [Bool.and_eq_true, decide_eq_true_eq] at h
  exact h.1
set_option maxRecDepth 20000 in
set_option maxHeartbeats 8000000 in
theorem icount_any (a : Option Addr) (n cap : Nat) (f : Nat → Int) (w : World) (hn : n ≤ 64) (h : BlR w.heap.size w a n f) (hf : BlF n f) :
    Calls Try.prog 65 #[.slice a n cap] w fun e w' => e = .returned (.int .i64 (cntF f n : Int)) ∧ Below w.heap.size w w' := by
  have HR := Lib.hid h
  have HBF := Lib.hid hf
  have nI : (n : Int) ≤ 64 := by omega
  have HN := Lib.hid hn
  have CC : Hid (∀ m, MB m → ∀ W, Calls Try.prog 109 #[.agg (M16 m)] W (CountCellsPost m W)) := Lib.hid fun m hm W => icountCells_any m hm W
  clear h hf hn
  go_enter Try.func65, Try.ntmps65
  go_wp2
  go_loopw [3, 8] (fun vc vi wr => ∃ k : Nat, k ≤ n ∧ vc = .int .i64 (cntF f k : Int) ∧ vi = .int .i64 (k : Int) ∧ Hid (Below w.heap.size w wr)) (fun _ vi _ => n - (intOf vi).toNat)
  case atStart => exact ⟨0, by omega, rfl, rfl, Lib.hid (Below.refl _ _)⟩
  case round =>
    obtain ⟨k, hk, rfl, rfl, hb⟩ := hrel
    by_cases hlt : k < n
    · have tk : (k : Int) < (n : Int) := by omega
      obtain ⟨g, off, rfl, hg, hc⟩ : ∃ g off, a = some ⟨g, off, none⟩ ∧ g < w.heap.size ∧ ∀ j, j < 18 * n → w.cell? ⟨g, off + j, none⟩ = some (bcell f j) := by
        rcases HR.out with h | h
        · omega
        · exact h
      have HCB : Hid (∀ j v, (blk f k)[j]? = some v → wr.cell? ⟨g, off + k * 18 + j, none⟩ = some v) := Lib.hid fun j v e => by
        have hj : j < 18 := by
          have := (Array.getElem?_eq_some_iff.1 e).1
          rwa [blk_size] at this
        rw [hb.out.cell (p := ⟨g, off + k * 18 + j, none⟩) hg, Nat.add_assoc, hc (k * 18 + j) (by omega), ← blk_get f k j hj]
        exact e
      have HK := Lib.hid hlt
      have A18 : Hid ((blk f k).size = 18) := Lib.hid (blk_size f k)
      have AO : Hid ((blk f k).all (·.oneCell') = true) := Lib.hid (bl_one _ _ _)
      have AM : Hid (∀ j v, (M16 (mkF f k))[j]? = some v → (blk f k)[2 + j]? = some v) := Lib.hid fun j v e => bl_mask _ _ (mkF f k) j v e
      have M16S : Hid ((M16 (mkF f k)).size = 16) := Lib.hid (arr_size _ _ _)
      have ASZ : Hid ((blk f k).size = (#[Value.int .i32 0, Value.int .i32 0, Value.int .u16 0, Value.int .u16 0, Value.int .u16 0, Value.int .u16 0, Value.int .u16 0, Value.int .u16 0, Value.int .u16 0, Value.int .u16 0, Value.int .u16 0, Value.int .u16 0, Value.int .u16 0, Value.int .u16 0, Value.int .u16 0, Value.int .u16 0, Value.int .u16 0, Value.int .u16 0] : Array Value).size) := Lib.hid (A18.out.trans rfl)
      have SE : Hid (cntF f (k + 1) = cntF f k + (cellL (mkF f k)).length) := Lib.hid rfl
      have CL1 := cntF_le f k
      have CL2 : (cellL (mkF f k)).length ≤ 256 := cellK_len (mkF f k) 256
      have CK : Hid (∀ W, Calls Try.prog 109 #[.agg (M16 (mkF f k))] W fun e w' => e = .returned (.int .i64 ((cellL (mkF f k)).length : Int)) ∧ Below W.heap.size W w') := Lib.hid fun W => CC.out (mkF f k) (blf_mk HBF.out hlt) W
      obtain ⟨A, hA⟩ : ∃ A, blk f k = A := ⟨_, rfl⟩
      rw [hA] at HCB A18 AO AM ASZ
      obtain ⟨z, hz⟩ : ∃ z, (cellL (mkF f k)).length = z := ⟨_, rfl⟩
      rw [hz] at CL2 CK SE
      obtain ⟨m, hm⟩ : ∃ m, mkF f k = m := ⟨_, rfl⟩
      rw [hm] at AM M16S CK
      obtain ⟨c, hcn⟩ : ∃ c, cntF f k = c := ⟨_, rfl⟩
      rw [hcn] at CL1 SE ⊢
      have c1 : (c : Int) ≤ 16384 := by omega
      have z1 : (z : Int) ≤ 256 := by omega
      clear hc hg hA hz hm hcn hlt hk CL1 CL2 CC
      obtain ⟨w2, hw2⟩ : ∃ x, wr.alloc (.cells #[Value.int .i32 0, Value.int .i32 0, Value.int .u16 0, Value.int .u16 0, Value.int .u16 0, Value.int .u16 0, Value.int .u16 0, Value.int .u16 0, Value.int .u16 0, Value.int .u16 0, Value.int .u16 0, Value.int .u16 0, Value.int .u16 0, Value.int .u16 0, Value.int .u16 0, Value.int .u16 0, Value.int .u16 0, Value.int .u16 0] 73) = x := ⟨_, rfl⟩
      have T2 : Hid (w2.heap[wr.heap.size]? = some (.cells #[Value.int .i32 0, Value.int .i32 0, Value.int .u16 0, Value.int .u16 0, Value.int .u16 0, Value.int .u16 0, Value.int .u16 0, Value.int .u16 0, Value.int .u16 0, Value.int .u16 0, Value.int .u16 0, Value.int .u16 0, Value.int .u16 0, Value.int .u16 0, Value.int .u16 0, Value.int .u16 0, Value.int .u16 0, Value.int .u16 0] 73 (0, 0))) := Lib.hid (by rw [← hw2]; exact World.alloc_heap_new wr _)
      obtain ⟨w3, hw3⟩ : ∃ x, w2.setRow wr.heap.size A = x := ⟨_, rfl⟩
      have b3 : Below wr.heap.size wr w3 := by rw [← hw3, ← hw2]; exact below_setRow ((Below.refl _ _).alloc (Nat.le_refl _) _) (Nat.le_refl _) _
      have R3 : Hid (w3.heap[wr.heap.size]? = some (.cells A 73 (0, 0))) := Lib.hid (by rw [← hw3]; exact setRow_heap _ _ _ _ _ _ T2.out)
      have B3 := Lib.hid (hb.out.trans (b3.mono hb.out.size))
      have HCM : Hid (∀ j v, (M16 m)[j]? = some v → w3.cell? ⟨wr.heap.size, 2 + j, none⟩ = some v) := Lib.hid fun j v e => (Lib.cell_of_heap R3.out _).trans (AM.out j v e)
      clear b3
      go_wp2_with (first | (refine wpList_load_part rfl 73 _ rfl g (off + k * 18) rfl A _ HCB.out Try.underlying73 rfl (ib_info _ A18.out) ?_) | (refine wpList_store_row rfl 73 _ _ rfl wr.heap.size A rfl rfl 73 _ T2.out (ib_info _ A18.out) ASZ.out.symm AO.out ?_; rw [hw3]) | (refine wpList_load_part rfl 71 _ rfl wr.heap.size 2 rfl (M16 m) _ HCM.out Try.underlying71 rfl (mask_info _ M16S.out) ?_))
      refine (CK.out _).mono ?_
      rintro e w4 ⟨rfl, b⟩
      have B4 := Lib.hid (B3.out.trans (b.mono B3.out.size))
      clear b
      go_wp2
      go_roundw
      case rel => exact ⟨k + 1, HK.out, by rw [SE.out]; go_num, by go_num, B4⟩
      case measure => have := HK.out; simp [intOf]; omega
    · obtain rfl : k = n := by omega
      clear hlt hk
      go_wp2
      exact bodyPost_ret (v := .int .i64 (cntF f k : Int)) (by simp [results, Try.results65, go_sem]) rfl ⟨rfl, hb.out⟩
set_option maxRecDepth 20000 in
set_option maxHeartbeats 8000000 in
theorem iCountPic_any (a : Option Addr) (n cap : Nat) (f : Nat → Int) (w : World) (hn : n ≤ 1048576) (h : BlR w.heap.size w a n f) (hf : BlF n f) :
    Calls Try.prog 37 #[.slice a n cap] w fun e w' => e = .returned (.tuple #[.int .i64 (cpN f n), .int .i64 (cpC f n)]) ∧ Below w.heap.size w w' := by
  cases hv : validP f n with
  | false =>
    have NO := Lib.hid (readP_no a n cap f w hn h hf hv)
    have E1 : cpN f n = 0 := by unfold cpN; rw [hv]; exact if_neg (by decide)
    have E2 : cpC f n = 1 := by unfold cpC; rw [hv]; exact if_neg (by decide)
    rw [E1, E2]
    clear hv E1 E2 h hf hn
    go_enter Try.func37, Try.ntmps37
    go_wp2_with fail
    refine NO.out.mono ?_
    rintro e w1 ⟨rfl, b⟩
    have B1 := Lib.hid b
    clear b NO
    obtain ⟨w2, hw2⟩ : ∃ x, w1.alloc (.cells #[.slice none 0 0, .map none] 82) = x := ⟨_, rfl⟩
    have R2 : Hid (w2.heap[w1.heap.size]? = some (.cells #[.slice none 0 0, .map none] 82 (0, 0))) := Lib.hid (by rw [← hw2]; exact World.alloc_heap_new w1 _)
    have SR : Hid (w2.setRow w1.heap.size #[.slice none 0 0, .map none] = w2) := Lib.hid (setRow_self _ _ _ _ _ R2.out)
    have B2 : Hid (Below w.heap.size w w2) := Lib.hid (by rw [← hw2]; exact B1.out.alloc B1.out.size _)
    go_wp2_with (refine wpList_store_row rfl 82 _ _ rfl w1.heap.size #[.slice none 0 0, .map none] rfl rfl 82 _ R2.out (pic_info _ rfl) rfl (row2_one _ _ _ _) ?_; rw [SR.out])
    exact bodyPost_ret (v := .tuple #[.int .i64 0, .int .i64 1]) (by simp [results, Try.results37, go_sem]) rfl ⟨rfl, B2.out⟩
  | true =>
    have YES := Lib.hid (readP_yes a n cap f w hn h hf hv)
    have E1 : cpN f n = (cntF f n : Int) := by unfold cpN; rw [hv]; rfl
    have E2 : cpC f n = 0 := by unfold cpC; rw [hv]; rfl
    have CN : Hid (∀ W, Below w.heap.size w W → Calls Try.prog 65 #[.slice a n cap] W fun e w' => e = .returned (.int .i64 (cntF f n : Int)) ∧ Below W.heap.size W w') := Lib.hid fun W hW => icount_any a n cap f W (validP_le hv) (h.below hW hW.size) hf
    rw [E1, E2]
    clear hv E1 E2 h hf hn
    generalize cntF f n = c at CN ⊢
    go_enter Try.func37, Try.ntmps37
    go_wp2_with fail
    refine YES.out.mono ?_
    rintro e w1 ⟨b0, rfl, hm, b⟩
    have B1 := Lib.hid b
    clear b YES hm
    obtain ⟨w2, hw2⟩ : ∃ x, w1.alloc (.cells #[.slice none 0 0, .map none] 82) = x := ⟨_, rfl⟩
    have T2 : Hid (w2.heap[w1.heap.size]? = some (.cells #[.slice none 0 0, .map none] 82 (0, 0))) := Lib.hid (by rw [← hw2]; exact World.alloc_heap_new w1 _)
    obtain ⟨w3, hw3⟩ : ∃ x, w2.setRow w1.heap.size #[.slice a n cap, .map (some b0)] = x := ⟨_, rfl⟩
    have R3 : Hid (w3.heap[w1.heap.size]? = some (.cells #[.slice a n cap, .map (some b0)] 82 (0, 0))) := Lib.hid (by rw [← hw3]; exact setRow_heap _ _ _ _ _ _ T2.out)
    have b3 : Below w1.heap.size w1 w3 := by rw [← hw3, ← hw2]; exact below_setRow ((Below.refl _ _).alloc (Nat.le_refl _) _) (Nat.le_refl _) _
    have B3 := Lib.hid (B1.out.trans (b3.mono B1.out.size))
    have c0 : w3.cell? ⟨w1.heap.size, 0, none⟩ = some (.slice a n cap) := Lib.cell_of_heap R3.out 0
    clear b3
    go_wp2_with (refine wpList_store_row rfl 82 _ _ rfl w1.heap.size #[.slice a n cap, .map (some b0)] rfl rfl 82 _ T2.out (pic_info _ rfl) rfl (row2_one _ _ _ _) ?_; rw [hw3])
    refine (CN.out _ B3.out).mono ?_
    rintro e w4 ⟨rfl, b⟩
    have B4 := Lib.hid (B3.out.trans (b.mono B3.out.size))
    clear b
    go_wp2
    exact bodyPost_ret (v := .tuple #[.int .i64 (c : Int), .int .i64 0]) (by simp [results, Try.results37, go_sem]) rfl ⟨rfl, B4.out⟩
end Go.Proofs.Ythfmkejdpflpcaa
