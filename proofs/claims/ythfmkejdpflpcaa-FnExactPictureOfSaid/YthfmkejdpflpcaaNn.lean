/-
  CONTRACTS: sheetOf, PictureOf by the program (given the sort of blocks).
-/
import Derived.Test.YthfmkejdpflpcaaNl
namespace Go.Proofs.Ythfmkejdpflpcaa
open Go.ChangeShapes Go.WideShapes Go.ChangeAt Go.RowKit Go.Maps Go.WideMaps
set_option maxRecDepth 20000 in
set_option maxHeartbeats 8000000 in
theorem isheetOf_any (a : Option Addr) (n cap : Nat) (f : Nat → Int) (w : World) (hn : n ≤ 1048576) (h : PtR w.heap.size w a n f) (hp : P32 n f) :
    Calls Try.prog 57 #[.slice a n cap] w fun e w' => e = .returned (.map (some w.heap.size)) ∧ MapM w.heap.size n (pcF f n) w' ∧ Below w.heap.size w w' := by
  have nI : (n : Int) ≤ 1048576 := by omega
  have HR := Lib.hid h
  have HP := Lib.hid hp
  have HN := Lib.hid hn
  obtain ⟨w1, hw1⟩ : ∃ z, w.alloc (.map #[] 0) = z := ⟨_, rfl⟩
  have M1 : Hid (MapM w.heap.size 0 (pcF f 0) w1) := Lib.hid (by rw [← hw1]; exact MapM.made w)
  have B1 : Hid (Below w.heap.size w w1) := Lib.hid (by rw [← hw1]; exact (Below.refl _ _).alloc (Nat.le_refl _) _)
  clear h hp hn
  have hmm := @run_makeMap Try.prog
  go_enter Try.func57, Try.ntmps57
  go_wp2
  clear hw1
  go_loopw [9] (fun vi wr => ∃ i : Nat, i ≤ n ∧ vi = .int .i64 (i : Int) ∧ Hid (MapM w.heap.size i (pcF f i) wr) ∧ Hid (Below w.heap.size w wr)) (fun vi _ => n - (intOf vi).toNat)
  case atStart => exact ⟨0, Nat.zero_le _, rfl, M1, B1⟩
  case round =>
    obtain ⟨i, hi, rfl, M2, B2⟩ := hrel
    clear M1 B1
    by_cases hlt : i < n
    · have ti : (i : Int) < (n : Int) := by omega
      have HI := Lib.hid hlt
      obtain ⟨g, off, rfl, hg, hc⟩ : ∃ g off, a = some ⟨g, off, none⟩ ∧ g < w.heap.size ∧ ∀ j, j < 2 * n → w.cell? ⟨g, off + j, none⟩ = some (.int .i32 (f j)) := by
        rcases HR.out with h | h
        · omega
        · exact h
      have d0 : wr.cell? ⟨g, off + i * 2, none⟩ = some (.int .i32 (f (2 * i))) := (B2.out.cell (p := ⟨g, off + i * 2, none⟩) hg).trans (by rw [Nat.mul_comm]; exact hc (2 * i) (by omega))
      have d1 : wr.cell? ⟨g, off + i * 2 + 1, none⟩ = some (.int .i32 (f (2 * i + 1))) := (B2.out.cell (p := ⟨g, off + i * 2 + 1, none⟩) hg).trans (by rw [Nat.mul_comm, Nat.add_assoc]; exact hc (2 * i + 1) (by omega))
      have SE : Hid (∀ W, MapM w.heap.size i (pcF f i) W → Calls Try.prog 96 #[.map (some w.heap.size), .agg #[.int .i32 (f (2 * i)), .int .i32 (f (2 * i + 1))], .bool true] W fun e w' => e = .returned (.tuple #[]) ∧ MapM w.heap.size (i + 1) (pcF f (i + 1)) w' ∧ W.grownBy w' (some w.heap.size)) := Lib.hid fun W hW => by
        rw [pcF_set]
        exact iSet_any w.heap.size i (pcF f i) (f (2 * i)) (f (2 * i + 1)) true W hW (pcF_MB f i) (by have := HN.out; have := HI.out; unfold maxLen; omega) (HP.out _ (by omega)) (HP.out _ (by omega))
      obtain ⟨x, hx⟩ : ∃ z, f (2 * i) = z := ⟨_, rfl⟩
      obtain ⟨y, hy⟩ : ∃ z, f (2 * i + 1) = z := ⟨_, rfl⟩
      rw [hx] at d0 SE
      rw [hy] at d1 SE
      clear hx hy hc hg hlt hi
      obtain ⟨w5, hw5⟩ : ∃ z, wr.alloc (.cells #[.int .i32 x, .int .i32 y] 45) = z := ⟨_, rfl⟩
      have T5 := World.alloc_heap_new wr (.cells #[.int .i32 x, .int .i32 y] 45)
      rw [hw5] at T5
      have c0 : w5.cell? ⟨wr.heap.size, 0, none⟩ = some (.int .i32 x) := Lib.cell_of_heap T5 0
      have c1 : w5.cell? ⟨wr.heap.size, 1, none⟩ = some (.int .i32 y) := Lib.cell_of_heap T5 1
      have M5 : Hid (MapM w.heap.size i (pcF f i) w5) := Lib.hid (by rw [← hw5]; exact M2.out.alloc _)
      have B5 : Hid (Below w.heap.size w w5) := Lib.hid (by rw [← hw5]; exact B2.out.alloc B2.out.size _)
      clear T5
      go_wp2_with fail
      refine (SE.out _ M5.out).mono ?_
      rintro e w6 ⟨rfl, hm, hg⟩
      have M6 := Lib.hid hm
      have B6 : Hid (Below w.heap.size w w6) := Lib.hid (B5.out.trans ⟨hg.os, hg.tape, hg.output, hg.size, fun k hk => hg.block k (Nat.lt_of_lt_of_le hk B5.out.size) (by simp; omega)⟩)
      clear hm hg
      go_wp2
      go_roundw
      case rel => exact ⟨i + 1, HI.out, by go_num, M6, B6⟩
      case measure => have := HI.out; simp [intOf]; omega
    · have ti : ¬ (i : Int) < (n : Int) := by omega
      have MF2 : Hid (MapM w.heap.size n (pcF f n) wr) := Lib.hid (by have : i = n := by omega
                                                                      rw [← this]; exact M2.out)
      clear hlt hi
      go_wp2
      exact bodyPost_ret (v := .map (some w.heap.size)) (by simp [results, Try.results57, go_sem]) rfl ⟨rfl, MF2.out, B2.out⟩
set_option maxRecDepth 20000 in
set_option maxHeartbeats 8000000 in
theorem iPictureOf_any (SB : SortsB) (a : Option Addr) (n cap : Nat) (f : Nat → Int) (K0 : List (Int × Int)) (w : World) (hn : n ≤ 1048576) (h : PtR w.heap.size w a n f) (hp : P32 n f) (hK : n ≤ 1024 → okP f n = true → PicK (pcF f n) K0) :
    Calls Try.prog 17 #[.slice a n cap] w (PoPost f n K0 w) := by
  unfold PoPost
  have nI : (n : Int) ≤ 1048576 := by omega
  by_cases h1 : 1024 < n
  · have E1 : poC f n K0 = 3 := if_pos h1
    have E2 : poK f n K0 = [] := if_pos h1
    rw [E1, E2]
    have t : (1024 : Int) < (n : Int) := by omega
    clear h1 E1 E2 h hn hK hp SB
    go_enter Try.func17, Try.ntmps17
    go_wp2
    exact bodyPost_ret (v := .tuple #[.slice none 0 0, .int .i64 3]) (by simp [results, Try.results17, go_sem]) rfl ⟨_, rfl, World.ownsRow_nil _ _ _ _, Below.refl _ _⟩
  · have hn2 : n ≤ 1024 := by omega
    have t : (n : Int) ≤ 1024 := by omega
    have HR := Lib.hid h
    have E1 : Hid (okP f n = false → poC f n K0 = 2 ∧ poK f n K0 = []) := Lib.hid fun hk => by unfold poC poK; rw [if_neg h1, if_neg h1, hk]; exact ⟨rfl, rfl⟩
    have E2 : Hid (okP f n = true → poC f n K0 = ioC K0 ∧ poK f n K0 = ioK K0) := Lib.hid fun hk => by unfold poC poK; rw [if_neg h1, if_neg h1, hk]; exact ⟨rfl, rfl⟩
    have LC := Lib.hid isPCell_any
    have HK := Lib.hid (hK hn2)
    have HN := Lib.hid hn2
    have HPP := Lib.hid hp
    have SH : Hid (∀ W, Below w.heap.size w W → Calls Try.prog 57 #[.slice a n cap] W fun e w' => e = .returned (.map (some W.heap.size)) ∧ MapM W.heap.size n (pcF f n) w' ∧ Below W.heap.size W w') := Lib.hid fun W hW => isheetOf_any a n cap f W hn (h.below hW hW.size) hp
    have IO : Hid (∀ (b : Nat) (W : World), MapM b n (pcF f n) W → PicK (pcF f n) K0 → Calls Try.prog 58 #[.map (some b)] W fun e w' => ∃ v, e = .returned (.tuple #[v, .int .i64 (ioC K0)]) ∧ OB W.heap.size v (pcF f n) (ioK K0) w' ∧ Below W.heap.size W w') := Lib.hid fun b W hm hk => iInOrder_any SB b n (pcF f n) K0 hk W (by omega) hm
    clear h1 h hn hK hn2 hp SB
    go_enter Try.func17, Try.ntmps17
    go_wp2
    go_loopw [11] (fun vi wr => ∃ i : Nat, i ≤ n ∧ vi = .int .i64 (i : Int) ∧ Hid (Below w.heap.size w wr) ∧ Hid (∀ j, j < i → (colB (f (2 * j)) && colB (f (2 * j + 1))) = true)) (fun vi _ => n - (intOf vi).toNat)
    case atStart => exact ⟨0, Nat.zero_le _, rfl, Lib.hid (Below.refl _ _), Lib.hid fun j h => absurd h (by omega)⟩
    case round =>
      obtain ⟨i, hi, rfl, B1, YES⟩ := hrel
      by_cases hlt : i < n
      · have ti : (i : Int) < (n : Int) := by omega
        have HI := Lib.hid hlt
        obtain ⟨g, off, rfl, hg, hc⟩ : ∃ g off, a = some ⟨g, off, none⟩ ∧ g < w.heap.size ∧ ∀ j, j < 2 * n → w.cell? ⟨g, off + j, none⟩ = some (.int .i32 (f j)) := by
          rcases HR.out with h | h
          · omega
          · exact h
        have d0 : wr.cell? ⟨g, off + i * 2, none⟩ = some (.int .i32 (f (2 * i))) := (B1.out.cell (p := ⟨g, off + i * 2, none⟩) hg).trans (by rw [Nat.mul_comm]; exact hc (2 * i) (by omega))
        have d1 : wr.cell? ⟨g, off + i * 2 + 1, none⟩ = some (.int .i32 (f (2 * i + 1))) := (B1.out.cell (p := ⟨g, off + i * 2 + 1, none⟩) hg).trans (by rw [Nat.mul_comm, Nat.add_assoc]; exact hc (2 * i + 1) (by omega))
        have CE := fun W => LC.out (f (2 * i)) (f (2 * i + 1)) W
        obtain ⟨x0, x1⟩ := HPP.out (2 * i) (by omega)
        obtain ⟨y0, y1⟩ := HPP.out (2 * i + 1) (by omega)
        have NX : Hid ((colB (f (2 * i)) && colB (f (2 * i + 1))) = true → ∀ j, j < i + 1 → (colB (f (2 * j)) && colB (f (2 * j + 1))) = true) := Lib.hid fun h j hj => by
          rcases Nat.lt_or_ge j i with h2 | h2
          · exact YES.out j h2
          · obtain rfl : j = i := by omega
            exact h
        have NO : Hid ((colB (f (2 * i)) && colB (f (2 * i + 1))) = false → okP f n = false) := Lib.hid fun h => okP_no HI.out h
        obtain ⟨r, hr⟩ : ∃ r, (colB (f (2 * i)) && colB (f (2 * i + 1))) = r := ⟨_, rfl⟩
        rw [hr] at CE NX NO
        obtain ⟨x, hx⟩ : ∃ z, f (2 * i) = z := ⟨_, rfl⟩
        obtain ⟨y, hy⟩ : ∃ z, f (2 * i + 1) = z := ⟨_, rfl⟩
        rw [hx] at d0 CE x0 x1
        rw [hy] at d1 CE y0 y1
        have CEH := Lib.hid CE
        obtain ⟨w5, hw5⟩ : ∃ z, wr.alloc (.cells #[.int .i32 x, .int .i32 y] 45) = z := ⟨_, rfl⟩
        have T5 := World.alloc_heap_new wr (.cells #[.int .i32 x, .int .i32 y] 45)
        rw [hw5] at T5
        have c0 : w5.cell? ⟨wr.heap.size, 0, none⟩ = some (.int .i32 x) := Lib.cell_of_heap T5 0
        have c1 : w5.cell? ⟨wr.heap.size, 1, none⟩ = some (.int .i32 y) := Lib.cell_of_heap T5 1
        have B5 : Hid (Below w.heap.size w w5) := Lib.hid (by rw [← hw5]; exact B1.out.alloc B1.out.size _)
        clear hr hx hy hc hg hlt hi CE T5
        cases r with
        | true =>
          have NX2 := Lib.hid (NX.out rfl)
          clear NX NO
          go_wp2_with ((with_reducible refine (CEH.out _).mono ?_); rintro e w' ⟨rfl, rfl⟩)
          go_roundw
          case rel => exact ⟨i + 1, HI.out, by go_num, B5, NX2⟩
          case measure => have := HI.out; simp [intOf]; omega
        | false =>
          obtain ⟨e1, e2⟩ := E1.out (NO.out rfl)
          have EE1 := Lib.hid e1
          have EE2 := Lib.hid e2
          clear e1 e2
          go_wp2_with ((with_reducible refine (CEH.out _).mono ?_); rintro e w' ⟨rfl, rfl⟩)
          exact bodyPost_ret (v := .tuple #[.slice none 0 0, .int .i64 2]) (by simp [results, Try.results17, go_sem]) rfl ⟨_, by rw [EE1.out], by rw [EE2.out]; exact World.ownsRow_nil _ _ _ _, B5.out⟩
      · have ti : ¬ (i : Int) < (n : Int) := by omega
        have OKA : okP f n = true := okP_mk fun j hj => YES.out j (by omega)
        obtain ⟨e1, e2⟩ := E2.out OKA
        have EE1 := Lib.hid e1
        have EE2 := Lib.hid e2
        have PK0 := Lib.hid (HK.out OKA)
        clear e1 e2 OKA hlt hi
        go_wp2_with fail
        refine (SH.out wr B1.out).mono ?_
        rintro e w2 ⟨rfl, hm, b⟩
        have B2 := Lib.hid (B1.out.trans (b.mono B1.out.size))
        have M2 := Lib.hid hm
        clear b hm
        go_wp2_with fail
        refine (IO.out _ w2 M2.out PK0.out).mono ?_
        rintro e w3 ⟨v3, rfl, ho, b⟩
        have B3 := Lib.hid (B2.out.trans (b.mono B2.out.size))
        have O3 := Lib.hid (ho.mono B2.out.size)
        clear b ho
        go_wp2
        exact bodyPost_ret (v := .tuple #[v3, .int .i64 (ioC K0)]) (by simp [results, Try.results17, go_sem]) rfl ⟨_, by rw [EE1.out], by rw [EE2.out]; exact O3.out, B3.out⟩
end Go.Proofs.Ythfmkejdpflpcaa
