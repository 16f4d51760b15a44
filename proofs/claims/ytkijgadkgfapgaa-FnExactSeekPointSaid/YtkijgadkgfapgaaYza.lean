/-
  CONTRACTS: the count of a file of points, by its head alone.
-/
import Derived.Test.YtkijgadkgfapgaaYz
namespace Go.Proofs.Ytkijgadkgfapgaa
open Go.ChangeShapes Go.WideShapes Go.ChangeAt Go.RowKit
def ckC (f : Nat → Int) (n : Nat) : Int := if 700 < n then 3 else if n = 0 then 5 else if okAt f 0 0 = false then 8 else if sgnOk (frK f 0) = false then 5 else if upK f = 1 ∧ upL f = 8 * upN f then 0 else 5
def ckN (f : Nat → Int) (n : Nat) : Int := if ckC f n = 0 then (upN f : Int) else 0
def ckV (f : Nat → Int) (n : Nat) : Value := .tuple #[.int .i64 (ckN f n), .int .i64 (ckC f n)]
theorem ckV_bad {f : Nat → Int} {n : Nat} {c : Int} (h : ckC f n = c) (h0 : c ≠ 0) : ckV f n = .tuple #[.int .i64 0, .int .i64 c] := by unfold ckV ckN; rw [h, if_neg h0]
theorem ckV_ok {f : Nat → Int} {n : Nat} (h : ckC f n = 0) : ckV f n = .tuple #[.int .i64 (upN f : Int), .int .i64 0] := by unfold ckV ckN; rw [h, if_pos rfl]
theorem by_frk0 {f : Nat → Int} {n : Nat} (hn : 1 ≤ n) (hf : ByF (16 * n) f) : ByF 16 (frK f 0) := fun j hj => hf _ (by omega)
set_option maxRecDepth 20000 in
set_option maxHeartbeats 8000000 in
theorem count_any (n : Nat) (hn : n ≤ 1048576) (f : Nat → Int) (hf : ByF (16 * n) f) (a : Option Addr) (cap : Nat) (w : World) (h : FrR w.heap.size w a n f) (hk : SlOk a n cap) :
    Calls Try.prog 72 #[.slice a n cap] w fun e w' => e = .returned (ckV f n) ∧ Below w.heap.size w w' := by
  by_cases hbig : 700 < n
  · have Q := Lib.hid (ckV_bad (show ckC f n = 3 by unfold ckC; rw [if_pos hbig]) (by decide))
    have nI : (700 : Int) < (n : Int) := by omega
    clear h hf hbig hn hk
    go_enter Try.func72, Try.ntmps72
    go_wp2
    go_ret2
    exact ⟨by rw [Q.out]; rfl, Below.refl _ _⟩
  have nI : (n : Int) ≤ 700 := by omega
  by_cases h0 : n = 0
  · subst h0
    have Q := Lib.hid (ckV_bad (show ckC f 0 = 5 by unfold ckC; rw [if_neg hbig, if_pos rfl]) (by decide))
    have ON := Lib.hid (openHead_none a cap)
    clear h hk hf
    go_enter Try.func72, Try.ntmps72
    go_wp2_with fail
    refine (ON.out _).mono ?_
    rintro e w3 ⟨rfl, b3⟩
    have B3 := Lib.hid b3
    clear b3
    obtain ⟨w4, hw4⟩ : ∃ x, w3.alloc (.cells #[Value.int .i64 0, Value.int .i64 0, Value.int .i64 0] 100) = x := ⟨_, rfl⟩
    have T4 : Hid (w4.heap[w3.heap.size]? = some (.cells #[Value.int .i64 0, Value.int .i64 0, Value.int .i64 0] 100 (0, 0))) := Lib.hid (by rw [← hw4]; exact World.alloc_heap_new w3 _)
    obtain ⟨w5, hw5⟩ : ∃ x, w4.setRow w3.heap.size #[Value.int .i64 0, Value.int .i64 0, Value.int .i64 0] = x := ⟨_, rfl⟩
    have b : Below w3.heap.size w3 w5 := by rw [← hw5, ← hw4]; exact below_setRow ((Below.refl _ _).alloc (Nat.le_refl _) _) (Nat.le_refl _) _
    have S5 : Hid (w5.heap[w3.heap.size]? = some (.cells #[Value.int .i64 0, Value.int .i64 0, Value.int .i64 0] 100 (0, 0))) := Lib.hid (by rw [← hw5]; exact setRow_heap _ _ _ _ _ _ T4.out)
    have B5 := Lib.hid (B3.out.trans (b.mono B3.out.size))
    clear b
    go_wp2_with (refine wpList_store_row rfl 100 _ _ rfl w3.heap.size #[Value.int .i64 0, Value.int .i64 0, Value.int .i64 0] rfl rfl 100 _ T4.out (hd_info _ rfl) rfl (row3_one _ _ _) ?_; rw [hw5])
    go_wp2
    go_ret2
    exact ⟨by rw [Q.out]; rfl, B5.out⟩
  have hn1 : 1 ≤ n := by omega
  cases hok : okAt f 0 0 with
  | false =>
    have Q := Lib.hid (ckV_bad (show ckC f n = 8 by unfold ckC; rw [if_neg hbig, if_neg h0, if_pos hok]) (by decide))
    have ON := Lib.hid (openHead_bad a n cap f hn1 hk hf w h hok)
    clear h hk hf
    go_enter Try.func72, Try.ntmps72
    go_wp2_with fail
    refine (ON.out).mono ?_
    rintro e w3 ⟨rfl, b3⟩
    have B3 := Lib.hid b3
    clear b3
    obtain ⟨w4, hw4⟩ : ∃ x, w3.alloc (.cells #[Value.int .i64 0, Value.int .i64 0, Value.int .i64 0] 100) = x := ⟨_, rfl⟩
    have T4 : Hid (w4.heap[w3.heap.size]? = some (.cells #[Value.int .i64 0, Value.int .i64 0, Value.int .i64 0] 100 (0, 0))) := Lib.hid (by rw [← hw4]; exact World.alloc_heap_new w3 _)
    obtain ⟨w5, hw5⟩ : ∃ x, w4.setRow w3.heap.size #[Value.int .i64 0, Value.int .i64 0, Value.int .i64 0] = x := ⟨_, rfl⟩
    have b : Below w3.heap.size w3 w5 := by rw [← hw5, ← hw4]; exact below_setRow ((Below.refl _ _).alloc (Nat.le_refl _) _) (Nat.le_refl _) _
    have S5 : Hid (w5.heap[w3.heap.size]? = some (.cells #[Value.int .i64 0, Value.int .i64 0, Value.int .i64 0] 100 (0, 0))) := Lib.hid (by rw [← hw5]; exact setRow_heap _ _ _ _ _ _ T4.out)
    have B5 := Lib.hid (B3.out.trans (b.mono B3.out.size))
    clear b
    go_wp2_with (refine wpList_store_row rfl 100 _ _ rfl w3.heap.size #[Value.int .i64 0, Value.int .i64 0, Value.int .i64 0] rfl rfl 100 _ T4.out (hd_info _ rfl) rfl (row3_one _ _ _) ?_; rw [hw5])
    go_wp2
    go_ret2
    exact ⟨by rw [Q.out]; rfl, B5.out⟩
  | true =>
    cases hsg : sgnOk (frK f 0) with
    | false =>
      have Q := Lib.hid (ckV_bad (show ckC f n = 5 by unfold ckC; rw [if_neg hbig, if_neg h0, if_neg (by rw [hok]; decide), if_pos hsg]) (by decide))
      have ON := Lib.hid (openHead_no a n cap f hn1 hk hf w h hok hsg)
      clear h hk hf
      go_enter Try.func72, Try.ntmps72
      go_wp2_with fail
      refine (ON.out).mono ?_
      rintro e w3 ⟨rfl, b3⟩
      have B3 := Lib.hid b3
      clear b3
      obtain ⟨w4, hw4⟩ : ∃ x, w3.alloc (.cells #[Value.int .i64 0, Value.int .i64 0, Value.int .i64 0] 100) = x := ⟨_, rfl⟩
      have T4 : Hid (w4.heap[w3.heap.size]? = some (.cells #[Value.int .i64 0, Value.int .i64 0, Value.int .i64 0] 100 (0, 0))) := Lib.hid (by rw [← hw4]; exact World.alloc_heap_new w3 _)
      obtain ⟨w5, hw5⟩ : ∃ x, w4.setRow w3.heap.size #[Value.int .i64 0, Value.int .i64 0, Value.int .i64 0] = x := ⟨_, rfl⟩
      have b : Below w3.heap.size w3 w5 := by rw [← hw5, ← hw4]; exact below_setRow ((Below.refl _ _).alloc (Nat.le_refl _) _) (Nat.le_refl _) _
      have S5 : Hid (w5.heap[w3.heap.size]? = some (.cells #[Value.int .i64 0, Value.int .i64 0, Value.int .i64 0] 100 (0, 0))) := Lib.hid (by rw [← hw5]; exact setRow_heap _ _ _ _ _ _ T4.out)
      have B5 := Lib.hid (B3.out.trans (b.mono B3.out.size))
      clear b
      go_wp2_with (refine wpList_store_row rfl 100 _ _ rfl w3.heap.size #[Value.int .i64 0, Value.int .i64 0, Value.int .i64 0] rfl rfl 100 _ T4.out (hd_info _ rfl) rfl (row3_one _ _ _) ?_; rw [hw5])
      go_wp2
      go_ret2
      exact ⟨by rw [Q.out]; rfl, B5.out⟩
    | true =>
      have ON := Lib.hid (openHead_ok a n cap f hn1 hk hf w h hok hsg)
      have QC : Hid (ckC f n = if upK f = 1 ∧ upL f = 8 * upN f then 0 else 5) := Lib.hid (by unfold ckC; rw [if_neg hbig, if_neg h0, if_neg (by rw [hok]; decide), if_neg (by rw [hsg]; decide)])
      have N9 := upN_lt (by_frk0 hn1 hf)
      have L9 := upL_lt (by_frk0 hn1 hf)
      have e3 : hd3 f = #[.int .i64 (upK f), .int .i64 (upN f : Int), .int .i64 (upL f : Int)] := rfl
      rw [e3] at ON
      obtain ⟨R, hR⟩ : ∃ x, ckV f n = x := ⟨_, rfl⟩
      have QB : Hid (¬ (upK f = 1 ∧ upL f = 8 * upN f) → R = .tuple #[.int .i64 0, .int .i64 5]) := Lib.hid fun hh => by rw [← hR]; exact ckV_bad (by rw [QC.out, if_neg hh]) (by decide)
      have QO : Hid ((upK f = 1 ∧ upL f = 8 * upN f) → R = .tuple #[.int .i64 (upN f : Int), .int .i64 0]) := Lib.hid fun hh => by rw [← hR]; exact ckV_ok (by rw [QC.out, if_pos hh])
      rw [hR]
      generalize upK f = K3 at ON QB QO
      generalize upN f = N3 at ON QB QO N9
      generalize upL f = L3 at ON QB QO L9
      clear h hk hf hR QC e3 hok hsg h0 hbig hn
      have n9 : (N3 : Int) ≤ 4294967295 := by omega
      have n0 : (0 : Int) ≤ (N3 : Int) := by omega
      have ROWX : Hid ((#[Value.int .i64 K3, Value.int .i64 (N3 : Int), Value.int .i64 (L3 : Int)] : Array Value).all (·.oneCell') = true) := Lib.hid (row3_one _ _ _)
      go_enter Try.func72, Try.ntmps72
      go_wp2_with fail
      refine ON.out.mono ?_
      rintro e w3 ⟨rfl, b3⟩
      have B3 := Lib.hid b3
      clear b3
      obtain ⟨w4, hw4⟩ : ∃ x, w3.alloc (.cells #[Value.int .i64 0, Value.int .i64 0, Value.int .i64 0] 100) = x := ⟨_, rfl⟩
      have T4 : Hid (w4.heap[w3.heap.size]? = some (.cells #[Value.int .i64 0, Value.int .i64 0, Value.int .i64 0] 100 (0, 0))) := Lib.hid (by rw [← hw4]; exact World.alloc_heap_new w3 _)
      obtain ⟨w5, hw5⟩ : ∃ x, w4.setRow w3.heap.size #[Value.int .i64 K3, Value.int .i64 (N3 : Int), Value.int .i64 (L3 : Int)] = x := ⟨_, rfl⟩
      have b : Below w3.heap.size w3 w5 := by rw [← hw5, ← hw4]; exact below_setRow ((Below.refl _ _).alloc (Nat.le_refl _) _) (Nat.le_refl _) _
      have S5 : Hid (w5.heap[w3.heap.size]? = some (.cells #[Value.int .i64 K3, Value.int .i64 (N3 : Int), Value.int .i64 (L3 : Int)] 100 (0, 0))) := Lib.hid (by rw [← hw5]; exact setRow_heap _ _ _ _ _ _ T4.out)
      have B5 := Lib.hid (B3.out.trans (b.mono B3.out.size))
      clear b
      have c0 : w5.cell? ⟨w3.heap.size, 0, none⟩ = some (.int .i64 K3) := Lib.cell_of_heap S5.out 0
      have c1 : w5.cell? ⟨w3.heap.size, 1, none⟩ = some (.int .i64 (N3 : Int)) := Lib.cell_of_heap S5.out 1
      have c2 : w5.cell? ⟨w3.heap.size, 2, none⟩ = some (.int .i64 (L3 : Int)) := Lib.cell_of_heap S5.out 2
      by_cases hk1 : K3 = 1
      · have k1 : (K3 != 1) = false := by simpa using hk1
        by_cases hl : L3 = 8 * N3
        · have Q := Lib.hid (QO.out ⟨hk1, hl⟩)
          have l1 : ((L3 : Int) != 8 * (N3 : Int)) = false := by simp; omega
          clear hl QO QB hk1
          go_wp2_with (refine wpList_store_row rfl 100 _ _ rfl w3.heap.size #[Value.int .i64 K3, Value.int .i64 (N3 : Int), Value.int .i64 (L3 : Int)] rfl rfl 100 _ T4.out (hd_info _ rfl) rfl ROWX.out ?_; rw [hw5])
          go_wp2
          go_ret2
          exact ⟨by rw [Q.out]; rfl, B5.out⟩
        · have Q := Lib.hid (QB.out (fun hh => hl hh.2))
          have l1 : ((L3 : Int) != 8 * (N3 : Int)) = true := by simp; omega
          clear hl QO QB hk1
          go_wp2_with (refine wpList_store_row rfl 100 _ _ rfl w3.heap.size #[Value.int .i64 K3, Value.int .i64 (N3 : Int), Value.int .i64 (L3 : Int)] rfl rfl 100 _ T4.out (hd_info _ rfl) rfl ROWX.out ?_; rw [hw5])
          go_wp2
          go_ret2
          exact ⟨by rw [Q.out]; rfl, B5.out⟩
      · have k1 : (K3 != 1) = true := by simpa using hk1
        have Q := Lib.hid (QB.out (fun hh => hk1 hh.1))
        clear QO QB hk1
        go_wp2_with (refine wpList_store_row rfl 100 _ _ rfl w3.heap.size #[Value.int .i64 K3, Value.int .i64 (N3 : Int), Value.int .i64 (L3 : Int)] rfl rfl 100 _ T4.out (hd_info _ rfl) rfl ROWX.out ?_; rw [hw5])
        go_wp2
        go_ret2
        exact ⟨by rw [Q.out]; rfl, B5.out⟩
end Go.Proofs.Ytkijgadkgfapgaa
