/-
  CONTRACTS: the specification's BrokenFrames.
-/
import Derived.Test.YtkijgadkgfapgaaHc
import Derived.Test.YtkijgadkgfapgaaHa
import Derived.Test.YtkijgadkgfapgaaGf
namespace Go.Proofs.Ytkijgadkgfapgaa
open Go.ChangeShapes Go.WideShapes Go.ChangeAt Go.RowKit
/-- the places of the frames that are not sound -/
def bad (f : Nat → Int) (n : Nat) : List Nat := (List.range n).filter fun k => !okAt f 0 k
def bdN (f : Nat → Int) (n : Nat) : Nat := (bad f n).length
def bdF (f : Nat → Int) (n : Nat) : Nat → Int := fun j => (((bad f n)[j]?.getD 0 : Nat) : Int)
theorem bad_zero (f : Nat → Int) : bdN f 0 = 0 := rfl
theorem bad_succ (f : Nat → Int) (n : Nat) : bad f (n + 1) = bad f n ++ (if okAt f 0 n then [] else [n]) := by
  unfold bad
  rw [List.range_succ, List.filter_append]
  congr 1
  cases h : okAt f 0 n <;> simp [h]
theorem bdN_ok {f : Nat → Int} {n : Nat} (h : okAt f 0 n = true) : bdN f (n + 1) = bdN f n := by unfold bdN; rw [bad_succ, if_pos h, List.append_nil]
theorem bdN_no {f : Nat → Int} {n : Nat} (h : okAt f 0 n = false) : bdN f (n + 1) = bdN f n + 1 := by unfold bdN; rw [bad_succ, h]; simp
theorem bdN_le (f : Nat → Int) : ∀ n, bdN f n ≤ n
  | 0 => Nat.le_refl _
  | n + 1 => by
    have := bdN_le f n
    cases h : okAt f 0 n with
    | true => rw [bdN_ok h]; omega
    | false => rw [bdN_no h]; omega
theorem bdN_run {f : Nat → Int} {m : Nat} : ∀ k, (∀ j, j < k → okAt f 0 (m + j) = true) → bdN f (m + k) = bdN f m
  | 0, _ => rfl
  | k + 1, h => by
    rw [show m + (k + 1) = (m + k) + 1 by omega, bdN_ok (h k (by omega)), bdN_run k fun j hj => h j (by omega)]
theorem bad_at {f : Nat → Int} {k : Nat} (h : okAt f 0 k = false) : ∀ N, k < N → (bad f N)[bdN f k]? = some k
  | 0, hk => by omega
  | N + 1, hk => by
    rw [bad_succ]
    by_cases e : k = N
    · subst e
      rw [show bdN f k = (bad f k).length from rfl, List.getElem?_append_right (Nat.le_refl _), h]
      simp
    · have ih := bad_at h N (by omega)
      rw [List.getElem?_append_left (by
        rcases Nat.lt_or_ge (bdN f k) (bad f N).length with h1 | h1
        · exact h1
        · rw [List.getElem?_eq_none h1] at ih; cases ih)]
      exact ih
theorem bdF_at {f : Nat → Int} {k N : Nat} (h : okAt f 0 k = false) (hk : k < N) : bdF f N (bdN f k) = (k : Int) := by unfold bdF; rw [bad_at h N hk]; rfl
theorem okAt_in {f : Nat → Int} {k : Nat} (h : k < 700) : okAt f 0 k = sndF k (frK f k) := by
  unfold okAt sndX
  have : inX (0 + (k : Int)) = true := by unfold inX; simp; omega
  rw [if_pos this, Int.zero_add, Int.toNat_natCast]
def bbC (n : Nat) : Int := if 700 < n then 3 else 0
def bbN (f : Nat → Int) (n : Nat) : Nat := if 700 < n then 0 else bdN f n
theorem bbN_le (f : Nat → Int) (n : Nat) (h : n ≤ 1048576) : bbN f n ≤ 1048576 := by
  unfold bbN
  have := bdN_le f n
  split <;> omega
set_option maxRecDepth 20000 in
set_option maxHeartbeats 8000000 in
theorem lBroken_any (a : Option Addr) (n cap : Nat) (f : Nat → Int) (w : World) (hn : n ≤ 700) (hf : ByF (16 * n) f) (h : FrR w.heap.size w a n f) :
    Calls Try.prog 97 #[.slice a n cap] w fun e w' => ∃ v, e = .returned v ∧ OwnL w.heap.size v (bdN f n) (bdF f n) w' ∧ Below w.heap.size w w' := by
  have HF := Lib.hid h
  have HY := Lib.hid hf
  have HN := Lib.hid hn
  have nI : (n : Int) ≤ 700 := by omega
  have O0 : Hid (OwnL w.heap.size (.slice (some ⟨w.heap.size, 0, none⟩) 0 0) (bdN f 0) (bdF f n) (w.alloc (.cells #[] 2))) := Lib.hid (OwnL.made _ _ _ (Nat.le_refl _))
  have B0 : Hid (Below w.heap.size w (w.alloc (.cells #[] 2))) := Lib.hid ((Below.refl _ w).alloc (Nat.le_refl _) _)
  clear h hf hn
  go_enter Try.func97, Try.ntmps97
  go_wp2_with fail
  generalize w.alloc (.cells #[] 2) = w1 at O0 B0 ⊢
  go_loopw [3, 4] (fun d i wr => ∃ k : Nat, k ≤ n ∧ i = .int .i64 (k : Int) ∧ OwnL w.heap.size d (bdN f k) (bdF f n) wr ∧ Below w.heap.size w wr) (fun _ i _ => n - (intOf i).toNat)
  case atStart => exact ⟨0, Nat.zero_le _, rfl, O0.out, B0.out⟩
  case round =>
    obtain ⟨k, hk, rfl, ho, hb⟩ := hrel
    have HO := Lib.hid ho
    have HB := Lib.hid hb
    have WZ : Hid (w.heap.size ≤ wr.heap.size) := Lib.hid hb.size
    clear ho hb O0 B0
    by_cases hlt : k < n
    · obtain ⟨g, off, rfl, hg, hc⟩ : ∃ g off, a = some ⟨g, off, none⟩ ∧ g < w.heap.size ∧ ∀ j, j < 16 * n → w.cell? ⟨g, off + j, none⟩ = some (.int .u8 (f j)) := by
        rcases HF.out with h | h
        · omega
        · exact h
      have HC : Hid (∀ j u, (Q16 (frK f k))[j]? = some u → wr.cell? ⟨g, off + k * 16 + j, none⟩ = some u) := Lib.hid fun j u e => by
        have hj : j < 16 := by
          rcases Nat.lt_or_ge j 16 with h | h
          · exact h
          · rw [arr_none _ _ _ _ h] at e; cases e
        rw [HB.out.cell (p := ⟨g, off + k * 16 + j, none⟩) hg, Nat.add_assoc, hc (k * 16 + j) (by omega), ← e, arr_get _ _ _ _ hj]
        rfl
      have tk : (k : Int) < (n : Int) := by omega
      have HK := Lib.hid hlt
      have FB : Hid (ByF 16 (frK f k)) := Lib.hid fun j hj => HY.out (k * 16 + j) (by omega)
      have LS := Lib.hid (l09Sound_any k (frK f k) FB.out (by have := HN.out; omega))
      have OK : Hid (okAt f 0 k = sndF k (frK f k)) := Lib.hid (okAt_in (by have := HN.out; omega))
      obtain ⟨m, hm⟩ : ∃ m, frK f k = m := ⟨_, rfl⟩
      rw [hm] at HC FB LS OK
      clear hlt hk hm hg hc
      go_wp2_with (refine wpList_load_part rfl 93 _ rfl g (off + k * 16) rfl (Q16 m) _ HC.out Try.underlying93 rfl (fr_info _ (arr_size _ _ _)) ?_)
      refine (LS.out wr).mono ?_
      rintro e wc ⟨rfl, b⟩
      have OC : Hid (OwnL w.heap.size _ (bdN f k) (bdF f n) wc) := Lib.hid (ownsRow_belowB HO.out b)
      have BC : Hid (Below w.heap.size w wc) := Lib.hid (HB.out.trans (b.mono WZ.out))
      have ZC : Hid (w.heap.size ≤ wc.heap.size) := Lib.hid BC.out.size
      clear b LS HO HB
      cases hsd : sndF k m with
      | true =>
        have BN : Hid (bdN f (k + 1) = bdN f k) := Lib.hid (bdN_ok (OK.out.trans hsd))
        clear hsd OK
        go_wp2
        go_roundw
        case rel => exact ⟨k + 1, HK.out, by go_num, by rw [BN.out]; exact OC.out, BC.out⟩
        case measure => have := HK.out; simp [intOf]; omega
      | false =>
        have BN : Hid (bdN f (k + 1) = bdN f k + 1) := Lib.hid (bdN_no (OK.out.trans hsd))
        have BF : Hid (bdF f n (bdN f k) = (k : Int)) := Lib.hid (bdF_at (OK.out.trans hsd) HK.out)
        have BL : Hid (bdN f k ≤ 700) := Lib.hid (by have := bdN_le f k; have := HK.out; have := HN.out; omega)
        clear hsd OK
        go_wp2_with (at_builtin; refine wpList_append_l rfl _ _ rfl w.heap.size _ (bdN f k) (bdF f n) rfl (OC.out.alloc _) wc.heap.size 1 (k : Int) rfl ((World.cell?_alloc_new _ _ _ _).trans rfl) BF.out (by have := BL.out; omega) (by have := ZC.out; rw [World.size_alloc]; omega) w (BC.out.alloc ZC.out _) ?_; intro v' w' h1 h2 h3; have H1 := Lib.hid h1; have H2 := Lib.hid h2; clear h1 h2 h3)
        go_roundw
        case rel => exact ⟨k + 1, HK.out, by go_num, by rw [BN.out]; exact H1.out, H2.out⟩
        case measure => have := HK.out; simp [intOf]; omega
    · obtain rfl : k = n := by omega
      clear hlt hk
      go_wp2
      go_ret
      exact ⟨_, rfl, HO.out, HB.out⟩
end Go.Proofs.Ytkijgadkgfapgaa
