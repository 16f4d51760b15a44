/-
  FRAMES MENDED: what the answer is; a frame put into a row; marks from any number on; a copy.
-/
import Derived.Test.YtligafgbknlofaaDoorHe
namespace Go.Proofs.YtligafgbknlofaaDoor
open Go.ChangeShapes Go.WideShapes Go.ChangeAt Go.RowKit
def mdOk (f h : Nat → Int) (m k : Nat) : Bool := !okAt f 0 k && decide (k < m) && okAt h 0 k
def mdK (f h : Nat → Int) (m k : Nat) : Nat → Int := fun x => if x / 16 < k ∧ mdOk f h m (x / 16) = true then h x else f x
def mdN (f h : Nat → Int) (m k : Nat) : Nat := ((List.range k).filter (mdOk f h m)).length
theorem mdN_succ (f h : Nat → Int) (m k : Nat) : mdN f h m (k + 1) = mdN f h m k + (if mdOk f h m k then 1 else 0) := by
  unfold mdN
  rw [List.range_succ, List.filter_append, List.length_append]
  cases e : mdOk f h m k <;> simp [e]
theorem mdN_le (f h : Nat → Int) (m : Nat) : ∀ k, mdN f h m k ≤ k
  | 0 => Nat.le_refl _
  | k + 1 => by
    have := mdN_le f h m k
    rw [mdN_succ]
    split <;> omega
theorem md_run {f h : Nat → Int} {m a : Nat} : ∀ d, (∀ k, a ≤ k → k < a + d → mdOk f h m k = false) → mdN f h m (a + d) = mdN f h m a ∧ mdK f h m (a + d) = mdK f h m a
  | 0, _ => ⟨rfl, rfl⟩
  | d + 1, hk => by
    obtain ⟨h1, h2⟩ := md_run d fun k h1 h2 => hk k h1 (by omega)
    have h3 := hk (a + d) (by omega) (by omega)
    refine ⟨by rw [show a + (d + 1) = (a + d) + 1 by omega, mdN_succ, h3, h1]; rfl, ?_⟩
    rw [← h2]
    funext x
    unfold mdK
    by_cases e : x / 16 = a + d
    · rw [e, h3]; simp
    · by_cases e1 : x / 16 < a + d
      · simp [e1, show x / 16 < a + (d + 1) by omega]
      · simp [e1, show ¬ x / 16 < a + (d + 1) by omega]
theorem bad_get {f : Nat → Int} {p j : Nat} : ∀ n, (bad f n)[j]? = some p → p < n ∧ okAt f 0 p = false ∧ bdN f p = j
  | 0, h => by simp [bad] at h
  | n + 1, h => by
    rw [bad_succ] at h
    by_cases hj : j < (bad f n).length
    · rw [List.getElem?_append_left hj] at h
      obtain ⟨h1, h2, h3⟩ := bad_get n h
      exact ⟨by omega, h2, h3⟩
    · rw [List.getElem?_append_right (by omega)] at h
      cases ho : okAt f 0 n with
      | true => rw [ho] at h; simp at h
      | false =>
        rw [ho] at h
        simp only [Bool.false_eq_true, if_false] at h
        have hj0 : j - (bad f n).length = 0 := by
          rcases Nat.eq_zero_or_pos (j - (bad f n).length) with h0 | h0
          · exact h0
          · rw [List.getElem?_eq_none (by simp; omega)] at h; cases h
        rw [hj0] at h
        simp at h
        subst h
        exact ⟨by omega, ho, by unfold bdN; omega⟩
theorem bdN_mono {f : Nat → Int} {a : Nat} : ∀ {b : Nat}, a ≤ b → bdN f a ≤ bdN f b
  | 0, h => by obtain rfl : a = 0 := by omega
               exact Nat.le_refl _
  | b + 1, h => by
    by_cases e : a = b + 1
    · rw [e]; exact Nat.le_refl _
    · have := bdN_mono (f := f) (a := a) (b := b) (by omega)
      cases ho : okAt f 0 b with
      | true => rw [bdN_ok ho]; exact this
      | false => rw [bdN_no ho]; omega
/-- the place of the j-th unsound frame; n behind the last one -/
def plc (f : Nat → Int) (n j : Nat) : Nat := if j < bdN f n then (bad f n)[j]?.getD 0 else n
theorem plc_at {f : Nat → Int} {n j : Nat} (h : j < bdN f n) : plc f n j < n ∧ okAt f 0 (plc f n j) = false ∧ bdN f (plc f n j) = j ∧ bdF f n j = (plc f n j : Int) := by
  have e : (bad f n)[j]? = some ((bad f n)[j]?.getD 0) := by
    rw [List.getElem?_eq_getElem h]; rfl
  have := bad_get n e
  unfold plc
  rw [if_pos h]
  exact ⟨this.1, this.2.1, this.2.2, rfl⟩
theorem plc_le (f : Nat → Int) (n j : Nat) : plc f n j ≤ n := by
  by_cases h : j < bdN f n
  · have := (plc_at h).1; omega
  · unfold plc; rw [if_neg h]; exact Nat.le_refl _
/-- between two neighbours all frames are sound -/
theorem plc_gap {f : Nat → Int} {n j k : Nat} (h : j < bdN f n) (h1 : plc f n j < k) (h2 : k < plc f n (j + 1)) : okAt f 0 k = true := by
  cases ho : okAt f 0 k with
  | true => rfl
  | false =>
    exfalso
    obtain ⟨p1, p2, p3, -⟩ := plc_at h
    have a1 : bdN f (plc f n j + 1) ≤ bdN f k := bdN_mono h1
    rw [bdN_no p2, p3] at a1
    have a2 : bdN f (k + 1) ≤ bdN f (plc f n (j + 1)) := bdN_mono h2
    rw [bdN_no ho] at a2
    by_cases hj : j + 1 < bdN f n
    · rw [(plc_at hj).2.2.1] at a2; omega
    · have : plc f n (j + 1) = n := by unfold plc; rw [if_neg hj]
      rw [this] at a2; omega
theorem plc_first {f : Nat → Int} {n k : Nat} (h : k < plc f n 0) : okAt f 0 k = true := by
  cases ho : okAt f 0 k with
  | true => rfl
  | false =>
    exfalso
    have a2 : bdN f (k + 1) ≤ bdN f (plc f n 0) := bdN_mono h
    rw [bdN_no ho] at a2
    by_cases hj : 0 < bdN f n
    · rw [(plc_at hj).2.2.1] at a2; omega
    · have : plc f n 0 = n := by unfold plc; rw [if_neg hj]
      rw [this] at a2; omega
theorem okAt_md {f h : Nat → Int} {m k : Nat} (e : okAt f 0 k = true) : mdOk f h m k = false := by unfold mdOk; rw [e]; rfl
/-! a frame put into a row -/
def putF (q : Nat → Int) (p : Nat) (m : Nat → Int) : Nat → Int := fun j => if j / 16 = p then m (j % 16) else q j
theorem Q16_rowX (q : Nat → Int) : (Q16 q).toList = rowU q 16 := by simp [rowU, arr]
theorem OwnFr.put {base n p g cap : Nat} {cur : Array Value} {q m : Nat → Int} {w : World} (hb : base ≤ g) (hg : w.heap[g]? = some (.cells cur 48 (0, 0))) (hn : n ≤ cap) (hc : cap ≤ maxLen) (hs : cur.size = cap * 16) (ht : cur.toList.take (n * 16) = rowU q (n * 16)) (hp : p < n) :
    OwnFr base (.slice (some ⟨g, 0, none⟩) n cap) n (putF q p m) (w.setRow g (splice cur.toList (p * 16) (Q16 m).toList).toArray) := by
  have hl : (Q16 m).toList.length = 16 := by simp [arr]
  have hL : (splice cur.toList (p * 16) (Q16 m).toList).length = cur.toList.length := length_splice _ _ _ (by rw [hl]; simp [hs]; omega)
  refine ⟨by rw [rowU_len], .inr ⟨g, cap, _, rfl, hb, setRow_heap _ _ _ _ _ _ hg, hn, hc, by simp only [List.size_toArray]; rw [hL]; simp [hs], ?_⟩⟩
  show List.take (n * 16) (splice cur.toList (p * 16) (Q16 m).toList) = _
  apply List.ext_getElem?
  intro j
  by_cases hj : j < n * 16
  · rw [List.getElem?_take_of_lt hj, rowU_get _ _ _ hj]
    have hq : cur.toList[j]? = some (.int .u8 (q j)) := by
      rw [← List.getElem?_take_of_lt hj, ht, rowU_get _ _ _ hj]
    unfold splice
    have hpl : (List.take (p * 16) cur.toList).length = p * 16 := by rw [List.length_take]; simp [hs]; omega
    unfold putF
    by_cases h1 : j < p * 16
    · rw [List.getElem?_append_left (by rw [hpl]; exact h1), List.getElem?_take_of_lt h1, hq, if_neg (by omega)]
    · rw [List.getElem?_append_right (by rw [hpl]; omega), hpl]
      by_cases h2 : j < p * 16 + 16
      · rw [List.getElem?_append_left (by rw [hl]; omega), Q16_rowX, rowU_get _ _ _ (by omega), if_pos (by omega), show j % 16 = j - p * 16 by omega]
      · rw [List.getElem?_append_right (by rw [hl]; omega), hl, List.getElem?_drop, show p * 16 + 16 + (j - p * 16 - 16) = j by omega, hq, if_neg (by omega)]
  · rw [List.getElem?_eq_none (by simp only [List.length_take]; omega), List.getElem?_eq_none (by rw [rowU_len]; omega)]
set_option maxHeartbeats 2000000 in
theorem markFX_any (g cap n s : Nat) (hn : n ≤ 1048576) (hs : s ≤ 20000000) (w : World) (ho : FMk g (16 * n) 0 w) :
    Calls Tryd.prog 12 #[.slice (some ⟨g, 0, none⟩) n cap, .int .i64 (s : Int)] w fun e w' => e = .returned (.int .i64 ((s + 16 * n : Nat) : Int)) ∧ FOnl g w w' := by
  have HO := Lib.hid ho
  have hn' : (n : Int) ≤ 1048576 := by omega
  have hs' : (s : Int) ≤ 20000000 := by omega
  have HS := Lib.hid hs
  clear ho hs
  go_enter Tryd.func12, Tryd.ntmps12
  go_wp2
  go_loopw [1, 5, 6] (fun q i _ wr => ∃ k : Nat, k ≤ n ∧ i = .int .i64 k ∧ q = .int .i64 ((s + 16 * k : Nat) : Int) ∧ FMk g (16 * n) 0 wr ∧ FOnl g w wr) (fun _ i _ _ => n - (intOf i).toNat)
  case atStart => exact ⟨0, Nat.zero_le _, rfl, rfl, HO.out, FOnl.refl _ _⟩
  case round =>
    obtain ⟨k, hk, rfl, rfl, hm, hb⟩ := hrel
    have HM := Lib.hid hm
    have HB := Lib.hid hb
    clear hm hb
    by_cases hlt : k < n
    · have hlt' : (k : Int) < n := by omega
      have HK := Lib.hid hlt
      clear hlt hk
      go_wp2
      go_loopw [1, 6] (fun q i wx => ∃ j : Nat, j ≤ 16 ∧ i = .int .i64 (j : Int) ∧ q = .int .i64 ((s + (16 * k + j) : Nat) : Int) ∧ FMk g (16 * n) 0 wx ∧ FOnl g w wx) (fun _ i _ => 16 - (intOf i).toNat)
      case atStart => exact ⟨0, by omega, rfl, rfl, HM.out, HB.out⟩
      case round =>
        obtain ⟨j, hj, rfl, rfl, hm, hb⟩ := hrel
        have HM2 := Lib.hid hm
        have HB2 := Lib.hid hb
        clear hm hb
        by_cases hjl : j < 16
        · have hjl' : (j : Int) < 16 := by omega
          have HJ := Lib.hid hjl
          obtain ⟨x, hx⟩ := (HM2.out.2 (k * 16 + j) (by have := HK.out; omega)).1
          have hf := (HM2.out.2 (k * 16 + j) (by have := HK.out; omega)).2
          have HP : Hid (∀ y : Int, FMk g (16 * n) 0 (wr.setCell ⟨g, k * 16 + j, none⟩ (.int .u8 y))) := Lib.hid (fun y => ⟨fun j hj => absurd hj (Nat.not_lt_zero _), fun i hi => ⟨by
            obtain ⟨x', hx'⟩ := (HM2.out.2 i hi).1
            rw [fcell_set hx']
            by_cases e : k * 16 + j = i
            · exact ⟨y, by rw [if_pos e]⟩
            · exact ⟨x', by rw [if_neg e]⟩, by rw [World.frozen?_setCell]; exact (HM2.out.2 i hi).2⟩⟩)
          clear hjl hj
          obtain ⟨z, hz⟩ : ∃ z : Nat, s + (16 * k + j) = z := ⟨_, rfl⟩
          have HZ := Lib.hid hz
          rw [hz]
          have hzl : (z : Int) ≤ 40000000 := by have := HK.out; have := HS.out; omega
          clear hz
          go_wp2
          go_roundw
          case rel => exact ⟨j + 1, HJ.out, by go_num, by rw [show s + (16 * k + (j + 1)) = z + 1 by rw [← HZ.out]; omega]; go_num, HP.out _, HB2.out.put⟩
          case measure => have := HJ.out; simp [intOf]; omega
        · obtain rfl : j = 16 := by omega
          clear hjl hj
          go_wp2
          go_roundw
          case rel => exact ⟨k + 1, HK.out, by go_num, by rw [show s + (16 * k + 16) = s + 16 * (k + 1) by omega], HM2.out, HB2.out⟩
          case measure => have := HK.out; simp [intOf]; omega
    · obtain rfl : k = n := by omega
      go_wp2
      go_ret
      exact ⟨rfl, HB.out⟩
theorem markXNone_any (x : Option Addr) (c s : Nat) (hs : s ≤ 20000000) (w : World) :
    Calls Tryd.prog 12 #[.slice x 0 c, .int .i64 (s : Int)] w fun e w' => e = .returned (.int .i64 (s : Int)) ∧ w = w' := by
  go_enter Tryd.func12, Tryd.ntmps12
  go_wp2
  refine wp_loop_rounds 1 ?_
  rw [rounds_succ]
  go_wp2
  go_ret
  exact ⟨rfl, rfl⟩
/-- marks from any number on, whose contents nobody reads -/
theorem markX_any {lo hi n s : Nat} {v : Value} {f : Nat → Int} {w : World} (hn : n ≤ 1048576) (hs : s ≤ 20000000) (h : PR 16 lo hi w v n (FF f)) :
    Calls Tryd.prog 12 #[v, .int .i64 (s : Int)] w fun e w' => e = .returned (.int .i64 ((s + 16 * n : Nat) : Int)) ∧ True ∧ OnlIn lo hi w w' := by
  obtain ⟨a, c, rfl, h0⟩ := h
  rcases h0 with rfl | ⟨g, rfl, h1, h2, h3, h4, h5⟩
  · exact (markXNone_any a c s hs w).mono fun e w' h => ⟨by rw [h.1]; rfl, trivial, by rw [← h.2]; exact OnlIn.refl _ _ _⟩
  · refine (markFX_any g c n s hn hs w ⟨fun j hj => absurd hj (by omega), fun j hj => ⟨⟨f j, h4 j (by omega)⟩, h5 j (by omega)⟩⟩).mono ?_
    rintro e w' ⟨he, ho⟩
    exact ⟨he, trivial, ho.onl h1 h2⟩
end Go.Proofs.YtligafgbknlofaaDoor
