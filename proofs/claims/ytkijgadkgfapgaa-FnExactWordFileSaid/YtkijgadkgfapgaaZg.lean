/-
  SLICES OF TEXTS, as the laws look at them: compared, marked, held; rows of the call's own.
-/
import Derived.Test.YtkijgadkgfapgaaGac
import Derived.Test.YtkijgadkgfapgaaHc
namespace Go.Proofs.Ytkijgadkgfapgaa
open Go.ChangeShapes Go.WideShapes Go.ChangeAt Go.RowKit Go.Deep
open Wd
def FSt (f : Nat → List UInt8) : Nat → Value := fun j => .string (txt (f j))
def markSt : Nat → Value := fun j => .string (txt (mt (1 + j)))
/-- nothing has turned but blocks from lo on and below hi, and new ones -/
def OnlG (lo hi : Nat) (w w' : World) : Prop := w'.os = w.os ∧ w'.tape = w.tape ∧ w'.output = w.output ∧ w.heap.size ≤ w'.heap.size ∧ ∀ k, k < w.heap.size → k < lo ∨ hi ≤ k → w'.heap[k]? = w.heap[k]?
theorem OnlG.refl (lo hi : Nat) (w : World) : OnlG lo hi w w := ⟨rfl, rfl, rfl, Nat.le_refl _, fun _ _ _ => rfl⟩
theorem OnlG.below {lo hi B : Nat} {w w' : World} (h : OnlG lo hi w w') (hB : B ≤ lo) (hs : lo ≤ w.heap.size) : Below B w w' := ⟨h.1, h.2.1, h.2.2.1, h.2.2.2.1, fun k hk => h.2.2.2.2 k (by omega) (.inl (by omega))⟩
theorem PR.onlG {s lo hi lo' hi' : Nat} {w w' : World} {v : Value} {n : Nat} {f : Nat → Value} (h : OnlG lo hi w w') (hd : hi' ≤ lo ∨ hi ≤ lo') (hp : PR s lo' hi' w v n f) : PR s lo' hi' w' v n f := by
  obtain ⟨a, cap, rfl, h0 | ⟨g, rfl, h1, h2, h3, h4, h5⟩⟩ := hp
  · exact ⟨a, cap, rfl, .inl h0⟩
  · have e : w'.heap[g]? = w.heap[g]? := h.2.2.2.2 g (by omega) (by omega)
    refine ⟨_, cap, rfl, .inr ⟨g, rfl, h1, h2, Nat.le_trans h3 h.2.2.2.1, fun j hj => ?_, fun j hj => ?_⟩⟩
    · rw [World.cell?_of_block (a := ⟨g, j, none⟩) e]; exact h4 j hj
    · rw [World.frozen?_of_block (a := ⟨g, j, none⟩) e]; exact h5 j hj
/-- only block g has turned, and new ones -/
def OnlB (g : Nat) (w w' : World) : Prop := OnlG g (g + 1) w w'
theorem OnlB.put {g : Nat} {w w' : World} (h : OnlB g w w') (j : Nat) (v : Value) : OnlB g w (w'.setCell ⟨g, j, none⟩ v) :=
  ⟨h.1, h.2.1, h.2.2.1, by rw [World.size_setCell]; exact h.2.2.2.1, fun k hk hd => (Below.heap_setCell _ _ _ k (by intro e; simp at e; omega)).trans (h.2.2.2.2 k hk hd)⟩
theorem OnlB.below {g : Nat} {w w' w'' : World} (h : OnlB g w w') (hb : Below w'.heap.size w' w'') : OnlB g w w'' :=
  ⟨hb.os.trans h.1, hb.tape.trans h.2.1, hb.output.trans h.2.2.1, Nat.le_trans h.2.2.2.1 hb.size, fun k hk hd => (hb.block k (Nat.lt_of_lt_of_le hk h.2.2.2.1)).trans (h.2.2.2.2 k hk hd)⟩
def SMk (g N m : Nat) (w : World) : Prop := g < w.heap.size ∧ (∀ j, j < m → w.cell? ⟨g, j, none⟩ = some (markSt j)) ∧ ∀ j, j < N → (∃ x, w.cell? ⟨g, j, none⟩ = some (.string x)) ∧ w.frozen? ⟨g, j, none⟩ = false
theorem SMk.put {g N m : Nat} {w : World} (h : SMk g N m w) (hm : m < N) : SMk g N (m + 1) (w.setCell ⟨g, m, none⟩ (markSt m)) := by
  refine ⟨by rw [World.size_setCell]; exact h.1, fun j hj => ?_, fun j hj => ⟨?_, ?_⟩⟩
  · obtain ⟨x, hx⟩ := (h.2.2 j (by omega)).1
    rw [fcell_set hx]
    by_cases e : m = j
    · subst e; simp
    · rw [if_neg e, ← hx]; exact h.2.1 j (by omega)
  · obtain ⟨x, hx⟩ := (h.2.2 j hj).1
    rw [fcell_set hx]
    by_cases e : m = j
    · exact ⟨_, by rw [if_pos e]; rfl⟩
    · exact ⟨x, by rw [if_neg e]⟩
  · rw [World.frozen?_setCell]; exact (h.2.2 j hj).2
theorem SMk.below {g N m : Nat} {w w' : World} (h : SMk g N m w) (hb : Below w.heap.size w w') : SMk g N m w' :=
  ⟨Nat.lt_of_lt_of_le h.1 hb.size, fun j hj => (hb.cell (p := ⟨g, j, none⟩) h.1).trans (h.2.1 j hj), fun j hj => ⟨(h.2.2 j hj).1.imp fun x hx => (hb.cell (p := ⟨g, j, none⟩) h.1).trans hx, (hb.frozen (p := ⟨g, j, none⟩) h.1).trans (h.2.2 j hj).2⟩⟩
def StR (B : Nat) (w : World) (a : Option Addr) (n : Nat) (f : Nat → List UInt8) : Prop := n = 0 ∨ ∃ g off, a = some ⟨g, off, none⟩ ∧ g < B ∧ ∀ j, j < n → w.cell? ⟨g, off + j, none⟩ = some (.string (txt (f j)))
theorem PR.st {lo hi : Nat} {w : World} {v : Value} {n : Nat} {f : Nat → List UInt8} (h : PR 1 lo hi w v n (FSt f)) : ∃ a cap, v = .slice a n cap ∧ StR w.heap.size w a n f := by
  obtain ⟨a, cap, rfl, h0 | ⟨g, rfl, h1, h2, h3, h4, h5⟩⟩ := h
  · exact ⟨a, cap, rfl, .inl h0⟩
  · exact ⟨_, cap, rfl, .inr ⟨g, 0, rfl, by omega, fun j hj => by rw [Nat.zero_add]; exact h4 j (by omega)⟩⟩
theorem StR.congr {B n : Nat} {w : World} {a : Option Addr} {f g : Nat → List UInt8} (h : StR B w a n f) (e : ∀ j, j < n → f j = g j) : StR B w a n g := by
  rcases h with h | ⟨b, off, ha, hg, hc⟩
  · exact .inl h
  · exact .inr ⟨b, off, ha, hg, fun j hj => by rw [← e j hj]; exact hc j hj⟩
set_option maxRecDepth 20000 in
set_option maxHeartbeats 4000000 in
theorem eqStS_any (a1 a2 : Option Addr) (n c1 c2 : Nat) (f : Nat → List UInt8) (B : Nat) (w : World) (hB : B ≤ w.heap.size) (hn : n ≤ 1048576) (h1 : StR B w a1 n f) (h2 : StR B w a2 n f) :
    Calls Try.prog 43 #[.slice a1 n c1, .slice a2 n c2] w fun e w' => e = .returned (.bool true) ∧ Below w.heap.size w w' := by
  have HX := Lib.hid h1
  have HY := Lib.hid h2
  clear h1 h2
  have hn' : (n : Int) ≤ 1048576 := by omega
  go_enter Try.func43, Try.ntmps43
  go_wp2
  go_loopw [5] (fun i wr => ∃ k m : Nat, k ≤ n ∧ i = .int .i64 k ∧ wr = w.drewN m) (fun i _ => n - (intOf i).toNat)
  case atStart => exact ⟨0, 0, Nat.zero_le _, rfl, rfl⟩
  case round =>
    obtain ⟨k, m, hk, rfl, hw⟩ := hrel
    by_cases hlt : k < n
    · obtain ⟨g1, o1, rfl, -, hc1⟩ : ∃ g off, a1 = some ⟨g, off, none⟩ ∧ g < B ∧ ∀ j, j < n → w.cell? ⟨g, off + j, none⟩ = some (.string (txt (f j))) := by
        rcases HX.out with h | h
        · omega
        · exact h
      obtain ⟨g2, o2, rfl, -, hc2⟩ : ∃ g off, a2 = some ⟨g, off, none⟩ ∧ g < B ∧ ∀ j, j < n → w.cell? ⟨g, off + j, none⟩ = some (.string (txt (f j))) := by
        rcases HY.out with h | h
        · omega
        · exact h
      have tl : (k : Int) < n := by omega
      have cx : wr.cell? ⟨g1, o1 + k, none⟩ = some (.string (txt (f k))) := by rw [hw]; exact hc1 k hlt
      have cy : wr.cell? ⟨g2, o2 + k, none⟩ = some (.string (txt (f k))) := by rw [hw]; exact hc2 k hlt
      have HW := Lib.hid hw
      clear hw hc1 hc2
      generalize txt (f k) = z at cx cy
      go_wp2
      go_quiet (fail)
      go_wp2
      go_roundw
      case rel => exact ⟨k + 1, _, by omega, by go_num, by rw [HW.out, World.drewN_drewN]⟩
      case measure => simp [intOf]; omega
    · obtain rfl : k = n := by omega
      have B : Hid (Below w.heap.size w wr) := Lib.hid (by rw [hw]; exact fdrewN (Below.refl _ _) _)
      clear hw
      go_wp2
      go_ret
      exact ⟨rfl, B.out⟩
theorem eqSt_any {lo hi lo' hi' n : Nat} {v v' : Value} {f g : Nat → List UInt8} {w : World} (hf : ∀ j, j < n → f j = g j) (hn : n ≤ 1048576) (h : PR 1 lo hi w v n (FSt f)) (h' : PR 1 lo' hi' w v' n (FSt g)) :
    Calls Try.prog 43 #[v, v'] w fun e w' => e = .returned (.bool true) ∧ Below w.heap.size w w' := by
  obtain ⟨a, c, rfl, h0⟩ := h.st
  obtain ⟨a', c', rfl, h0'⟩ := h'.st
  exact eqStS_any a a' n c c' g w.heap.size w (Nat.le_refl _) hn (h0.congr hf) h0'
set_option maxRecDepth 20000 in
set_option maxHeartbeats 4000000 in
theorem markStS_any (g cap n : Nat) (hn : n ≤ 1048576) (w : World) (ho : SMk g n 0 w) :
    Calls Try.prog 44 #[.slice (some ⟨g, 0, none⟩) n cap, .int .i64 1] w fun e w' => e = .returned (.int .i64 ((1 + n : Nat) : Int)) ∧ SMk g n n w' ∧ OnlB g w w' := by
  have HO := Lib.hid ho
  have hn' : (n : Int) ≤ 1048576 := by omega
  clear ho
  go_enter Try.func44, Try.ntmps44
  go_wp2
  go_loopw [1, 5] (fun q i wr => ∃ k : Nat, k ≤ n ∧ i = .int .i64 k ∧ q = .int .i64 ((1 + k : Nat) : Int) ∧ SMk g n k wr ∧ OnlB g w wr) (fun _ i _ => n - (intOf i).toNat)
  case atStart => exact ⟨0, Nat.zero_le _, rfl, rfl, HO.out, OnlG.refl _ _ _⟩
  case round =>
    obtain ⟨k, hk, rfl, rfl, hm, hb⟩ := hrel
    have HM := Lib.hid hm
    have HB := Lib.hid hb
    clear hm hb
    by_cases hlt : k < n
    · have hlt' : (k : Int) < n := by omega
      have MT := Lib.hid (mt_any (1 + k) (by omega) (by omega) wr)
      have HK := Lib.hid hlt
      have MK : Hid (markSt k = .string (txt (mt (1 + k)))) := Lib.hid rfl
      obtain ⟨q, hq⟩ : ∃ q, 1 + k = q := ⟨_, rfl⟩
      rw [hq] at MT MK
      have HQ := Lib.hid hq
      have q9 : (q : Int) ≤ 1048577 := by omega
      rw [hq]
      generalize txt (mt q) = tx at MT MK
      clear hq hlt hk
      go_wp2_with fail
      refine MT.out.mono ?_
      rintro e w1 ⟨rfl, b⟩
      have HM1 := Lib.hid (HM.out.below b)
      have HB1 : Hid (OnlB g w w1) := Lib.hid (OnlB.below HB.out b)
      obtain ⟨x, hx⟩ := (HM1.out.2.2 k HK.out).1
      have hf := (HM1.out.2.2 k HK.out).2
      have HP := Lib.hid (HM1.out.put HK.out)
      rw [MK.out] at HP
      clear b MT MK
      go_wp2
      go_roundw
      case rel => exact ⟨k + 1, HK.out, by go_num, by have := HQ.out; go_num, HP.out, HB1.out.put _ _⟩
      case measure => have := HK.out; simp [intOf]; omega
    · obtain rfl : k = n := by omega
      go_wp2
      go_ret
      exact ⟨by simp, HM.out, HB.out⟩
set_option maxRecDepth 20000 in
set_option maxHeartbeats 4000000 in
theorem heldStS_any (g cap n : Nat) (hn : n ≤ 1048576) (w : World) (hg : g < w.heap.size) (ho : ∀ j, j < n → w.cell? ⟨g, j, none⟩ = some (markSt j)) :
    Calls Try.prog 48 #[.slice (some ⟨g, 0, none⟩) n cap, .int .i64 1] w fun e w' => e = .returned (.int .i64 ((1 + n : Nat) : Int)) ∧ Below w.heap.size w w' := by
  have HO := Lib.hid ho
  have HG := Lib.hid hg
  have hn' : (n : Int) ≤ 1048576 := by omega
  clear ho hg
  go_enter Try.func48, Try.ntmps48
  go_wp2
  go_loopw [1, 5] (fun q i wr => ∃ k : Nat, k ≤ n ∧ i = .int .i64 k ∧ q = .int .i64 ((1 + k : Nat) : Int) ∧ Below w.heap.size w wr) (fun _ i _ => n - (intOf i).toNat)
  case atStart => exact ⟨0, Nat.zero_le _, rfl, rfl, Below.refl _ _⟩
  case round =>
    obtain ⟨k, hk, rfl, rfl, hb⟩ := hrel
    have HB := Lib.hid hb
    clear hb
    by_cases hlt : k < n
    · have hlt' : (k : Int) < n := by omega
      have HK := Lib.hid hlt
      have CX : Hid (∀ W, Below wr.heap.size wr W → W.cell? ⟨g, k, none⟩ = some (.string (txt (mt (1 + k))))) := Lib.hid fun W hW => (Below.cell (p := ⟨g, k, none⟩) (HB.out.trans (hW.mono HB.out.size)) HG.out).trans (HO.out k hlt)
      have MT := Lib.hid (fun W => mt_any (1 + k) (by omega) (by omega) W)
      obtain ⟨q, hq⟩ : ∃ q, 1 + k = q := ⟨_, rfl⟩
      rw [hq] at MT CX
      have HQ := Lib.hid hq
      have q9 : (q : Int) ≤ 1048577 := by omega
      rw [hq]
      generalize txt (mt q) = tx at MT CX
      clear hq hlt hk
      go_wp2
      refine wp_region_inv (by kernel_rfl) (fun listed act W => listed.size = 7 ∧ Below wr.heap.size wr W ∧ ∃ x0 x1 x2 x3 x4 x5 x6, act = { tmps := #[.slice (some ⟨g, 0, none⟩) n cap, .int .i64 (q : Int), undef, undef, u4, .int .i64 (k : Int), .int .i64 (k : Int), .slice (some ⟨g, 0, none⟩) n cap, .int .i64 (n : Int), .bool true, u10, u11, x0, x1, x2, x3, x4, x5, x6, u19, u20, undef], defers := [] } ∧ (listed.getD 0 false = true → x0 = .slice (some ⟨g, 0, none⟩) n cap) ∧ (listed.getD 1 false = true → x1 = .int .i64 (k : Int)) ∧ (listed.getD 2 false = true → x2 = .pointer (some ⟨g, k, none⟩)) ∧ (listed.getD 3 false = true → x3 = .string tx) ∧ (listed.getD 4 false = true → x4 = .int .i64 (q : Int)) ∧ (listed.getD 5 false = true → x5 = .string tx) ∧ (listed.getD 6 false = true → x6 = .bool false)) (by kernel_rfl) ?h0q (fun _ _ _ h => h.1) ?hstepq ?hendq
      case h0q =>
        refine ⟨rfl, (Below.refl _ _).drew, _, _, _, _, _, _, _, rfl, ?_, ?_, ?_, ?_, ?_, ?_, ?_⟩ <;> (intro h; exact absurd h (by decide))
      case hstepq =>
        rintro listed act W i o ⟨hs, hB, x0, x1, x2, x3, x4, x5, x6, rfl, e0, e1, e2, e3, e4, e5, e6⟩ hun hio hpre
        have HB := Lib.hid hB
        have E0 := Lib.hid e0
        have E1 := Lib.hid e1
        have E2 := Lib.hid e2
        have E3 := Lib.hid e3
        have E4 := Lib.hid e4
        have E5 := Lib.hid e5
        have E6 := Lib.hid e6
        have HS := Lib.hid hs
        have HU := Lib.hid hun
        have PRE := Lib.hid hpre
        clear e0 e1 e2 e3 e4 e5 e6 hs hpre hB hun
        match i, hio with
        | 0, hio =>
          clear hio
          refine wpOp_by rfl fun K HK => ?_
          go_wp2_with (fail)
          exact HK.out _ _ ⟨by rw [Array.size_setIfInBounds, HS.out], HB.out, _, _, _, _, _, _, _, rfl, fun _ => rfl, fun h => E1.out ((listed_set h).resolve_left (by decide)), fun h => E2.out ((listed_set h).resolve_left (by decide)), fun h => E3.out ((listed_set h).resolve_left (by decide)), fun h => E4.out ((listed_set h).resolve_left (by decide)), fun h => E5.out ((listed_set h).resolve_left (by decide)), fun h => E6.out ((listed_set h).resolve_left (by decide))⟩
        | 1, hio =>
          clear hio
          refine wpOp_by rfl fun K HK => ?_
          go_wp2_with (fail)
          exact HK.out _ _ ⟨by rw [Array.size_setIfInBounds, HS.out], HB.out, _, _, _, _, _, _, _, rfl, fun h => E0.out ((listed_set h).resolve_left (by decide)), fun _ => rfl, fun h => E2.out ((listed_set h).resolve_left (by decide)), fun h => E3.out ((listed_set h).resolve_left (by decide)), fun h => E4.out ((listed_set h).resolve_left (by decide)), fun h => E5.out ((listed_set h).resolve_left (by decide)), fun h => E6.out ((listed_set h).resolve_left (by decide))⟩
        | 2, hio =>
          simp only [List.getElem?_toArray, List.getElem?_cons_succ, List.getElem?_cons_zero, Option.some.injEq] at hio
          subst hio
          have p0 := PRE.out ⟨0, .data⟩ (by simp) rfl
          have p1 := PRE.out ⟨1, .data⟩ (by simp) rfl
          obtain rfl := E0.out p0
          obtain rfl := E1.out p1
          refine wpOp_by rfl fun K HK => ?_
          go_wp2_with (fail)
          exact HK.out _ _ ⟨by rw [Array.size_setIfInBounds, HS.out], HB.out, _, _, _, _, _, _, _, rfl, fun _ => rfl, fun _ => rfl, fun _ => rfl, fun h => E3.out ((listed_set h).resolve_left (by decide)), fun h => E4.out ((listed_set h).resolve_left (by decide)), fun h => E5.out ((listed_set h).resolve_left (by decide)), fun h => E6.out ((listed_set h).resolve_left (by decide))⟩
        | 3, hio =>
          simp only [List.getElem?_toArray, List.getElem?_cons_succ, List.getElem?_cons_zero, Option.some.injEq] at hio
          subst hio
          have p2 := PRE.out ⟨2, .data⟩ (by simp) rfl
          obtain rfl := E2.out p2
          have cx := CX.out W HB.out
          refine wpOp_by rfl fun K HK => ?_
          go_wp2_with (fail)
          exact HK.out _ _ ⟨by rw [Array.size_setIfInBounds, HS.out], HB.out, _, _, _, _, _, _, _, rfl, fun h => E0.out ((listed_set h).resolve_left (by decide)), fun h => E1.out ((listed_set h).resolve_left (by decide)), fun _ => rfl, fun _ => rfl, fun h => E4.out ((listed_set h).resolve_left (by decide)), fun h => E5.out ((listed_set h).resolve_left (by decide)), fun h => E6.out ((listed_set h).resolve_left (by decide))⟩
        | 4, hio =>
          clear hio
          refine wpOp_by rfl fun K HK => ?_
          go_wp2_with (fail)
          exact HK.out _ _ ⟨by rw [Array.size_setIfInBounds, HS.out], HB.out, _, _, _, _, _, _, _, rfl, fun h => E0.out ((listed_set h).resolve_left (by decide)), fun h => E1.out ((listed_set h).resolve_left (by decide)), fun h => E2.out ((listed_set h).resolve_left (by decide)), fun h => E3.out ((listed_set h).resolve_left (by decide)), fun _ => rfl, fun h => E5.out ((listed_set h).resolve_left (by decide)), fun h => E6.out ((listed_set h).resolve_left (by decide))⟩
        | 5, hio =>
          simp only [List.getElem?_toArray, List.getElem?_cons_succ, List.getElem?_cons_zero, Option.some.injEq] at hio
          subst hio
          have p4 := PRE.out ⟨4, .data⟩ (by simp) rfl
          obtain rfl := E4.out p4
          refine wpOp_by rfl fun K HK => ?_
          go_wp2_with fail
          refine Calls.mono (MT.out _) ?_
          rintro e W' ⟨rfl, b⟩
          have HBB := Lib.hid b
          clear b
          go_wp2
          exact HK.out _ _ ⟨by rw [Array.size_setIfInBounds, HS.out], HB.out.trans (HBB.out.mono HB.out.size), _, _, _, _, _, _, _, rfl, fun h => E0.out ((listed_set h).resolve_left (by decide)), fun h => E1.out ((listed_set h).resolve_left (by decide)), fun h => E2.out ((listed_set h).resolve_left (by decide)), fun h => E3.out ((listed_set h).resolve_left (by decide)), fun _ => rfl, fun _ => rfl, fun h => E6.out ((listed_set h).resolve_left (by decide))⟩
        | 6, hio =>
          simp only [List.getElem?_toArray, List.getElem?_cons_succ, List.getElem?_cons_zero, Option.some.injEq] at hio
          subst hio
          have p3 := PRE.out ⟨3, .data⟩ (by simp) rfl
          have p5 := PRE.out ⟨5, .data⟩ (by simp) rfl
          obtain rfl := E3.out p3
          obtain rfl := E5.out p5
          refine wpOp_by rfl fun K HK => ?_
          go_wp2_with (fail)
          exact HK.out _ _ ⟨by rw [Array.size_setIfInBounds, HS.out], HB.out, _, _, _, _, _, _, _, rfl, fun h => E0.out ((listed_set h).resolve_left (by decide)), fun h => E1.out ((listed_set h).resolve_left (by decide)), fun h => E2.out ((listed_set h).resolve_left (by decide)), fun _ => rfl, fun h => E4.out ((listed_set h).resolve_left (by decide)), fun _ => rfl, fun _ => rfl⟩
        | k + 7, hio => simp at hio
      case hendq =>
        rintro listed act W1 ⟨hs, hB, x0, x1, x2, x3, x4, x5, x6, rfl, e0, e1, e2, e3, e4, e5, e6⟩ hall
        obtain rfl := e0 (hall 0 (by decide))
        obtain rfl := e1 (hall 1 (by decide))
        obtain rfl := e2 (hall 2 (by decide))
        obtain rfl := e3 (hall 3 (by decide))
        obtain rfl := e4 (hall 4 (by decide))
        obtain rfl := e5 (hall 5 (by decide))
        obtain rfl := e6 (hall 6 (by decide))
        clear hs
        have B9 := Lib.hid (HB.out.trans (hB.mono HB.out.size))
        clear hB hall
        go_wp2
        go_roundw
        case rel => exact ⟨k + 1, HK.out, by go_num, by have := HQ.out; go_num, B9.out⟩
        case measure => have := HK.out; simp [intOf]; omega
    · obtain rfl : k = n := by omega
      go_wp2
      go_ret
      exact ⟨by simp, HB.out⟩
theorem markStNone_any (x : Option Addr) (c : Nat) (w : World) :
    Calls Try.prog 44 #[.slice x 0 c, .int .i64 1] w fun e w' => e = .returned (.int .i64 1) ∧ w = w' := by
  go_enter Try.func44, Try.ntmps44
  go_wp2
  refine wp_loop_rounds 1 ?_
  rw [rounds_succ]
  go_wp2
  go_ret
  exact ⟨rfl, rfl⟩
theorem heldStNone_any (x : Option Addr) (c : Nat) (w : World) :
    Calls Try.prog 48 #[.slice x 0 c, .int .i64 1] w fun e w' => e = .returned (.int .i64 1) ∧ w = w' := by
  go_enter Try.func48, Try.ntmps48
  go_wp2
  refine wp_loop_rounds 1 ?_
  rw [rounds_succ]
  go_wp2
  go_ret
  exact ⟨rfl, rfl⟩
theorem markSt_any {lo hi n : Nat} {v : Value} {f : Nat → List UInt8} {w : World} (hn : n ≤ 1048576) (h : PR 1 lo hi w v n (FSt f)) :
    Calls Try.prog 44 #[v, .int .i64 1] w fun e w' => e = .returned (.int .i64 ((1 + n : Nat) : Int)) ∧ PR 1 lo hi w' v n markSt ∧ OnlG lo hi w w' := by
  obtain ⟨a, c, rfl, h0⟩ := h
  rcases h0 with rfl | ⟨g, rfl, h1, h2, h3, h4, h5⟩
  · exact (markStNone_any a c w).mono fun e w' h => ⟨h.1, ⟨a, c, rfl, .inl rfl⟩, by rw [← h.2]; exact OnlG.refl _ _ _⟩
  · refine (markStS_any g c n hn w ⟨by omega, fun j hj => absurd hj (by omega), fun j hj => ⟨⟨_, h4 j (by omega)⟩, h5 j (by omega)⟩⟩).mono ?_
    rintro e w' ⟨he, hm, ho⟩
    exact ⟨he, ⟨_, c, rfl, .inr ⟨g, rfl, h1, h2, Nat.le_trans h3 ho.2.2.2.1, fun j hj => hm.2.1 j (by omega), fun j hj => (hm.2.2 j (by omega)).2⟩⟩, ⟨ho.1, ho.2.1, ho.2.2.1, ho.2.2.2.1, fun k hk hd => ho.2.2.2.2 k hk (by omega)⟩⟩
theorem heldSt_any {lo hi n : Nat} {v : Value} {w : World} (hn : n ≤ 1048576) (h : PR 1 lo hi w v n markSt) :
    Calls Try.prog 48 #[v, .int .i64 1] w fun e w' => e = .returned (.int .i64 ((1 + n : Nat) : Int)) ∧ Below w.heap.size w w' := by
  obtain ⟨a, c, rfl, h0⟩ := h
  rcases h0 with rfl | ⟨g, rfl, h1, h2, h3, h4, h5⟩
  · exact (heldStNone_any a c w).mono fun e w' h => ⟨h.1, by rw [← h.2]; exact Below.refl _ _⟩
  · exact heldStS_any g c n hn w (by omega) fun j hj => h4 j (by omega)
/-! rows of texts -/
def rowSt (q : Nat → List UInt8) (n : Nat) : List Value := (List.range n).map fun j => .string (txt (q j))
theorem rowSt_get (q : Nat → List UInt8) (n j : Nat) (h : j < n) : (rowSt q n)[j]? = some (.string (txt (q j))) := by simp [rowSt, h]
theorem rowSt_snoc {q : Nat → List UInt8} {n : Nat} {x : ByteArray} (h : txt (q n) = x) : rowSt q n ++ [.string x] = rowSt q (n + 1) := by
  unfold rowSt
  rw [List.range_succ, List.map_append, List.map_cons, List.map_nil, h]
def OwnSt (base : Nat) (v : Value) (n : Nat) (q : Nat → List UInt8) (w : World) : Prop := w.ownsRow base 9 1 v n (rowSt q n)
theorem OwnSt.alloc {base : Nat} {v : Value} {n : Nat} {q : Nat → List UInt8} {w : World} (h : OwnSt base v n q w) (o : Obj) : OwnSt base v n q (w.alloc o) := World.ownsRow.alloc h o
theorem OwnSt.made (q : Nat → List UInt8) (w : World) (base : Nat) (hb : base ≤ w.heap.size) : OwnSt base (.slice (some ⟨w.heap.size, 0, none⟩) 0 0) 0 q (w.alloc (.cells #[] 9)) :=
  ⟨rfl, .inr ⟨w.heap.size, 0, #[], rfl, hb, heap_alloc_new w _, Nat.le_refl _, Nat.zero_le _, rfl, rfl⟩⟩
theorem OwnSt.pr {base : Nat} {v : Value} {n : Nat} {f : Nat → List UInt8} {w : World} (h : OwnSt base v n f w) : PR 1 base w.heap.size w v n (FSt f) := by
  obtain ⟨a, cap, rfl, h0 | ⟨g, rfl, h1, h2, h3, h4, h5⟩⟩ := PR.of_own h
  · exact ⟨a, cap, rfl, .inl h0⟩
  · refine ⟨_, cap, rfl, .inr ⟨g, rfl, h1, h2, h3, fun j hj => ?_, h5⟩⟩
    rw [h4 j hj]
    unfold listF
    rw [rowSt_get _ _ _ (by omega)]
    rfl
theorem OwnSt.base {base b2 : Nat} {v : Value} {n : Nat} {q : Nat → List UInt8} {w : World} (hb : base ≤ b2) (h : OwnSt b2 v n q w) : OwnSt base v n q w := by
  obtain ⟨h1, h2⟩ := h
  refine ⟨h1, ?_⟩
  rcases h2 with h2 | ⟨g, cap, cur, e, h3, h4⟩
  · exact .inl h2
  · exact .inr ⟨g, cap, cur, e, Nat.le_trans hb h3, h4⟩
theorem info_st' : (Try.prog.info? 9).map (fun i => (i.zero, i.size, i.bytes)) = some (some (.string .empty), 1, 16) := by kernel_rfl
/-- one text appended to a row of the call's own -/
theorem wpList_append_st {ops : Array Oper} {rest : List Oper} {o : Oper} {a : Act} {W : World} {Q : Exit → Act → World → Prop} (hgd : o.guard = none) (s x : Operand)
    (ho : o.op = .call { callee := .builtin .append, args := #[s, x], argTypes := #[64, 64] })
    (base : Nat) (v : Value) (n : Nat) (q : Nat → List UInt8) (hs : a.eval s = v) (hown : OwnSt base v n q W) (g c : Nat) (y : ByteArray) (hx : a.eval x = .slice (some ⟨g, 0, none⟩) 1 c)
    (hc : W.cell? ⟨g, 0, none⟩ = some (.string y)) (hq : txt (q n) = y) (hl : n ≤ 1000000) (hbase : base ≤ W.heap.size)
    (w0 : World) (hb : Below base w0 W)
    (h : ∀ v' w', OwnSt base v' (n + 1) q w' → Below base w0 w' → W.grownBy w' v.ownBlock → wpList Try.prog ops Q rest (a.put o.dst v') w') : wpList Try.prog ops Q (o :: rest) a W := by
  obtain ⟨i0, hi, hz0, hz1, hz2⟩ := info_parts info_st'
  refine wpList_append_own W hgd s x 64 ho base 9 i0 (.string .empty) 1 16 Try.underlying64 hi hz0 hz1 hz2 rfl (by decide) v n (rowSt q n) hs hown ⟨g, 0, none⟩ 1 c [.string y] hx rfl ?_ (by simp [Value.oneCell']) (by unfold maxLen; omega) (by omega) hbase ?_
  · intro j u hj
    cases j with
    | zero => simp at hj; subst hj; rw [Go.WideShapes.add_plain]; exact hc
    | succ j => simp at hj
  · intro v' w' h1 h2 _
    refine h v' w' ?_ ?_ h2
    · unfold OwnSt
      rw [← rowSt_snoc hq]
      exact h1
    · exact hb.grown h2 hbase (fun k hk => (World.ownsRow.lt hown k hk).1)
end Go.Proofs.Ytkijgadkgfapgaa
