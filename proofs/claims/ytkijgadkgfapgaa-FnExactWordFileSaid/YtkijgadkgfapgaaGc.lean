/-
  SLICES OF FRAMES, as the laws look at them, nil or not: compared, marked, held.
-/
import Derived.Test.YtkijgadkgfapgaaFo
import Derived.Test.YtkijgadkgfapgaaRi
import Derived.Test.YtkijgadkgfapgaaPr
namespace Go.Proofs.Ytkijgadkgfapgaa
open Go.ChangeShapes Go.WideShapes Go.ChangeAt Go.RowKit
/-- bytes as cells -/
def FF (f : Nat → Int) : Nat → Value := fun j => .int .u8 (f j)
/-- nothing has turned but blocks from lo on and below hi -/
def OnlIn (lo hi : Nat) (w w' : World) : Prop := w'.os = w.os ∧ w'.tape = w.tape ∧ w'.output = w.output ∧ w'.heap.size = w.heap.size ∧ ∀ k, k < lo ∨ hi ≤ k → w'.heap[k]? = w.heap[k]?
theorem OnlIn.refl (lo hi : Nat) (w : World) : OnlIn lo hi w w := ⟨rfl, rfl, rfl, rfl, fun _ _ => rfl⟩
theorem OnlIn.below {lo hi B : Nat} {w w' : World} (h : OnlIn lo hi w w') (hB : B ≤ lo) : Below B w w' := ⟨h.1, h.2.1, h.2.2.1, by rw [h.2.2.2.1]; exact Nat.le_refl _, fun k hk => h.2.2.2.2 k (.inl (by omega))⟩
theorem PR.onl {s lo hi lo' hi' : Nat} {w w' : World} {v : Value} {n : Nat} {f : Nat → Value} (h : OnlIn lo hi w w') (hd : hi' ≤ lo ∨ hi ≤ lo') (hp : PR s lo' hi' w v n f) : PR s lo' hi' w' v n f := by
  obtain ⟨a, cap, rfl, h0 | ⟨g, rfl, h1, h2, h3, h4, h5⟩⟩ := hp
  · exact ⟨a, cap, rfl, .inl h0⟩
  · have e : w'.heap[g]? = w.heap[g]? := h.2.2.2.2 g (by omega)
    refine ⟨_, cap, rfl, .inr ⟨g, rfl, h1, h2, by rw [h.2.2.2.1]; exact h3, fun j hj => ?_, fun j hj => ?_⟩⟩
    · rw [World.cell?_of_block (a := ⟨g, j, none⟩) e]; exact h4 j hj
    · rw [World.frozen?_of_block (a := ⟨g, j, none⟩) e]; exact h5 j hj
theorem FrR.onl {lo hi B n : Nat} {w w' : World} {a : Option Addr} {f : Nat → Int} (h : OnlIn lo hi w w') (hd : B ≤ lo) (hp : FrR B w a n f) : FrR B w' a n f := hp.below (h.below hd) (Nat.le_refl _)
theorem PR.fr {lo hi : Nat} {w : World} {v : Value} {n : Nat} {f : Nat → Int} (h : PR 16 lo hi w v n (FF f)) : ∃ a cap, v = .slice a n cap ∧ FrR w.heap.size w a n f := by
  obtain ⟨a, cap, rfl, h0 | ⟨g, rfl, h1, h2, h3, h4, h5⟩⟩ := h
  · exact ⟨a, cap, rfl, .inl h0⟩
  · exact ⟨_, cap, rfl, .inr ⟨g, 0, rfl, by omega, fun j hj => by rw [Nat.zero_add]; exact h4 j (by omega)⟩⟩
theorem FrR.congr {B n : Nat} {w : World} {a : Option Addr} {f g : Nat → Int} (h : FrR B w a n f) (e : ∀ j, j < 16 * n → f j = g j) : FrR B w a n g := by
  rcases h with h | ⟨b, off, ha, hg, hc⟩
  · exact .inl h
  · exact .inr ⟨b, off, ha, hg, fun j hj => by rw [← e j hj]; exact hc j hj⟩
set_option maxRecDepth 20000 in
set_option maxHeartbeats 8000000 in
theorem eqFS_any (a1 a2 : Option Addr) (n c1 c2 : Nat) (f : Nat → Int) (B : Nat) (w : World) (hB : B ≤ w.heap.size) (hn : n ≤ 1048576) (h1 : FrR B w a1 n f) (h2 : FrR B w a2 n f) :
    Calls Try.prog 29 #[.slice a1 n c1, .slice a2 n c2] w fun e w' => e = .returned (.bool true) ∧ Below w.heap.size w w' := by
  have hl' : (n : Int) ≤ 1048576 := by omega
  have HP1 := Lib.hid h1
  have HP2 := Lib.hid h2
  clear h1 h2
  go_enter Try.func29, Try.ntmps29
  go_wp2
  go_loopw [5] (fun i wr => ∃ k : Nat, k ≤ n ∧ i = .int .i64 k ∧ Below w.heap.size w wr) (fun i _ => n - (intOf i).toNat)
  case atStart => exact ⟨0, Nat.zero_le _, rfl, Below.refl _ _⟩
  case round =>
    obtain ⟨k, hk, rfl, hb⟩ := hrel
    have HB := Lib.hid hb
    clear hb
    by_cases hlt : k < n
    · obtain ⟨g1, o1, rfl, hg1, hc1⟩ : ∃ g off, a1 = some ⟨g, off, none⟩ ∧ g < B ∧ ∀ j, j < 16 * n → w.cell? ⟨g, off + j, none⟩ = some (.int .u8 (f j)) := by
        rcases HP1.out with h | h
        · omega
        · exact h
      obtain ⟨g2, o2, rfl, hg2, hc2⟩ : ∃ g off, a2 = some ⟨g, off, none⟩ ∧ g < B ∧ ∀ j, j < 16 * n → w.cell? ⟨g, off + j, none⟩ = some (.int .u8 (f j)) := by
        rcases HP2.out with h | h
        · omega
        · exact h
      have tk : (k : Int) < (n : Int) := by omega
      have GC1 : Hid (∀ W, Below wr.heap.size wr W → ∀ j v, (fbl f k)[j]? = some v → W.cell? ⟨g1, o1 + k * 16 + j, none⟩ = some v) := Lib.hid fun W hW j v e => by
        have hj : j < 16 := by
          rcases Nat.lt_or_ge j 16 with h | h
          · exact h
          · rw [Array.getElem?_eq_none (by rw [fbl_size]; exact h)] at e; cases e
        have hs := HB.out.size
        rw [hW.cell (p := ⟨g1, o1 + k * 16 + j, none⟩) (by show g1 < _; omega), HB.out.cell (p := ⟨g1, o1 + k * 16 + j, none⟩) (by show g1 < _; omega), Nat.add_assoc, hc1 (k * 16 + j) (by omega), ← fbl_get f k j hj]
        exact e
      have GC2 : Hid (∀ W, Below wr.heap.size wr W → ∀ j v, (fbl f k)[j]? = some v → W.cell? ⟨g2, o2 + k * 16 + j, none⟩ = some v) := Lib.hid fun W hW j v e => by
        have hj : j < 16 := by
          rcases Nat.lt_or_ge j 16 with h | h
          · exact h
          · rw [Array.getElem?_eq_none (by rw [fbl_size]; exact h)] at e; cases e
        have hs := HB.out.size
        rw [hW.cell (p := ⟨g2, o2 + k * 16 + j, none⟩) (by show g2 < _; omega), HB.out.cell (p := ⟨g2, o2 + k * 16 + j, none⟩) (by show g2 < _; omega), Nat.add_assoc, hc2 (k * 16 + j) (by omega), ← fbl_get f k j hj]
        exact e
      have HK := Lib.hid hlt
      have TB : Hid (∀ w, Calls Try.prog 68 #[.agg (fbl f k), .agg (fbl f k)] w fun e w' => e = .returned (.bool true) ∧ Below w.heap.size w w') := Lib.hid (eqFrame_any _ _ rfl)
      have B18 := Lib.hid (fbl_size f k)
      clear hc1 hc2 hlt hk hg1 hg2 HP1 HP2
      generalize fbl f k = A at GC1 GC2 TB B18
      go_wp2
      refine wp_region_inv (by kernel_rfl) (fun listed act W => listed.size = 10 ∧ Below wr.heap.size wr W ∧ ∃ x0 x1 x2 x3 x4 x5 x6 x7 x8 x9, act = { tmps := #[.slice (some ⟨g1, o1, none⟩) n c1, .slice (some ⟨g2, o2, none⟩) n c2, undef, undef, u4, .int .i64 (k : Int), .slice (some ⟨g1, o1, none⟩) n c1, .int .i64 (n : Int), .slice (some ⟨g2, o2, none⟩) n c2, .int .i64 (n : Int), .bool false, .int .i64 (k : Int), .slice (some ⟨g1, o1, none⟩) n c1, .int .i64 (n : Int), .bool true, u15, u16, x0, x1, x2, x3, x4, x5, x6, x7, x8, x9], defers := [] } ∧ (listed.getD 0 false = true → x0 = .slice (some ⟨g1, o1, none⟩) n c1) ∧ (listed.getD 1 false = true → x1 = .int .i64 (k : Int)) ∧ (listed.getD 2 false = true → x2 = .pointer (some ⟨g1, o1 + k * 16, none⟩)) ∧ (listed.getD 3 false = true → x3 = .agg A) ∧ (listed.getD 4 false = true → x4 = .slice (some ⟨g2, o2, none⟩) n c2) ∧ (listed.getD 5 false = true → x5 = .int .i64 (k : Int)) ∧ (listed.getD 6 false = true → x6 = .pointer (some ⟨g2, o2 + k * 16, none⟩)) ∧ (listed.getD 7 false = true → x7 = .agg A) ∧ (listed.getD 8 false = true → x8 = .bool true) ∧ (listed.getD 9 false = true → x9 = .bool false)) (by kernel_rfl) ?h01 (fun _ _ _ h => h.1) ?hstep1 ?hend1
      case h01 =>
        refine ⟨rfl, (Below.refl _ _).drew, _, _, _, _, _, _, _, _, _, _, rfl, ?_, ?_, ?_, ?_, ?_, ?_, ?_, ?_, ?_, ?_⟩ <;> (intro h; exact absurd h (by decide))
      case hstep1 =>
        rintro listed act W i o ⟨hs, hB, x0, x1, x2, x3, x4, x5, x6, x7, x8, x9, rfl, e0, e1, e2, e3, e4, e5, e6, e7, e8, e9⟩ hun hio hpre
        have HB := Lib.hid hB
        have E0 := Lib.hid e0
        have E1 := Lib.hid e1
        have E2 := Lib.hid e2
        have E3 := Lib.hid e3
        have E4 := Lib.hid e4
        have E5 := Lib.hid e5
        have E6 := Lib.hid e6
        have E7 := Lib.hid e7
        have E8 := Lib.hid e8
        have E9 := Lib.hid e9
        have HS := Lib.hid hs
        have HU := Lib.hid hun
        have PRE := Lib.hid hpre
        clear e0 e1 e2 e3 e4 e5 e6 e7 e8 e9 hs hpre hB hun
        match i, hio with
        | 0, hio =>
          clear hio
          refine wpOp_by rfl fun K HK => ?_
          go_wp2_with (fail)
          exact HK.out _ _ ⟨by rw [Array.size_setIfInBounds, HS.out], HB.out, _, _, _, _, _, _, _, _, _, _, rfl, fun _ => rfl, fun h => E1.out ((listed_set h).resolve_left (by decide)), fun h => E2.out ((listed_set h).resolve_left (by decide)), fun h => E3.out ((listed_set h).resolve_left (by decide)), fun h => E4.out ((listed_set h).resolve_left (by decide)), fun h => E5.out ((listed_set h).resolve_left (by decide)), fun h => E6.out ((listed_set h).resolve_left (by decide)), fun h => E7.out ((listed_set h).resolve_left (by decide)), fun h => E8.out ((listed_set h).resolve_left (by decide)), fun h => E9.out ((listed_set h).resolve_left (by decide))⟩
        | 1, hio =>
          clear hio
          refine wpOp_by rfl fun K HK => ?_
          go_wp2_with (fail)
          exact HK.out _ _ ⟨by rw [Array.size_setIfInBounds, HS.out], HB.out, _, _, _, _, _, _, _, _, _, _, rfl, fun h => E0.out ((listed_set h).resolve_left (by decide)), fun _ => rfl, fun h => E2.out ((listed_set h).resolve_left (by decide)), fun h => E3.out ((listed_set h).resolve_left (by decide)), fun h => E4.out ((listed_set h).resolve_left (by decide)), fun h => E5.out ((listed_set h).resolve_left (by decide)), fun h => E6.out ((listed_set h).resolve_left (by decide)), fun h => E7.out ((listed_set h).resolve_left (by decide)), fun h => E8.out ((listed_set h).resolve_left (by decide)), fun h => E9.out ((listed_set h).resolve_left (by decide))⟩
        | 2, hio =>
          simp only [List.getElem?_toArray, List.getElem?_cons_succ, List.getElem?_cons_zero, Option.some.injEq] at hio
          subst hio
          have p0 := PRE.out ⟨0, .data⟩ (by simp) rfl
          have p1 := PRE.out ⟨1, .data⟩ (by simp) rfl
          obtain rfl := E0.out p0
          obtain rfl := E1.out p1
          refine wpOp_by rfl fun K HK => ?_
          go_wp2_with (fail)
          exact HK.out _ _ ⟨by rw [Array.size_setIfInBounds, HS.out], HB.out, _, _, _, _, _, _, _, _, _, _, rfl, fun _ => rfl, fun _ => rfl, fun _ => rfl, fun h => E3.out ((listed_set h).resolve_left (by decide)), fun h => E4.out ((listed_set h).resolve_left (by decide)), fun h => E5.out ((listed_set h).resolve_left (by decide)), fun h => E6.out ((listed_set h).resolve_left (by decide)), fun h => E7.out ((listed_set h).resolve_left (by decide)), fun h => E8.out ((listed_set h).resolve_left (by decide)), fun h => E9.out ((listed_set h).resolve_left (by decide))⟩
        | 3, hio =>
          simp only [List.getElem?_toArray, List.getElem?_cons_succ, List.getElem?_cons_zero, Option.some.injEq] at hio
          subst hio
          have p2 := PRE.out ⟨2, .data⟩ (by simp) rfl
          obtain rfl := E2.out p2
          refine wpOp_by rfl fun K HK => ?_
          go_wp2_with (refine wpList_load_part rfl 93 _ rfl g1 (o1 + k * 16) rfl A _ (fun j v e => GC1.out W HB.out j v e) Try.underlying93 rfl (fr_info _ B18.out) ?_)
          exact HK.out _ _ ⟨by rw [Array.size_setIfInBounds, HS.out], HB.out, _, _, _, _, _, _, _, _, _, _, rfl, fun h => E0.out ((listed_set h).resolve_left (by decide)), fun h => E1.out ((listed_set h).resolve_left (by decide)), fun _ => rfl, fun _ => rfl, fun h => E4.out ((listed_set h).resolve_left (by decide)), fun h => E5.out ((listed_set h).resolve_left (by decide)), fun h => E6.out ((listed_set h).resolve_left (by decide)), fun h => E7.out ((listed_set h).resolve_left (by decide)), fun h => E8.out ((listed_set h).resolve_left (by decide)), fun h => E9.out ((listed_set h).resolve_left (by decide))⟩
        | 4, hio =>
          clear hio
          refine wpOp_by rfl fun K HK => ?_
          go_wp2_with (fail)
          exact HK.out _ _ ⟨by rw [Array.size_setIfInBounds, HS.out], HB.out, _, _, _, _, _, _, _, _, _, _, rfl, fun h => E0.out ((listed_set h).resolve_left (by decide)), fun h => E1.out ((listed_set h).resolve_left (by decide)), fun h => E2.out ((listed_set h).resolve_left (by decide)), fun h => E3.out ((listed_set h).resolve_left (by decide)), fun _ => rfl, fun h => E5.out ((listed_set h).resolve_left (by decide)), fun h => E6.out ((listed_set h).resolve_left (by decide)), fun h => E7.out ((listed_set h).resolve_left (by decide)), fun h => E8.out ((listed_set h).resolve_left (by decide)), fun h => E9.out ((listed_set h).resolve_left (by decide))⟩
        | 5, hio =>
          clear hio
          refine wpOp_by rfl fun K HK => ?_
          go_wp2_with (fail)
          exact HK.out _ _ ⟨by rw [Array.size_setIfInBounds, HS.out], HB.out, _, _, _, _, _, _, _, _, _, _, rfl, fun h => E0.out ((listed_set h).resolve_left (by decide)), fun h => E1.out ((listed_set h).resolve_left (by decide)), fun h => E2.out ((listed_set h).resolve_left (by decide)), fun h => E3.out ((listed_set h).resolve_left (by decide)), fun h => E4.out ((listed_set h).resolve_left (by decide)), fun _ => rfl, fun h => E6.out ((listed_set h).resolve_left (by decide)), fun h => E7.out ((listed_set h).resolve_left (by decide)), fun h => E8.out ((listed_set h).resolve_left (by decide)), fun h => E9.out ((listed_set h).resolve_left (by decide))⟩
        | 6, hio =>
          simp only [List.getElem?_toArray, List.getElem?_cons_succ, List.getElem?_cons_zero, Option.some.injEq] at hio
          subst hio
          have p4 := PRE.out ⟨4, .data⟩ (by simp) rfl
          have p5 := PRE.out ⟨5, .data⟩ (by simp) rfl
          obtain rfl := E4.out p4
          obtain rfl := E5.out p5
          refine wpOp_by rfl fun K HK => ?_
          go_wp2_with (fail)
          exact HK.out _ _ ⟨by rw [Array.size_setIfInBounds, HS.out], HB.out, _, _, _, _, _, _, _, _, _, _, rfl, fun h => E0.out ((listed_set h).resolve_left (by decide)), fun h => E1.out ((listed_set h).resolve_left (by decide)), fun h => E2.out ((listed_set h).resolve_left (by decide)), fun h => E3.out ((listed_set h).resolve_left (by decide)), fun _ => rfl, fun _ => rfl, fun _ => rfl, fun h => E7.out ((listed_set h).resolve_left (by decide)), fun h => E8.out ((listed_set h).resolve_left (by decide)), fun h => E9.out ((listed_set h).resolve_left (by decide))⟩
        | 7, hio =>
          simp only [List.getElem?_toArray, List.getElem?_cons_succ, List.getElem?_cons_zero, Option.some.injEq] at hio
          subst hio
          have p6 := PRE.out ⟨6, .data⟩ (by simp) rfl
          obtain rfl := E6.out p6
          refine wpOp_by rfl fun K HK => ?_
          go_wp2_with (refine wpList_load_part rfl 93 _ rfl g2 (o2 + k * 16) rfl A _ (fun j v e => GC2.out W HB.out j v e) Try.underlying93 rfl (fr_info _ B18.out) ?_)
          exact HK.out _ _ ⟨by rw [Array.size_setIfInBounds, HS.out], HB.out, _, _, _, _, _, _, _, _, _, _, rfl, fun h => E0.out ((listed_set h).resolve_left (by decide)), fun h => E1.out ((listed_set h).resolve_left (by decide)), fun h => E2.out ((listed_set h).resolve_left (by decide)), fun h => E3.out ((listed_set h).resolve_left (by decide)), fun h => E4.out ((listed_set h).resolve_left (by decide)), fun h => E5.out ((listed_set h).resolve_left (by decide)), fun _ => rfl, fun _ => rfl, fun h => E8.out ((listed_set h).resolve_left (by decide)), fun h => E9.out ((listed_set h).resolve_left (by decide))⟩
        | 8, hio =>
          simp only [List.getElem?_toArray, List.getElem?_cons_succ, List.getElem?_cons_zero, Option.some.injEq] at hio
          subst hio
          have p3 := PRE.out ⟨3, .data⟩ (by simp) rfl
          have p7 := PRE.out ⟨7, .data⟩ (by simp) rfl
          obtain rfl := E3.out p3
          obtain rfl := E7.out p7
          refine wpOp_by rfl fun K HK => ?_
          go_wp2_with fail
          refine (TB.out _).mono ?_
          rintro e W' ⟨rfl, hb⟩
          go_wp2
          exact HK.out _ _ ⟨by rw [Array.size_setIfInBounds, HS.out], HB.out.trans (hb.mono HB.out.size), _, _, _, _, _, _, _, _, _, _, rfl, fun h => E0.out ((listed_set h).resolve_left (by decide)), fun h => E1.out ((listed_set h).resolve_left (by decide)), fun h => E2.out ((listed_set h).resolve_left (by decide)), fun _ => rfl, fun h => E4.out ((listed_set h).resolve_left (by decide)), fun h => E5.out ((listed_set h).resolve_left (by decide)), fun h => E6.out ((listed_set h).resolve_left (by decide)), fun _ => rfl, fun _ => rfl, fun h => E9.out ((listed_set h).resolve_left (by decide))⟩
        | 9, hio =>
          simp only [List.getElem?_toArray, List.getElem?_cons_succ, List.getElem?_cons_zero, Option.some.injEq] at hio
          subst hio
          have p8 := PRE.out ⟨8, .data⟩ (by simp) rfl
          obtain rfl := E8.out p8
          refine wpOp_by rfl fun K HK => ?_
          go_wp2_with (fail)
          exact HK.out _ _ ⟨by rw [Array.size_setIfInBounds, HS.out], HB.out, _, _, _, _, _, _, _, _, _, _, rfl, fun h => E0.out ((listed_set h).resolve_left (by decide)), fun h => E1.out ((listed_set h).resolve_left (by decide)), fun h => E2.out ((listed_set h).resolve_left (by decide)), fun h => E3.out ((listed_set h).resolve_left (by decide)), fun h => E4.out ((listed_set h).resolve_left (by decide)), fun h => E5.out ((listed_set h).resolve_left (by decide)), fun h => E6.out ((listed_set h).resolve_left (by decide)), fun h => E7.out ((listed_set h).resolve_left (by decide)), fun _ => rfl, fun _ => rfl⟩
        | k + 10, hio => simp at hio
      case hend1 =>
        rintro listed act W1 ⟨hs, hB, x0, x1, x2, x3, x4, x5, x6, x7, x8, x9, rfl, e0, e1, e2, e3, e4, e5, e6, e7, e8, e9⟩ hall
        obtain rfl := e0 (hall 0 (by decide))
        obtain rfl := e1 (hall 1 (by decide))
        obtain rfl := e2 (hall 2 (by decide))
        obtain rfl := e3 (hall 3 (by decide))
        obtain rfl := e4 (hall 4 (by decide))
        obtain rfl := e5 (hall 5 (by decide))
        obtain rfl := e6 (hall 6 (by decide))
        obtain rfl := e7 (hall 7 (by decide))
        obtain rfl := e8 (hall 8 (by decide))
        obtain rfl := e9 (hall 9 (by decide))
        clear hs hall 
        have HB1 := Lib.hid (HB.out.trans (hB.mono HB.out.size))
        clear hB
        go_wp2
        go_roundw
        case rel => exact ⟨k + 1, HK.out, by go_num, HB1.out⟩
        case measure => have := HK.out; simp [intOf]; omega
    · obtain rfl : k = n := by omega
      go_wp2
      go_ret
      exact ⟨rfl, HB.out⟩

theorem eqF_any {lo hi lo' hi' n : Nat} {v v' : Value} {f g : Nat → Int} {w : World} (hf : ∀ j, j < 16 * n → f j = g j) (hn : n ≤ 1048576) (h : PR 16 lo hi w v n (FF f)) (h' : PR 16 lo' hi' w v' n (FF g)) :
    Calls Try.prog 29 #[v, v'] w fun e w' => e = .returned (.bool true) ∧ Below w.heap.size w w' := by
  obtain ⟨a, c, rfl, h0⟩ := h.fr
  obtain ⟨a', c', rfl, h0'⟩ := h'.fr
  exact eqFS_any a a' n c c' g w.heap.size w (Nat.le_refl _) hn (h0.congr hf) h0'
theorem fcell_set {w : World} {g i j : Nat} {v u : Value} (h : w.cell? ⟨g, j, none⟩ = some u) : (w.setCell ⟨g, i, none⟩ v).cell? ⟨g, j, none⟩ = some (if i = j then v else u) := by
  unfold World.cell? at h ⊢
  simp only [World.setCell, Array.getElem?_modify, ↓reduceIte]
  cases hh : w.heap[g]? with
  | none => simp [hh] at h
  | some o =>
    rw [hh] at h
    cases o with
    | cells c t fr =>
      simp only [Option.map_some] at h ⊢
      have hlt : j < c.size := by
        simp at h
        exact (Array.getElem?_eq_some_iff.1 h).1
      by_cases hij : i = j
      · subst hij; simp [Array.getElem?_setIfInBounds, hlt]
      · simp at h; simp [Array.getElem?_setIfInBounds, hij, h]
    | _ => simp at h
def markU : Nat → Value := fun j => .int .u8 (((1 + j : Nat) : Int) % 256)
/-- only block g has turned -/
def FOnl (g : Nat) (w w' : World) : Prop := w'.os = w.os ∧ w'.tape = w.tape ∧ w'.output = w.output ∧ w'.heap.size = w.heap.size ∧ ∀ k, k ≠ g → w'.heap[k]? = w.heap[k]?
theorem FOnl.refl (g : Nat) (w : World) : FOnl g w w := ⟨rfl, rfl, rfl, rfl, fun _ _ => rfl⟩
theorem FOnl.put {g i : Nat} {w w' : World} {v : Value} (h : FOnl g w w') : FOnl g w (w'.setCell ⟨g, i, none⟩ v) :=
  ⟨h.1, h.2.1, h.2.2.1, by simp [h.2.2.2.1], fun k hk => by rw [← h.2.2.2.2 k hk]; exact Below.heap_setCell _ _ _ k hk⟩
theorem FOnl.onl {g lo hi : Nat} {w w' : World} (h : FOnl g w w') (h1 : lo ≤ g) (h2 : g < hi) : OnlIn lo hi w w' := ⟨h.1, h.2.1, h.2.2.1, h.2.2.2.1, fun k hk => h.2.2.2.2 k (by omega)⟩
/-- the first m of N cells of a block are marks; all N can be written -/
def FMk (g N m : Nat) (w : World) : Prop := (∀ j, j < m → w.cell? ⟨g, j, none⟩ = some (markU j)) ∧ ∀ j, j < N → (∃ x, w.cell? ⟨g, j, none⟩ = some (.int .u8 x)) ∧ w.frozen? ⟨g, j, none⟩ = false
theorem FMk.put {g N m : Nat} {w : World} (h : FMk g N m w) (hm : m < N) : FMk g N (m + 1) (w.setCell ⟨g, m, none⟩ (markU m)) := by
  refine ⟨fun j hj => ?_, fun j hj => ⟨?_, ?_⟩⟩
  · obtain ⟨x, hx⟩ := (h.2 j (by omega)).1
    rw [fcell_set hx]
    by_cases e : m = j
    · subst e; simp
    · rw [if_neg e, ← hx]; exact h.1 j (by omega)
  · obtain ⟨x, hx⟩ := (h.2 j hj).1
    rw [fcell_set hx]
    by_cases e : m = j
    · exact ⟨_, by rw [if_pos e]; rfl⟩
    · exact ⟨x, by rw [if_neg e]⟩
  · rw [World.frozen?_setCell]; exact (h.2 j hj).2
set_option maxHeartbeats 2000000 in
theorem markFS_any (g cap n : Nat) (hn : n ≤ 1048576) (w : World) (ho : FMk g (16 * n) 0 w) :
    Calls Try.prog 30 #[.slice (some ⟨g, 0, none⟩) n cap, .int .i64 1] w fun e w' => e = .returned (.int .i64 ((1 + 16 * n : Nat) : Int)) ∧ FMk g (16 * n) (16 * n) w' ∧ FOnl g w w' := by
  have HO := Lib.hid ho
  have hn' : (n : Int) ≤ 1048576 := by omega
  clear ho
  go_enter Try.func30, Try.ntmps30
  go_wp2
  go_loopw [1, 5, 6] (fun q i _ wr => ∃ k : Nat, k ≤ n ∧ i = .int .i64 k ∧ q = .int .i64 ((1 + 16 * k : Nat) : Int) ∧ FMk g (16 * n) (16 * k) wr ∧ FOnl g w wr) (fun _ i _ _ => n - (intOf i).toNat)
  case atStart => exact ⟨0, Nat.zero_le _, rfl, rfl, HO.out, FOnl.refl _ _⟩
  case round =>
    obtain ⟨k, hk, rfl, rfl, hm, hb⟩ := hrel
    have HM := Lib.hid hm
    have HB := Lib.hid hb
    clear hm hb
    by_cases hlt : k < n
    · have hlt' : (k : Int) < n := by omega
      have HK := Lib.hid hlt
      clear hlt hk
      go_wp2
      go_loopw [1, 6] (fun q i wx => ∃ j : Nat, j ≤ 16 ∧ i = .int .i64 (j : Int) ∧ q = .int .i64 ((1 + (16 * k + j) : Nat) : Int) ∧ FMk g (16 * n) (16 * k + j) wx ∧ FOnl g w wx) (fun _ i _ => 16 - (intOf i).toNat)
      case atStart => exact ⟨0, by omega, rfl, rfl, HM.out, HB.out⟩
      case round =>
        obtain ⟨j, hj, rfl, rfl, hm, hb⟩ := hrel
        have HM2 := Lib.hid hm
        have HB2 := Lib.hid hb
        clear hm hb
        by_cases hjl : j < 16
        · have hjl' : (j : Int) < 16 := by omega
          have HJ := Lib.hid hjl
          obtain ⟨x, hx⟩ := (HM2.out.2 (16 * k + j) (by have := HK.out; omega)).1
          have hf := (HM2.out.2 (16 * k + j) (by have := HK.out; omega)).2
          have HP := Lib.hid (HM2.out.put (by have := HK.out; omega))
          have hx' : wr.cell? ⟨g, k * 16 + j, none⟩ = some (.int .u8 x) := by rw [Nat.mul_comm]; exact hx
          have hf' : wr.frozen? ⟨g, k * 16 + j, none⟩ = false := by rw [Nat.mul_comm]; exact hf
          have HE : Hid (wr.setCell ⟨g, 16 * k + j, none⟩ (markU (16 * k + j)) = wr.setCell ⟨g, k * 16 + j, none⟩ (.int .u8 (((1 + (16 * k + j) : Nat) : Int) % 256))) := Lib.hid (by rw [Nat.mul_comm 16 k]; rfl)
          rw [HE.out] at HP
          clear hx hf hjl hj HE
          obtain ⟨z, hz⟩ : ∃ z : Nat, 1 + (16 * k + j) = z := ⟨_, rfl⟩
          have HZ := Lib.hid hz
          rw [hz] at HP ⊢
          have hzl : (z : Int) ≤ 20000000 := by have := HK.out; omega
          clear hz
          go_wp2
          go_roundw
          case rel => exact ⟨j + 1, HJ.out, by go_num, by rw [← HZ.out]; go_num, HP.out, HB2.out.put⟩
          case measure => have := HJ.out; simp [intOf]; omega
        · obtain rfl : j = 16 := by omega
          clear hjl hj
          go_wp2
          go_roundw
          case rel => exact ⟨k + 1, HK.out, by go_num, by rw [show 1 + (16 * k + 16) = 1 + 16 * (k + 1) by omega], HM2.out, HB2.out⟩
          case measure => have := HK.out; simp [intOf]; omega
    · obtain rfl : k = n := by omega
      go_wp2
      go_ret
      exact ⟨rfl, HM.out, HB.out⟩
set_option maxHeartbeats 2000000 in
theorem heldFS_any (g cap n : Nat) (hn : n ≤ 1048576) (w : World) (ho : ∀ j, j < 16 * n → w.cell? ⟨g, j, none⟩ = some (markU j)) :
    Calls Try.prog 45 #[.slice (some ⟨g, 0, none⟩) n cap, .int .i64 1] w fun e w' => e = .returned (.int .i64 ((1 + 16 * n : Nat) : Int)) ∧ w = w' := by
  have HO := Lib.hid ho
  have hn' : (n : Int) ≤ 1048576 := by omega
  clear ho
  go_enter Try.func45, Try.ntmps45
  go_wp2
  go_loop [1, 5, 6] (fun q i _ => ∃ k : Nat, k ≤ n ∧ i = .int .i64 k ∧ q = .int .i64 ((1 + 16 * k : Nat) : Int)) (fun _ i _ => n - (intOf i).toNat)
  case atStart => exact ⟨0, Nat.zero_le _, rfl, rfl⟩
  case round =>
    obtain ⟨k, hk, rfl, rfl⟩ := hrel
    by_cases hlt : k < n
    · have hlt' : (k : Int) < n := by omega
      have HK := Lib.hid hlt
      clear hlt hk
      go_wp2
      go_loop [1, 6] (fun q i => ∃ j : Nat, j ≤ 16 ∧ i = .int .i64 (j : Int) ∧ q = .int .i64 ((1 + (16 * k + j) : Nat) : Int)) (fun _ i => 16 - (intOf i).toNat)
      case atStart => exact ⟨0, by omega, rfl, rfl⟩
      case round =>
        obtain ⟨j, hj, rfl, rfl⟩ := hrel
        by_cases hjl : j < 16
        · have hjl' : (j : Int) < 16 := by omega
          have HJ := Lib.hid hjl
          have hx : w.cell? ⟨g, k * 16 + j, none⟩ = some (.int .u8 (((1 + (16 * k + j) : Nat) : Int) % 256)) := by
            rw [Nat.mul_comm]; exact HO.out (16 * k + j) (by have := HK.out; omega)
          obtain ⟨z, hz⟩ : ∃ z : Nat, 1 + (16 * k + j) = z := ⟨_, rfl⟩
          have HZ := Lib.hid hz
          rw [hz] at hx ⊢
          have hzl : (z : Int) ≤ 20000000 := by have := HK.out; omega
          clear hz hjl hj
          go_wp2
          go_round
          case rel => exact ⟨j + 1, HJ.out, by go_num, by rw [← HZ.out]; go_num⟩
          case measure => have := HJ.out; simp [intOf]; omega
        · obtain rfl : j = 16 := by omega
          clear hjl hj
          go_wp2
          go_round
          case rel => exact ⟨k + 1, HK.out, by go_num, by rw [show 1 + (16 * k + 16) = 1 + 16 * (k + 1) by omega]⟩
          case measure => have := HK.out; simp [intOf]; omega
    · obtain rfl : k = n := by omega
      go_wp2
      go_ret
      exact ⟨rfl, rfl⟩
theorem markFNone_any (x : Option Addr) (c : Nat) (w : World) :
    Calls Try.prog 30 #[.slice x 0 c, .int .i64 1] w fun e w' => e = .returned (.int .i64 1) ∧ w = w' := by
  go_enter Try.func30, Try.ntmps30
  go_wp2
  refine wp_loop_rounds 1 ?_
  rw [rounds_succ]
  go_wp2
  go_ret
  exact ⟨rfl, rfl⟩
theorem heldFNone_any (x : Option Addr) (c : Nat) (w : World) :
    Calls Try.prog 45 #[.slice x 0 c, .int .i64 1] w fun e w' => e = .returned (.int .i64 1) ∧ w = w' := by
  go_enter Try.func45, Try.ntmps45
  go_wp2
  refine wp_loop_rounds 1 ?_
  rw [rounds_succ]
  go_wp2
  go_ret
  exact ⟨rfl, rfl⟩
theorem markF_any {lo hi n : Nat} {v : Value} {f : Nat → Int} {w : World} (hn : n ≤ 1048576) (h : PR 16 lo hi w v n (FF f)) :
    Calls Try.prog 30 #[v, .int .i64 1] w fun e w' => e = .returned (.int .i64 ((1 + 16 * n : Nat) : Int)) ∧ PR 16 lo hi w' v n markU ∧ OnlIn lo hi w w' := by
  obtain ⟨a, c, rfl, h0⟩ := h
  rcases h0 with rfl | ⟨g, rfl, h1, h2, h3, h4, h5⟩
  · exact (markFNone_any a c w).mono fun e w' h => ⟨h.1, ⟨a, c, rfl, .inl rfl⟩, by rw [← h.2]; exact OnlIn.refl _ _ _⟩
  · refine (markFS_any g c n hn w ⟨fun j hj => absurd hj (by omega), fun j hj => ⟨⟨f j, h4 j (by omega)⟩, h5 j (by omega)⟩⟩).mono ?_
    rintro e w' ⟨he, hm, ho⟩
    exact ⟨he, ⟨_, c, rfl, .inr ⟨g, rfl, h1, h2, by rw [ho.2.2.2.1]; exact h3, fun j hj => hm.1 j (by omega), fun j hj => (hm.2 j (by omega)).2⟩⟩, ho.onl h1 h2⟩
theorem heldF_any {lo hi n : Nat} {v : Value} {w : World} (hn : n ≤ 1048576) (h : PR 16 lo hi w v n markU) :
    Calls Try.prog 45 #[v, .int .i64 1] w fun e w' => e = .returned (.int .i64 ((1 + 16 * n : Nat) : Int)) ∧ w = w' := by
  obtain ⟨a, c, rfl, h0⟩ := h
  rcases h0 with rfl | ⟨g, rfl, h1, h2, h3, h4, h5⟩
  · exact (heldFNone_any a c w).mono fun e w' h => ⟨h.1, h.2⟩
  · exact heldFS_any g c n hn w fun j hj => h4 j (by omega)
end Go.Proofs.Ytkijgadkgfapgaa
