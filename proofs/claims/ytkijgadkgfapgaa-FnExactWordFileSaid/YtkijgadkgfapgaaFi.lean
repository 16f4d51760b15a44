/-
  CONTRACTS: CheckOf of both sides.
-/
import Derived.Test.YtkijgadkgfapgaaFk
import Derived.Test.YtkijgadkgfapgaaRi
namespace Go.Proofs.Ytkijgadkgfapgaa
open Go.ChangeShapes Go.WideShapes Go.ChangeAt Go.RowKit
/-- is it an index of a frame? -/
def inX (i : Int) : Bool := decide (0 ≤ i) && decide (i ≤ 699)
theorem inX_nat {i : Int} (h : inX i = true) : ∃ n : Nat, i = n ∧ n ≤ 699 := by
  simp [inX] at h
  exact ⟨i.toNat, by omega, by omega⟩
def chkN (i : Int) (p : Nat → Int) : Nat := if inX i then chk i.toNat p else 0
def codeX (i : Int) : Int := if inX i then 0 else 2
theorem not_listed {listed : Array Bool} {i : Nat} (h : listed.getD i true = false) : ¬ listed.getD i false = true := by
  intro h2
  rw [Array.getD_eq_getD_getElem?] at h h2
  cases hx : listed[i]? with
  | none => simp [hx] at h
  | some b => simp [hx] at h h2; rw [h] at h2; cases h2
theorem appendWord_nil (r base : Nat) (w : World) (hb : base ≤ w.heap.size) :
    Calls Try.prog 86 #[.slice none 0 0, .int .u32 (r : Int)] w fun e w' => ∃ v', e = .returned v' ∧ OwnU base v' 4 (byW r) w' ∧ Below base w w' :=
  (appendWord_own (.slice none 0 0) 0 (byW r) base r w (by omega) hb (OwnU.nil _ _ _)).mono fun e w' ⟨v, h1, h2, h3⟩ => ⟨v, h1, h2.congr fun j _ => by unfold catU; rw [if_neg (by omega), Nat.sub_zero], h3⟩
set_option maxRecDepth 8000 in
set_option maxHeartbeats 4000000 in
theorem iCheckOf_any (i : Int) (p : Nat → Int) (hp : ByF 12 p) (w : World) :
    Calls Try.prog 132 #[.int .i64 i, .agg (Q12 p)] w fun e w' => e = .returned (.tuple #[.int .u32 (chkN i p : Int), .int .i64 (codeX i)]) ∧ Below w.heap.size w w' := by
  have B0 : Hid (Below w.heap.size w (w.alloc (.cells (Q12 p) 141))) := Lib.hid ((Below.refl _ _).alloc (Nat.le_refl _) _)
  cases h : inX i
  · have H1 : Hid (chkN i p = 0) := Lib.hid (by unfold chkN; rw [h]; exact if_neg (by decide))
    have H2 : Hid (codeX i = 2) := Lib.hid (by unfold codeX; rw [h]; exact if_neg (by decide))
    rw [H1.out, H2.out]
    by_cases h0 : i < 0
    · clear h hp
      go_enter Try.func132, Try.ntmps132
      go_wp2
      go_ret2
      exact ⟨rfl, B0.out⟩
    · have h1 : 700 ≤ i := by simp [inX] at h; omega
      have h0' : 0 ≤ i := by omega
      clear h hp h0
      go_enter Try.func132, Try.ntmps132
      go_wp2
      go_ret2
      exact ⟨rfl, B0.out⟩
  · obtain ⟨n, rfl, hn⟩ := inX_nat h
    have H1 : Hid (chkN n p = chk n p) := Lib.hid (by unfold chkN; rw [if_pos h, Int.toNat_natCast])
    have H2 : Hid (codeX n = 0) := Lib.hid (by unfold codeX; rw [if_pos h])
    rw [H1.out, H2.out]
    clear B0 H1 H2 h
    obtain ⟨w1, hw1⟩ : ∃ w1, w.alloc (.cells (Q12 p) 141) = w1 := ⟨_, rfl⟩
    have B0 : Hid (Below w.heap.size w w1) := Lib.hid (by rw [← hw1]; exact (Below.refl _ _).alloc (Nat.le_refl _) _)
    have S0 : Hid (w1.heap[w.heap.size]? = some (.cells (Q12 p) 141 (0, 0))) := Lib.hid (by rw [← hw1]; exact World.alloc_heap_new w _)
    have Z1 : Hid (w1.heap.size = w.heap.size + 1) := Lib.hid (by rw [← hw1]; simp)
    have AW := Lib.hid (fun r W h => appendWord_nil r w1.heap.size W h)
    obtain ⟨q, hq⟩ : ∃ q, catU (byW n) 4 p = q := ⟨_, rfl⟩
    have QQ : Hid (∀ j, catU (byW n) 4 p j = q j) := Lib.hid fun j => by rw [hq]
    have CK : Hid (ckF q 16 = (chk n p : Int)) := Lib.hid (by rw [← hq]; exact chk_int n p)
    clear hp hq
    have hn' : (n : Int) ≤ 699 := by omega
    have hn0 : (0 : Int) ≤ (n : Int) := by omega
    clear hn
    go_enter Try.func132, Try.ntmps132
    go_wp2_with fail
    clear hw1
    refine wp_region_inv (by kernel_rfl) (fun listed act W => listed.size = 7 ∧ Below w1.heap.size w1 W ∧ ∃ x0 x1 x2 x3 x4 x5 x6, act = { tmps := #[.int .i64 (n : Int), .agg (Q12 p), undef, .pointer (some ⟨w.heap.size, 0, none⟩), .int .u32 0, .int .i64 0, .int .u32 2166136261, undef, undef, .int .i64 (n : Int), .bool (decide ((n : Int) < 0)), .bool (decide ((n : Int) < 0)), .int .i64 (n : Int), .bool (decide ((700 : Int) ≤ (n : Int))), .bool (decide ((n : Int) < 0) || decide ((700 : Int) ≤ (n : Int))), x0, x1, x2, x3, x4, x5, x6, undef, undef, undef, undef, undef, undef, undef, undef, undef, undef], defers := [] } ∧ (listed.getD 0 false = true → x0 = .int .i64 (n : Int)) ∧ (listed.getD 1 false = true → x1 = .int .u32 (n : Int)) ∧ (listed.getD 2 false = true → (listed.getD 4 false = true ∨ OwnU w1.heap.size x2 4 (byW n) W)) ∧ (listed.getD 3 false = true → x3 = .slice (some ⟨w.heap.size, 0, none⟩) 12 12) ∧ (listed.getD 4 false = true → (listed.getD 2 false = true ∧ ∃ g cap, x4 = .slice (some ⟨g, 0, none⟩) 16 cap ∧ w1.heap.size ≤ g ∧ ∀ j, j < 16 → W.cell? ⟨g, j, none⟩ = some (.int .u8 (q j)))) ∧ (listed.getD 5 false = true → x5 = .int .i64 16) ∧ (listed.getD 6 false = true → x6 = .int .i64 0)) (by kernel_rfl) ?h01 (fun _ _ _ h => h.1) ?hstep1 ?hend1
    case h01 =>
      refine ⟨rfl, (Below.refl _ _).drew, _, _, _, _, _, _, _, rfl, ?_, ?_, ?_, ?_, ?_, ?_, ?_⟩ <;> (intro h; exact absurd h (by decide))
    case hstep1 =>
      rintro listed act W i o ⟨hs, hB, x0, x1, x2, x3, x4, x5, x6, rfl, e0, e1, e2, e3, e4, e5, e6⟩ hun hio hpre
      have HB := Lib.hid hB
      have E0 := Lib.hid e0
      have E1 := Lib.hid e1
      have E2 := Lib.hid e2
      have E3 := Lib.hid e3
      have E4 := Lib.hid e4
      have E5 := Lib.hid e5
      have E6 := Lib.hid e6
      have HS := Lib.hid hs
      have HU := Lib.hid hun
      have PRE := Lib.hid hpre
      clear e0 e1 e2 e3 e4 e5 e6 hs hpre hB hun
      match i, hio with
      | 0, hio =>
        clear hio
        refine wpOp_by rfl fun K HK => ?_
        go_wp2_with (fail)
        exact HK.out _ _ ⟨by rw [Array.size_setIfInBounds, HS.out], HB.out, _, _, _, _, _, _, _, rfl, fun _ => rfl, fun h => E1.out ((listed_set h).resolve_left (by decide)), fun h => (E2.out ((listed_set h).resolve_left (by decide))).imp listed_keep id, fun h => E3.out ((listed_set h).resolve_left (by decide)), fun h => ⟨listed_keep (E4.out ((listed_set h).resolve_left (by decide))).1, (E4.out ((listed_set h).resolve_left (by decide))).2⟩, fun h => E5.out ((listed_set h).resolve_left (by decide)), fun h => E6.out ((listed_set h).resolve_left (by decide))⟩
      | 1, hio =>
        simp only [List.getElem?_toArray, List.getElem?_cons_succ, List.getElem?_cons_zero, Option.some.injEq] at hio
        subst hio
        have p0 := PRE.out ⟨0, .data⟩ (by simp) rfl
        obtain rfl := E0.out p0
        refine wpOp_by rfl fun K HK => ?_
        go_wp2_with (fail)
        exact HK.out _ _ ⟨by rw [Array.size_setIfInBounds, HS.out], HB.out, _, _, _, _, _, _, _, rfl, fun _ => rfl, fun _ => rfl, fun h => (E2.out ((listed_set h).resolve_left (by decide))).imp listed_keep id, fun h => E3.out ((listed_set h).resolve_left (by decide)), fun h => ⟨listed_keep (E4.out ((listed_set h).resolve_left (by decide))).1, (E4.out ((listed_set h).resolve_left (by decide))).2⟩, fun h => E5.out ((listed_set h).resolve_left (by decide)), fun h => E6.out ((listed_set h).resolve_left (by decide))⟩
      | 2, hio =>
        simp only [List.getElem?_toArray, List.getElem?_cons_succ, List.getElem?_cons_zero, Option.some.injEq] at hio
        subst hio
        have p1 := PRE.out ⟨1, .data⟩ (by simp) rfl
        obtain rfl := E1.out p1
        refine wpOp_by rfl fun K HK => ?_
        go_wp2_with fail
        refine Calls.mono (AW.out n W HB.out.size) ?_
        rintro e W' ⟨v2, rfl, h2, hb⟩
        have H2 := Lib.hid h2
        have HBB := Lib.hid hb
        clear h2 hb
        go_wp2
        exact HK.out _ _ ⟨by rw [Array.size_setIfInBounds, HS.out], HB.out.trans HBB.out, _, _, _, _, _, _, _, rfl, fun h => E0.out ((listed_set h).resolve_left (by decide)), fun _ => rfl, fun _ => .inr H2.out, fun h => E3.out ((listed_set h).resolve_left (by decide)), fun h => absurd (E4.out ((listed_set h).resolve_left (by decide))).1 (not_listed HU.out), fun h => E5.out ((listed_set h).resolve_left (by decide)), fun h => E6.out ((listed_set h).resolve_left (by decide))⟩
      | 3, hio =>
        clear hio
        refine wpOp_by rfl fun K HK => ?_
        go_wp2_with (fail)
        exact HK.out _ _ ⟨by rw [Array.size_setIfInBounds, HS.out], HB.out, _, _, _, _, _, _, _, rfl, fun h => E0.out ((listed_set h).resolve_left (by decide)), fun h => E1.out ((listed_set h).resolve_left (by decide)), fun h => (E2.out ((listed_set h).resolve_left (by decide))).imp listed_keep id, fun _ => rfl, fun h => ⟨listed_keep (E4.out ((listed_set h).resolve_left (by decide))).1, (E4.out ((listed_set h).resolve_left (by decide))).2⟩, fun h => E5.out ((listed_set h).resolve_left (by decide)), fun h => E6.out ((listed_set h).resolve_left (by decide))⟩
      | 4, hio =>
        simp only [List.getElem?_toArray, List.getElem?_cons_succ, List.getElem?_cons_zero, Option.some.injEq] at hio
        subst hio
        have p2 := PRE.out ⟨2, .data⟩ (by simp) rfl
        have p3 := PRE.out ⟨3, .data⟩ (by simp) rfl
        obtain rfl := E3.out p3
        have O2 := Lib.hid ((E2.out p2).resolve_left (not_listed HU.out))
        have P2 := Lib.hid p2
        clear p2
        refine wpOp_by rfl fun K HK => ?_
        refine wpList_append_u rfl (.tmp 17) (.tmp 18) rfl w1.heap.size _ 4 (byW n) rfl O2.out w.heap.size 0 12 12 p rfl (fun j hj => by rw [Nat.zero_add, HB.out.cell (p := ⟨w.heap.size, j, none⟩) (by show w.heap.size < _; have := Z1.out; omega)]; exact (Lib.cell_of_heap S0.out j).trans (arr_get _ _ _ _ hj)) (by omega) HB.out.size w1 HB.out ?_
        intro v4 W4 h1 h2
        have H4 := Lib.hid h1
        have HB4 := Lib.hid h2
        clear h1 h2
        go_wp2_with (fail)
        have F4 := Lib.hid (H4.out.form (by omega))
        exact HK.out _ _ ⟨by rw [Array.size_setIfInBounds, HS.out], HB4.out, _, _, _, _, _, _, _, rfl, fun h => E0.out ((listed_set h).resolve_left (by decide)), fun h => E1.out ((listed_set h).resolve_left (by decide)), fun _ => .inl (listed_new (by rw [HS.out]; decide)), fun _ => rfl, fun _ => ⟨listed_keep P2.out, by obtain ⟨g, cap, e1, e2, e3, e4, e5⟩ := F4.out; exact ⟨g, cap, e1, e3, fun j hj => by rw [e5 j hj, QQ.out]⟩⟩, fun h => E5.out ((listed_set h).resolve_left (by decide)), fun h => E6.out ((listed_set h).resolve_left (by decide))⟩
      | 5, hio =>
        simp only [List.getElem?_toArray, List.getElem?_cons_succ, List.getElem?_cons_zero, Option.some.injEq] at hio
        subst hio
        have p4 := PRE.out ⟨4, .data⟩ (by simp) rfl
        have E4x := Lib.hid (E4.out p4)
        obtain ⟨q4, g4, cap4, rfl, hg4, hc4⟩ := E4.out p4
        have HC4 := Lib.hid hc4
        clear q4 hg4 hc4
        refine wpOp_by rfl fun K HK => ?_
        go_wp2_with (fail)
        exact HK.out _ _ ⟨by rw [Array.size_setIfInBounds, HS.out], HB.out, _, _, _, _, _, _, _, rfl, fun h => E0.out ((listed_set h).resolve_left (by decide)), fun h => E1.out ((listed_set h).resolve_left (by decide)), fun h => (E2.out ((listed_set h).resolve_left (by decide))).imp listed_keep id, fun h => E3.out ((listed_set h).resolve_left (by decide)), fun h => ⟨listed_keep E4x.out.1, E4x.out.2⟩, fun _ => rfl, fun h => E6.out ((listed_set h).resolve_left (by decide))⟩
      | 6, hio =>
        clear hio
        refine wpOp_by rfl fun K HK => ?_
        go_wp2_with (fail)
        exact HK.out _ _ ⟨by rw [Array.size_setIfInBounds, HS.out], HB.out, _, _, _, _, _, _, _, rfl, fun h => E0.out ((listed_set h).resolve_left (by decide)), fun h => E1.out ((listed_set h).resolve_left (by decide)), fun h => (E2.out ((listed_set h).resolve_left (by decide))).imp listed_keep id, fun h => E3.out ((listed_set h).resolve_left (by decide)), fun h => ⟨listed_keep (E4.out ((listed_set h).resolve_left (by decide))).1, (E4.out ((listed_set h).resolve_left (by decide))).2⟩, fun h => E5.out ((listed_set h).resolve_left (by decide)), fun _ => rfl⟩
      | k + 7, hio => simp at hio
    case hend1 =>
      rintro listed act W1 ⟨hs, hB, x0, x1, x2, x3, x4, x5, x6, rfl, e0, e1, e2, e3, e4, e5, e6⟩ hall
      obtain rfl := e0 (hall 0 (by decide))
      obtain rfl := e1 (hall 1 (by decide))
      have e2 := e2 (hall 2 (by decide))
      obtain rfl := e3 (hall 3 (by decide))
      have e4 := e4 (hall 4 (by decide))
      obtain rfl := e5 (hall 5 (by decide))
      obtain rfl := e6 (hall 6 (by decide))
      obtain ⟨-, g, cap, rfl, hg, hc⟩ := e4
      clear e2 hall
      clear hs
      have HC := Lib.hid hc
      have WB : Hid (Below w.heap.size w W1) := Lib.hid (B0.out.trans (hB.mono (by have := Z1.out; omega)))
      have CZ : Hid (ckF q 0 = 2166136261) := Lib.hid rfl
      have SS : Hid (∀ k, ckF q (k + 1) = ckS (ckF q k) (q k)) := Lib.hid fun _ => rfl
      clear hc hg hB
      go_wp2_with fail
      go_loop [6, 8, 21] (fun c _ i => ∃ k : Nat, k ≤ 16 ∧ i = .int .i64 (k : Int) ∧ c = .int .u32 (ckF q k)) (fun _ _ i => 16 - (intOf i).toNat)
      case atStart => exact ⟨0, by omega, rfl, by rw [CZ.out]⟩
      case round =>
        obtain ⟨k, hk, rfl, rfl⟩ := hrel
        by_cases hlt : k < 16
        · have tk : (k : Int) < 16 := by omega
          have HK := Lib.hid hlt
          have c0 : W1.cell? ⟨g, k, none⟩ = some (.int .u8 (q k)) := HC.out k hlt
          obtain ⟨x, hx⟩ : ∃ x, q k = x := ⟨_, rfl⟩
          have HX := Lib.hid hx
          rw [hx] at c0
          have SK := Lib.hid (SS.out k)
          obtain ⟨c, hcq⟩ : ∃ c, ckF q k = c := ⟨_, rfl⟩
          have HCQ := Lib.hid hcq
          rw [hcq]
          clear hx hcq hlt hk
          go_wp2
          go_round
          case rel => exact ⟨k + 1, HK.out, by go_num, by rw [SK.out, HCQ.out, HX.out]; rfl⟩
          case measure => have := HK.out; simp [intOf]; omega
        · obtain rfl : k = 16 := by omega
          clear hlt hk
          rw [CK.out]
          go_wp2
          go_ret2
          exact ⟨rfl, WB.out⟩
end Go.Proofs.Ytkijgadkgfapgaa
