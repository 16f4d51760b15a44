/-
  CONTRACT: l07Add by the specification.
-/
import Derived.Test.YthfmkejdpflpcaaNh
import Derived.Test.YthfmkejdpflpcaaNg
import Derived.Test.YthfmkejdpflpcaaJb
import Derived.StillTailTactics
import Derived.Laws.AppendOwnNone
namespace Go.Proofs.Ythfmkejdpflpcaa
open Go.ChangeShapes Go.WideShapes Go.ChangeAt Go.RowKit
theorem blk_inf : (Try.prog.info? 73).map (fun i => (i.zero, i.size, i.bytes)) = some (some (.agg (bl 0 0 zI)), 18, 40) := by kernel_rfl
/-- A WHOLE ROW IS APPENDED to an empty one -/
theorem wpList_append_all {ops : Array Oper} {rest : List Oper} {o : Oper} {a : Act} {Q : Exit → Act → World → Prop} (hgd : o.guard = none) (s x : Operand)
    (ho : o.op = .call { callee := .builtin .append, args := #[s, x], argTypes := #[24, 24] })
    (base : Nat) (w0 W : World) (B : Nat) (v : Value) (F : MF) (K : List (Int × Int)) (m : Nat) (hm : W.heap.size = m) (hs : a.eval s = .slice (some ⟨m, 0, none⟩) 0 0) (hx : a.eval x = v)
    (H : Hid (OB B v F K W)) (HB : Hid (Below base w0 W)) (hb : base ≤ w0.heap.size) (hn : K.length ≤ 1000000)
    (h : ∀ v' w', Hid (OB base v' F K w') → Hid (Below base w0 w') → wpList Try.prog ops Q rest (a.put o.dst v') w') :
    wpList Try.prog ops Q (o :: rest) a (W.alloc (.cells #[] 73)) := by
  have hsz := HB.out.size
  subst hm
  have SO : (W.alloc (.cells #[] 73)).ownsRow base 73 18 (.slice (some ⟨W.heap.size, 0, none⟩) 0 0) 0 [] := World.ownsRow_made (base := base) (size := 18) (e := 73) W #[] 0 (by omega) (by unfold maxLen; omega) rfl
  have SB : Below base w0 (W.alloc (.cells #[] 73)) := HB.out.alloc (by omega) _
  obtain ⟨i0, hi0, hz0, hz1, hz2⟩ := info_parts blk_inf
  obtain ⟨hlen, ⟨rfl, hz⟩ | ⟨g, cap, cur, rfl, hbg, hg, hnc, hcm, hcs, htk⟩⟩ := H.out
  · have hK : K = [] := List.eq_nil_of_length_eq_zero hz
    subst hK
    exact wpList_append_own_none hgd s x 24 ho base 73 i0 18 Try.underlying24 hi0 _ 0 [] hs SO hx (h _ _ (Lib.hid SO) (Lib.hid SB))
  · have hgl := (Array.getElem?_eq_some_iff.1 hg).1
    refine wpList_append_own _ hgd s x 24 ho base 73 i0 _ 18 40 Try.underlying24 hi0 hz0 hz1 hz2 (by kernel_rfl) (by decide) _ 0 [] hs SO ⟨g, 0, none⟩ K.length cap (bksV F K) hx (bksV_len F K) ?_ (bksV_one' F K) (by unfold maxLen; omega) (by omega) (by simp; omega) ?_
    · intro j u hj
      have hl := (List.getElem?_eq_some_iff.1 hj).1
      rw [bksV_len] at hl
      rw [Go.WideShapes.add_plain, Nat.zero_add, Lib.cell_of_heap ((Below.heap_alloc W _ g hgl).trans hg)]
      rw [← htk, List.getElem?_take_of_lt hl, Array.getElem?_toList] at hj
      exact hj
    · intro v' w' h1 h2 _
      refine h v' w' (Lib.hid ?_) (Lib.hid (SB.grown h2 (by simp; omega) (fun k hk => (SO.lt k hk).1)))
      simpa [OB] using h1
theorem run_eql_c2 (x y p q : Int) (w : World) : (binOp .eql CO (.agg #[.int .i32 x, .int .i32 y]) (.agg #[.int .i32 p, .int .i32 q])).run Try.prog w = .ok (.bool (decide (x = p ∧ y = q))) w := by
  have h := run_eql_co (fun j => if j = 0 then x else y) 0 p q w
  have e : coEq (fun j => if j = 0 then x else y) 0 p q = decide (x = p ∧ y = q) := by
    rw [Bool.eq_iff_iff, coEq_iff, decide_eq_true_iff]
    simp
  rw [e] at h
  exact h
def AddPost (B : Nat) (F : MF) (K : List (Int × Int)) (p q : Int) (m : Nat → Int) (w : World) (e : Ending) (w' : World) : Prop := ∃ v' K', e = .returned v' ∧ PicK (orM F p q m) K' ∧ K'.length ≤ K.length + 1 ∧ OB B v' (orM F p q m) K' w' ∧ Below w.heap.size w w'
theorem nlist {l : Array Bool} {i : Nat} (h : l.getD i true = false) : l.getD i false = false := by
  simp only [Array.getD_eq_getD_getElem?] at h ⊢
  cases hl : l[i]? with
  | none => rfl
  | some b => rw [hl] at h; exact h
theorem set_keeps {l : Array Bool} {i j : Nat} (h : l.getD j false = true) : (l.setIfInBounds i true).getD j false = true := by
  simp only [Array.getD_eq_getD_getElem?, Array.getElem?_setIfInBounds] at h ⊢
  split
  · rename_i e
    split
    · rfl
    · rename_i hl
      subst e
      rw [Array.getElem?_eq_none (by omega)] at h
      exact h
  · exact h
set_option maxRecDepth 100000 in
set_option maxHeartbeats 16000000 in
theorem l07Add_any (B : Nat) (v : Value) (F : MF) (K : List (Int × Int)) (p q : Int) (m : Nat → Int) (w : World) (hK : PicK F K) (hF : MBF F) (hp : C32 p) (hq : C32 q) (hm : MB m) (hl : K.length ≤ 100000) (hB : B ≤ w.heap.size) (ho : OB B v F K w) :
    Calls Try.prog 69 #[v, .agg #[.int .i32 p, .int .i32 q], .agg (M16 m)] w (AddPost B F K p q m w) := by
  unfold AddPost
  have TA := Lib.hid (two_allocs w (.cells #[.int .i32 p, .int .i32 q] CO) (.cells (M16 m) 71))
  have EM : Hid (∀ W, W.heap[w.heap.size + 1]? = some (.cells (M16 m) 71 (0, 0)) → Calls Try.prog 102 #[.pointer (some ⟨w.heap.size + 1, 0, none⟩)] W fun e w' => e = .returned (.bool (emptyF m)) ∧ Below W.heap.size W w') := Lib.hid fun W hW => sEmpty_any m (w.heap.size + 1) 0 W fun j v e => by rw [Nat.zero_add, Lib.cell_of_heap hW]; exact e
  have OV := Lib.hid ho
  have HBB := Lib.hid hB
  cases he : emptyF m with
  | true =>
    have P1 := Lib.hid (hK.or_none hF (p := p) (q := q) he)
    have P2 : Hid (∀ W, OB B v F K W → OB B v (orM F p q m) K W) := Lib.hid fun W hW => hW.or_none hF he
    rw [he] at EM
    obtain ⟨A, hA⟩ : ∃ A, M16 m = A := ⟨_, rfl⟩
    rw [hA] at TA EM ⊢
    clear he hA hK hF hp hq hm ho hl
    go_enter Try.func69, Try.ntmps69
    go_wp2_with fail
    generalize (w.alloc (.cells #[.int .i32 p, .int .i32 q] CO)).alloc (.cells A 71) = w1 at TA ⊢
    refine (EM.out _ TA.out.2.1).mono ?_
    rintro e w2 ⟨rfl, b⟩
    have B2 := Lib.hid (TA.out.2.2.1.trans (b.mono TA.out.2.2.1.size))
    have OW2 := Lib.hid (OV.out.kept (below_grown B2.out) (ownNone _))
    clear b EM TA OV
    go_wp2
    exact bodyPost_ret (v := v) (by simp [results, Try.results69, go_sem]) rfl ⟨v, K, rfl, P1.out, Nat.le_succ _, P2.out _ OW2.out, B2.out⟩
  | false =>
    have HPK := Lib.hid hK
    have HMB := Lib.hid hF
    have HP := Lib.hid hp
    have HQ := Lib.hid hq
    have HM := Lib.hid hm
    have HE := Lib.hid he
    have HL := Lib.hid hl
    have JM : Hid (∀ c W, Calls Try.prog 115 #[.agg (M16 (F p c)), .agg (M16 m)] W fun e w' => e = .returned (.agg (M16 (JoinMasksG (F p c) m))) ∧ Below W.heap.size W w') := Lib.hid fun c W => sJoinMasks_any (F p c) m (hF p c) hm W
    rw [he] at EM
    obtain ⟨A, hA⟩ : ∃ A, M16 m = A := ⟨_, rfl⟩
    have HA := Lib.hid hA
    have MS : Hid (A.size = 16) := Lib.hid (by rw [← hA]; exact arr_size _ _ _)
    have MO : Hid (A.all (·.oneCell') = true) := Lib.hid (by rw [← hA]; exact arr_cells _ _ _)
    rw [hA] at TA EM JM ⊢
    clear he hA hK hF hp hq hm ho hl
    go_enter Try.func69, Try.ntmps69
    go_wp2_with fail
    generalize (w.alloc (.cells #[.int .i32 p, .int .i32 q] CO)).alloc (.cells A 71) = w1 at TA ⊢
    refine (EM.out _ TA.out.2.1).mono ?_
    rintro e w2 ⟨rfl, b⟩
    have B2 := Lib.hid (TA.out.2.2.1.trans (b.mono TA.out.2.2.1.size))
    have X0 := Lib.hid ((b.block w.heap.size (by have := TA.out.2.2.2; omega)).trans TA.out.1)
    have X1 := Lib.hid ((b.block (w.heap.size + 1) (by have := TA.out.2.2.2; omega)).trans TA.out.2.1)
    have OV2 := Lib.hid (OV.out.kept (below_grown B2.out) (ownNone _))
    have Z2 : Hid (w.heap.size + 2 ≤ w2.heap.size) := Lib.hid (by have := b.size; have := TA.out.2.2.2; omega)
    have K1 : Hid (K.length ≤ 1000000) := Lib.hid (by have := HL.out; omega)
    clear b EM TA OV
    go_wp2_with (refine wpList_append_all rfl _ _ rfl (w.heap.size + 2) w2 w2 B v F K _ rfl rfl rfl OV2 (Lib.hid (Below.refl _ _)) Z2.out K1.out ?_; intro v4 w4 O4 b4)
    have B4 := Lib.hid (B2.out.trans (b4.out.mono (by omega)))
    have Y0 := Lib.hid ((b4.out.block w.heap.size (by omega)).trans X0.out)
    have Y1 := Lib.hid ((b4.out.block (w.heap.size + 1) (by omega)).trans X1.out)
    have Z4 : Hid (w.heap.size + 2 ≤ w4.heap.size) := Lib.hid (Nat.le_trans Z2.out b4.out.size)
    clear b4 X0 X1 OV2 Z2 B2
    obtain ⟨a4, c4, rfl⟩ := O4.out.len
    have kI : (K.length : Int) ≤ 100000 := by have := HL.out; omega
    go_loopw [8] (fun vi wr => ∃ i : Nat, i ≤ K.length ∧ vi = .int .i64 (i : Int) ∧ Hid (Below w4.heap.size w4 wr) ∧ Hid (∀ j, j < i → K[j]! ≠ (p, q))) (fun vi _ => K.length - (intOf vi).toNat)
    case atStart => exact ⟨0, Nat.zero_le _, rfl, Lib.hid (Below.refl _ _), Lib.hid fun j h => absurd h (by omega)⟩
    case round =>
      obtain ⟨i, hi, rfl, B5, NO⟩ := hrel
      by_cases hlt : i < K.length
      · have ti : (i : Int) < (K.length : Int) := by omega
        have HI := Lib.hid hlt
        obtain ⟨g, cap, cur, hv, hbg, hg, hnc, hcm, hcs, htk⟩ := O4.out.block (by omega)
        simp only [Value.slice.injEq] at hv
        obtain ⟨rfl, -, rfl⟩ := hv
        have hgl := (Array.getElem?_eq_some_iff.1 hg).1
        have HG4 := Lib.hid ((B5.out.block g hgl).trans hg)
        have CC : Hid (∀ W : World, W.heap[g]? = some (.cells cur 73 (0, 0)) → ∀ j, j < 18 → W.cell? ⟨g, i * 18 + j, none⟩ = some (bkc F K[i]! j)) := Lib.hid fun W hW j hj => by
          have hij : i * 18 + j < K.length * 18 := by omega
          rw [Lib.cell_of_heap hW, ← bksV_at F K i j hlt hj, ← htk, List.getElem?_take_of_lt hij, Array.getElem?_toList]
        have V0 := Lib.hid ((B5.out.block _ (by have := Z4.out; omega)).trans Y0.out)
        have V1 := Lib.hid ((B5.out.block _ (by have := Z4.out; omega)).trans Y1.out)
        have c0 : wr.cell? ⟨w.heap.size, 0, none⟩ = some (.int .i32 p) := Lib.cell_of_heap V0.out 0
        have c1 : wr.cell? ⟨w.heap.size, 1, none⟩ = some (.int .i32 q) := Lib.cell_of_heap V0.out 1
        obtain ⟨x, hx⟩ : ∃ x, K[i]!.1 = x := ⟨_, rfl⟩
        obtain ⟨y, hy⟩ : ∃ y, K[i]!.2 = y := ⟨_, rfl⟩
        have d0 : wr.cell? ⟨g, i * 18, none⟩ = some (.int .i32 x) := by have := CC.out wr HG4.out 0 (by omega); rw [← hx]; exact this
        have d1 : wr.cell? ⟨g, i * 18 + 1, none⟩ = some (.int .i32 y) := by have := CC.out wr HG4.out 1 (by omega); rw [← hy]; exact this
        have EQ := fun W => run_eql_c2 x y p q W
        have HXY : Hid (K[i]! = (x, y)) := Lib.hid (Prod.ext hx hy)
        have HBG := Lib.hid hbg
        have HNC := Lib.hid hnc
        have HCM := Lib.hid hcm
        have HCS := Lib.hid hcs
        have HTK := Lib.hid htk
        clear hx hy hg hgl hlt hi hbg hnc hcm hcs htk
        cases hr : decide (x = p ∧ y = q) with
        | false =>
          simp only [hr] at EQ
          have NE : Hid (∀ j, j < i + 1 → K[j]! ≠ (p, q)) := Lib.hid fun j hj => by
            rcases Nat.lt_or_ge j i with h | h
            · exact NO.out j h
            · obtain rfl : j = i := by omega
              rw [HXY.out]
              intro e
              rw [Prod.mk.injEq] at e
              rw [decide_eq_true e] at hr
              cases hr
          clear hr
          go_wp2
          go_quiet (fail)
          go_wp2
          go_roundw
          case rel => exact ⟨i + 1, HI.out, by go_num, Lib.hid (belowN B5.out), NE⟩
          case measure => have := HI.out; simp [intOf]; omega
        | true =>
          simp only [hr] at EQ
          have e2 := of_decide_eq_true hr
          obtain ⟨rfl, rfl⟩ := e2
          clear hr
          go_wp2
          go_quiet (fail)
          go_wp2
          obtain ⟨wz, hwz⟩ : ∃ x, wr.drewN nq = x := ⟨_, rfl⟩
          have BZ : Hid (Below w4.heap.size w4 wz) := Lib.hid (by rw [← hwz]; exact belowN B5.out)
          have GZ : Hid (wz.heap[g]? = some (.cells cur 73 (0, 0))) := Lib.hid (by rw [← hwz]; exact HG4.out)
          have VZ : Hid (wz.heap[w.heap.size + 1]? = some (.cells A 71 (0, 0))) := Lib.hid (by rw [← hwz]; exact V1.out)
          rw [hwz]
          obtain ⟨Mi, hMi⟩ : ∃ z, M16 (F x y) = z := ⟨_, rfl⟩
          obtain ⟨Mj, hMj⟩ : ∃ z, M16 (JoinMasksG (F x y) m) = z := ⟨_, rfl⟩
          have JMX : Hid (∀ W, Calls Try.prog 115 #[.agg Mi, .agg A] W fun e w' => e = .returned (.agg Mj) ∧ Below W.heap.size W w') := Lib.hid fun W => by rw [← hMi, ← hMj]; exact JM.out y W
          have MIS : Hid (Mi.size = 16) := Lib.hid (by rw [← hMi]; exact arr_size _ _ _)
          have MJS : Hid (Mj.size = 16) := Lib.hid (by rw [← hMj]; exact arr_size _ _ _)
          have MJO : Hid (Mj.all (·.oneCell') = true) := Lib.hid (by rw [← hMj]; exact arr_cells _ _ _)
          have MJL : Hid (i * 18 + 2 + Mj.size ≤ cur.size) := Lib.hid (by
            have := HI.out; have := HNC.out; have h1 := HCS.out
            rw [MJS.out, h1]
            omega)
          have LG : Hid (∀ W, Below wz.heap.size wz W → W.heap[g]? = some (.cells cur 73 (0, 0))) := Lib.hid fun W hW => (hW.block _ (Array.getElem?_eq_some_iff.1 GZ.out).1).trans GZ.out
          have LA : Hid (∀ W, Below wz.heap.size wz W → W.heap[w.heap.size + 1]? = some (.cells A 71 (0, 0))) := Lib.hid fun W hW => (hW.block _ (Array.getElem?_eq_some_iff.1 VZ.out).1).trans VZ.out
          have LMI : Hid (∀ W, Below wz.heap.size wz W → ∀ j v, Mi[j]? = some v → W.cell? ⟨g, i * 18 + 2 + j, none⟩ = some v) := Lib.hid fun W hW j v e => by
            have hj : j < 16 := by
              have := (Array.getElem?_eq_some_iff.1 e).1
              rwa [MIS.out] at this
            rw [show i * 18 + 2 + j = i * 18 + (2 + j) by omega, CC.out W (LG.out W hW) (2 + j) (by omega), HXY.out]
            rw [← hMi, arr_get _ _ _ _ hj] at e
            rw [← e]
            unfold bkc
            rw [if_neg (by omega), if_neg (by omega), show 2 + j - 2 = j by omega]
          have HMJ := Lib.hid hMj
          clear hwz hMi hMj d0 d1 c0 c1 EQ HG4 V0 V1 B5 JM
          refine wp_region_inv (by kernel_rfl) (fun listed act W => listed.size = 12 ∧ ((listed.getD 11 false = true → (∀ j, j < 11 → listed.getD j false = true) ∧ ∃ W0, Below wz.heap.size wz W0 ∧ W = W0.setRow g (splice cur.toList (i * 18 + 2) Mj.toList).toArray) ∧ (listed.getD 11 false = false → Below wz.heap.size wz W) ∧ (listed.getD 10 false = true → listed.getD 9 false = true)) ∧ ∃ x0 x1 x2 x3 x4 x5 x6 x7 x8 x9 x10, act = { tmps := #[v, .agg #[.int .i32 x, .int .i32 y], .agg A, undef, .pointer (some ⟨w.heap.size, 0, none⟩), .pointer (some ⟨w.heap.size + 1, 0, none⟩), u6, .slice (some ⟨g, 0, none⟩) K.length c4, .int .i64 (i : Int), undef, undef, .bool false, undef, .slice (some ⟨w2.heap.size, 0, none⟩) 0 0, v, .slice (some ⟨g, 0, none⟩) K.length c4, .int .i64 (i : Int), .slice (some ⟨g, 0, none⟩) K.length c4, .int .i64 (K.length : Int), .bool true, u20, u21, .slice (some ⟨g, 0, none⟩) K.length c4, .int .i64 (i : Int), .pointer (some ⟨g, i * 18, none⟩), .pointer (some ⟨g, i * 18, none⟩), .agg #[.int .i32 x, .int .i32 y], .agg #[.int .i32 x, .int .i32 y], .bool true, x0, x1, x2, x3, x4, x5, x6, x7, x8, x9, x10, u40, undef, undef, undef, undef, undef, undef, undef, undef, undef, undef, undef, undef, undef, undef, undef, undef, undef, undef, undef, undef, undef, undef, undef, undef, undef, undef, undef, undef, undef, undef, undef, undef, undef, undef, undef, undef, undef, undef, undef, undef, undef, undef, undef, undef, undef], defers := [] } ∧ (listed.getD 0 false = true → x0 = .slice (some ⟨g, 0, none⟩) K.length c4) ∧ (listed.getD 1 false = true → x1 = .int .i64 (i : Int)) ∧ (listed.getD 2 false = true → x2 = .slice (some ⟨g, 0, none⟩) K.length c4) ∧ (listed.getD 3 false = true → x3 = .int .i64 (i : Int)) ∧ (listed.getD 4 false = true → x4 = .pointer (some ⟨g, i * 18, none⟩)) ∧ (listed.getD 5 false = true → x5 = .pointer (some ⟨g, i * 18 + 2, none⟩)) ∧ (listed.getD 6 false = true → x6 = .agg Mi) ∧ (listed.getD 7 false = true → x7 = .agg A) ∧ (listed.getD 8 false = true → x8 = .agg Mj) ∧ (listed.getD 9 false = true → x9 = .pointer (some ⟨g, i * 18, none⟩)) ∧ (listed.getD 10 false = true → x10 = .pointer (some ⟨g, i * 18 + 2, none⟩))) (by kernel_rfl) ?h0z (fun _ _ _ h => h.1) ?hstepz ?hendz
          case h0z =>
            refine ⟨rfl, ⟨fun h => absurd h (by decide), fun _ => (Below.refl _ _).drew, fun h => absurd h (by decide)⟩, _, _, _, _, _, _, _, _, _, _, _, rfl, ?_, ?_, ?_, ?_, ?_, ?_, ?_, ?_, ?_, ?_, ?_⟩ <;> (intro h; exact absurd h (by decide))
          case hstepz =>
            rintro listed act W ii oo ⟨hs, hB, x0, x1, x2, x3, x4, x5, x6, x7, x8, x9, x10, rfl, e0, e1, e2, e3, e4, e5, e6, e7, e8, e9, e10⟩ hun hio hpre
            have HB := Lib.hid hB
            have E0 := Lib.hid e0
            have E1 := Lib.hid e1
            have E2 := Lib.hid e2
            have E3 := Lib.hid e3
            have E4 := Lib.hid e4
            have E5 := Lib.hid e5
            have E6 := Lib.hid e6
            have E7 := Lib.hid e7
            have E8 := Lib.hid e8
            have E9 := Lib.hid e9
            have E10 := Lib.hid e10
            have HS := Lib.hid hs
            have HU := Lib.hid hun
            have PRE := Lib.hid hpre
            clear e0 e1 e2 e3 e4 e5 e6 e7 e8 e9 e10 hs hpre hB hun
            match ii, hio with
            | 0, hio =>
              clear hio
              have n11 : listed.getD 11 false = false := by
                    cases h : listed.getD 11 false with
                    | false => rfl
                    | true => exact absurd ((HB.out.1 h).1 0 (by decide)) (by rw [nlist HU.out]; decide)
              refine wpOp_by rfl fun KK HK => ?_
              go_wp2_with (fail)
              exact HK.out _ _ ⟨by rw [Array.size_setIfInBounds, HS.out], ⟨fun h => absurd ((listed_set h).resolve_left (by decide)) (by rw [n11]; decide), fun _ => (HB.out.2.1 n11), fun h => set_keeps (HB.out.2.2 ((listed_set h).resolve_left (by decide)))⟩, _, _, _, _, _, _, _, _, _, _, _, rfl, fun _ => rfl, fun h => E1.out ((listed_set h).resolve_left (by decide)), fun h => E2.out ((listed_set h).resolve_left (by decide)), fun h => E3.out ((listed_set h).resolve_left (by decide)), fun h => E4.out ((listed_set h).resolve_left (by decide)), fun h => E5.out ((listed_set h).resolve_left (by decide)), fun h => E6.out ((listed_set h).resolve_left (by decide)), fun h => E7.out ((listed_set h).resolve_left (by decide)), fun h => E8.out ((listed_set h).resolve_left (by decide)), fun h => E9.out ((listed_set h).resolve_left (by decide)), fun h => E10.out ((listed_set h).resolve_left (by decide))⟩
            | 1, hio =>
              clear hio
              have n11 : listed.getD 11 false = false := by
                    cases h : listed.getD 11 false with
                    | false => rfl
                    | true => exact absurd ((HB.out.1 h).1 1 (by decide)) (by rw [nlist HU.out]; decide)
              refine wpOp_by rfl fun KK HK => ?_
              go_wp2_with (fail)
              exact HK.out _ _ ⟨by rw [Array.size_setIfInBounds, HS.out], ⟨fun h => absurd ((listed_set h).resolve_left (by decide)) (by rw [n11]; decide), fun _ => (HB.out.2.1 n11), fun h => set_keeps (HB.out.2.2 ((listed_set h).resolve_left (by decide)))⟩, _, _, _, _, _, _, _, _, _, _, _, rfl, fun h => E0.out ((listed_set h).resolve_left (by decide)), fun _ => rfl, fun h => E2.out ((listed_set h).resolve_left (by decide)), fun h => E3.out ((listed_set h).resolve_left (by decide)), fun h => E4.out ((listed_set h).resolve_left (by decide)), fun h => E5.out ((listed_set h).resolve_left (by decide)), fun h => E6.out ((listed_set h).resolve_left (by decide)), fun h => E7.out ((listed_set h).resolve_left (by decide)), fun h => E8.out ((listed_set h).resolve_left (by decide)), fun h => E9.out ((listed_set h).resolve_left (by decide)), fun h => E10.out ((listed_set h).resolve_left (by decide))⟩
            | 2, hio =>
              clear hio
              have n11 : listed.getD 11 false = false := by
                    cases h : listed.getD 11 false with
                    | false => rfl
                    | true => exact absurd ((HB.out.1 h).1 2 (by decide)) (by rw [nlist HU.out]; decide)
              refine wpOp_by rfl fun KK HK => ?_
              go_wp2_with (fail)
              exact HK.out _ _ ⟨by rw [Array.size_setIfInBounds, HS.out], ⟨fun h => absurd ((listed_set h).resolve_left (by decide)) (by rw [n11]; decide), fun _ => (HB.out.2.1 n11), fun h => set_keeps (HB.out.2.2 ((listed_set h).resolve_left (by decide)))⟩, _, _, _, _, _, _, _, _, _, _, _, rfl, fun h => E0.out ((listed_set h).resolve_left (by decide)), fun h => E1.out ((listed_set h).resolve_left (by decide)), fun _ => rfl, fun h => E3.out ((listed_set h).resolve_left (by decide)), fun h => E4.out ((listed_set h).resolve_left (by decide)), fun h => E5.out ((listed_set h).resolve_left (by decide)), fun h => E6.out ((listed_set h).resolve_left (by decide)), fun h => E7.out ((listed_set h).resolve_left (by decide)), fun h => E8.out ((listed_set h).resolve_left (by decide)), fun h => E9.out ((listed_set h).resolve_left (by decide)), fun h => E10.out ((listed_set h).resolve_left (by decide))⟩
            | 3, hio =>
              clear hio
              have n11 : listed.getD 11 false = false := by
                    cases h : listed.getD 11 false with
                    | false => rfl
                    | true => exact absurd ((HB.out.1 h).1 3 (by decide)) (by rw [nlist HU.out]; decide)
              refine wpOp_by rfl fun KK HK => ?_
              go_wp2_with (fail)
              exact HK.out _ _ ⟨by rw [Array.size_setIfInBounds, HS.out], ⟨fun h => absurd ((listed_set h).resolve_left (by decide)) (by rw [n11]; decide), fun _ => (HB.out.2.1 n11), fun h => set_keeps (HB.out.2.2 ((listed_set h).resolve_left (by decide)))⟩, _, _, _, _, _, _, _, _, _, _, _, rfl, fun h => E0.out ((listed_set h).resolve_left (by decide)), fun h => E1.out ((listed_set h).resolve_left (by decide)), fun h => E2.out ((listed_set h).resolve_left (by decide)), fun _ => rfl, fun h => E4.out ((listed_set h).resolve_left (by decide)), fun h => E5.out ((listed_set h).resolve_left (by decide)), fun h => E6.out ((listed_set h).resolve_left (by decide)), fun h => E7.out ((listed_set h).resolve_left (by decide)), fun h => E8.out ((listed_set h).resolve_left (by decide)), fun h => E9.out ((listed_set h).resolve_left (by decide)), fun h => E10.out ((listed_set h).resolve_left (by decide))⟩
            | 4, hio =>
              simp only [List.getElem?_toArray, List.getElem?_cons_succ, List.getElem?_cons_zero, Option.some.injEq] at hio
              subst hio
              have p2 := PRE.out ⟨2, .data⟩ (by simp) rfl
              have p3 := PRE.out ⟨3, .data⟩ (by simp) rfl
              obtain rfl := E2.out p2
              obtain rfl := E3.out p3
              have n11 : listed.getD 11 false = false := by
                    cases h : listed.getD 11 false with
                    | false => rfl
                    | true => exact absurd ((HB.out.1 h).1 4 (by decide)) (by rw [nlist HU.out]; decide)
              refine wpOp_by rfl fun KK HK => ?_
              go_wp2_with (fail)
              exact HK.out _ _ ⟨by rw [Array.size_setIfInBounds, HS.out], ⟨fun h => absurd ((listed_set h).resolve_left (by decide)) (by rw [n11]; decide), fun _ => (HB.out.2.1 n11), fun h => set_keeps (HB.out.2.2 ((listed_set h).resolve_left (by decide)))⟩, _, _, _, _, _, _, _, _, _, _, _, rfl, fun h => E0.out ((listed_set h).resolve_left (by decide)), fun h => E1.out ((listed_set h).resolve_left (by decide)), fun _ => rfl, fun _ => rfl, fun _ => rfl, fun h => E5.out ((listed_set h).resolve_left (by decide)), fun h => E6.out ((listed_set h).resolve_left (by decide)), fun h => E7.out ((listed_set h).resolve_left (by decide)), fun h => E8.out ((listed_set h).resolve_left (by decide)), fun h => E9.out ((listed_set h).resolve_left (by decide)), fun h => E10.out ((listed_set h).resolve_left (by decide))⟩
            | 5, hio =>
              simp only [List.getElem?_toArray, List.getElem?_cons_succ, List.getElem?_cons_zero, Option.some.injEq] at hio
              subst hio
              have p4 := PRE.out ⟨4, .data⟩ (by simp) rfl
              obtain rfl := E4.out p4
              have n11 : listed.getD 11 false = false := by
                    cases h : listed.getD 11 false with
                    | false => rfl
                    | true => exact absurd ((HB.out.1 h).1 5 (by decide)) (by rw [nlist HU.out]; decide)
              refine wpOp_by rfl fun KK HK => ?_
              go_wp2_with (fail)
              exact HK.out _ _ ⟨by rw [Array.size_setIfInBounds, HS.out], ⟨fun h => absurd ((listed_set h).resolve_left (by decide)) (by rw [n11]; decide), fun _ => (HB.out.2.1 n11), fun h => set_keeps (HB.out.2.2 ((listed_set h).resolve_left (by decide)))⟩, _, _, _, _, _, _, _, _, _, _, _, rfl, fun h => E0.out ((listed_set h).resolve_left (by decide)), fun h => E1.out ((listed_set h).resolve_left (by decide)), fun h => E2.out ((listed_set h).resolve_left (by decide)), fun h => E3.out ((listed_set h).resolve_left (by decide)), fun _ => rfl, fun _ => rfl, fun h => E6.out ((listed_set h).resolve_left (by decide)), fun h => E7.out ((listed_set h).resolve_left (by decide)), fun h => E8.out ((listed_set h).resolve_left (by decide)), fun h => E9.out ((listed_set h).resolve_left (by decide)), fun h => E10.out ((listed_set h).resolve_left (by decide))⟩
            | 6, hio =>
              simp only [List.getElem?_toArray, List.getElem?_cons_succ, List.getElem?_cons_zero, Option.some.injEq] at hio
              subst hio
              have p5 := PRE.out ⟨5, .data⟩ (by simp) rfl
              obtain rfl := E5.out p5
              have n11 : listed.getD 11 false = false := by
                    cases h : listed.getD 11 false with
                    | false => rfl
                    | true => exact absurd ((HB.out.1 h).1 6 (by decide)) (by rw [nlist HU.out]; decide)
              refine wpOp_by rfl fun KK HK => ?_
              go_wp2_with ((refine wpList_load_part rfl 71 _ rfl g (i * 18 + 2) rfl Mi _ (LMI.out _ (HB.out.2.1 n11)) Try.underlying71 rfl (mask_info _ MIS.out) ?_))
              exact HK.out _ _ ⟨by rw [Array.size_setIfInBounds, HS.out], ⟨fun h => absurd ((listed_set h).resolve_left (by decide)) (by rw [n11]; decide), fun _ => (HB.out.2.1 n11), fun h => set_keeps (HB.out.2.2 ((listed_set h).resolve_left (by decide)))⟩, _, _, _, _, _, _, _, _, _, _, _, rfl, fun h => E0.out ((listed_set h).resolve_left (by decide)), fun h => E1.out ((listed_set h).resolve_left (by decide)), fun h => E2.out ((listed_set h).resolve_left (by decide)), fun h => E3.out ((listed_set h).resolve_left (by decide)), fun h => E4.out ((listed_set h).resolve_left (by decide)), fun _ => rfl, fun _ => rfl, fun h => E7.out ((listed_set h).resolve_left (by decide)), fun h => E8.out ((listed_set h).resolve_left (by decide)), fun h => E9.out ((listed_set h).resolve_left (by decide)), fun h => E10.out ((listed_set h).resolve_left (by decide))⟩
            | 7, hio =>
              clear hio
              have n11 : listed.getD 11 false = false := by
                    cases h : listed.getD 11 false with
                    | false => rfl
                    | true => exact absurd ((HB.out.1 h).1 7 (by decide)) (by rw [nlist HU.out]; decide)
              refine wpOp_by rfl fun KK HK => ?_
              go_wp2_with ((refine wpList_load_row rfl 71 _ rfl (w.heap.size + 1) rfl 71 _ _ _ (LA.out _ (HB.out.2.1 n11)) Try.underlying71 rfl (mask_info _ MS.out) ?_))
              exact HK.out _ _ ⟨by rw [Array.size_setIfInBounds, HS.out], ⟨fun h => absurd ((listed_set h).resolve_left (by decide)) (by rw [n11]; decide), fun _ => (HB.out.2.1 n11), fun h => set_keeps (HB.out.2.2 ((listed_set h).resolve_left (by decide)))⟩, _, _, _, _, _, _, _, _, _, _, _, rfl, fun h => E0.out ((listed_set h).resolve_left (by decide)), fun h => E1.out ((listed_set h).resolve_left (by decide)), fun h => E2.out ((listed_set h).resolve_left (by decide)), fun h => E3.out ((listed_set h).resolve_left (by decide)), fun h => E4.out ((listed_set h).resolve_left (by decide)), fun h => E5.out ((listed_set h).resolve_left (by decide)), fun h => E6.out ((listed_set h).resolve_left (by decide)), fun _ => rfl, fun h => E8.out ((listed_set h).resolve_left (by decide)), fun h => E9.out ((listed_set h).resolve_left (by decide)), fun h => E10.out ((listed_set h).resolve_left (by decide))⟩
            | 8, hio =>
              simp only [List.getElem?_toArray, List.getElem?_cons_succ, List.getElem?_cons_zero, Option.some.injEq] at hio
              subst hio
              have p6 := PRE.out ⟨6, .data⟩ (by simp) rfl
              have p7 := PRE.out ⟨7, .data⟩ (by simp) rfl
              obtain rfl := E6.out p6
              obtain rfl := E7.out p7
              have n11 : listed.getD 11 false = false := by
                    cases h : listed.getD 11 false with
                    | false => rfl
                    | true => exact absurd ((HB.out.1 h).1 8 (by decide)) (by rw [nlist HU.out]; decide)
              refine wpOp_by rfl fun KK HK => ?_
              go_wp2_with fail
              refine Calls.mono (JMX.out _) ?_
              rintro e W' ⟨rfl, b⟩
              go_wp2
              exact HK.out _ _ ⟨by rw [Array.size_setIfInBounds, HS.out], ⟨fun h => absurd ((listed_set h).resolve_left (by decide)) (by rw [n11]; decide), fun _ => (HB.out.2.1 n11).trans (b.mono (HB.out.2.1 n11).size), fun h => set_keeps (HB.out.2.2 ((listed_set h).resolve_left (by decide)))⟩, _, _, _, _, _, _, _, _, _, _, _, rfl, fun h => E0.out ((listed_set h).resolve_left (by decide)), fun h => E1.out ((listed_set h).resolve_left (by decide)), fun h => E2.out ((listed_set h).resolve_left (by decide)), fun h => E3.out ((listed_set h).resolve_left (by decide)), fun h => E4.out ((listed_set h).resolve_left (by decide)), fun h => E5.out ((listed_set h).resolve_left (by decide)), fun _ => rfl, fun _ => rfl, fun _ => rfl, fun h => E9.out ((listed_set h).resolve_left (by decide)), fun h => E10.out ((listed_set h).resolve_left (by decide))⟩
            | 9, hio =>
              simp only [List.getElem?_toArray, List.getElem?_cons_succ, List.getElem?_cons_zero, Option.some.injEq] at hio
              subst hio
              have p0 := PRE.out ⟨0, .data⟩ (by simp) rfl
              have p1 := PRE.out ⟨1, .data⟩ (by simp) rfl
              obtain rfl := E0.out p0
              obtain rfl := E1.out p1
              have n11 : listed.getD 11 false = false := by
                    cases h : listed.getD 11 false with
                    | false => rfl
                    | true => exact absurd ((HB.out.1 h).1 9 (by decide)) (by rw [nlist HU.out]; decide)
              refine wpOp_by rfl fun KK HK => ?_
              go_wp2_with (fail)
              exact HK.out _ _ ⟨by rw [Array.size_setIfInBounds, HS.out], ⟨fun h => absurd ((listed_set h).resolve_left (by decide)) (by rw [n11]; decide), fun _ => (HB.out.2.1 n11), fun h => set_keeps (HB.out.2.2 ((listed_set h).resolve_left (by decide)))⟩, _, _, _, _, _, _, _, _, _, _, _, rfl, fun _ => rfl, fun _ => rfl, fun h => E2.out ((listed_set h).resolve_left (by decide)), fun h => E3.out ((listed_set h).resolve_left (by decide)), fun h => E4.out ((listed_set h).resolve_left (by decide)), fun h => E5.out ((listed_set h).resolve_left (by decide)), fun h => E6.out ((listed_set h).resolve_left (by decide)), fun h => E7.out ((listed_set h).resolve_left (by decide)), fun h => E8.out ((listed_set h).resolve_left (by decide)), fun _ => rfl, fun h => E10.out ((listed_set h).resolve_left (by decide))⟩
            | 10, hio =>
              simp only [List.getElem?_toArray, List.getElem?_cons_succ, List.getElem?_cons_zero, Option.some.injEq] at hio
              subst hio
              have p9 := PRE.out ⟨9, .data⟩ (by simp) rfl
              obtain rfl := E9.out p9
              have n11 : listed.getD 11 false = false := by
                    cases h : listed.getD 11 false with
                    | false => rfl
                    | true => exact absurd ((HB.out.1 h).1 10 (by decide)) (by rw [nlist HU.out]; decide)
              refine wpOp_by rfl fun KK HK => ?_
              go_wp2_with (fail)
              exact HK.out _ _ ⟨by rw [Array.size_setIfInBounds, HS.out], ⟨fun h => absurd ((listed_set h).resolve_left (by decide)) (by rw [n11]; decide), fun _ => (HB.out.2.1 n11), fun _ => set_keeps p9⟩, _, _, _, _, _, _, _, _, _, _, _, rfl, fun h => E0.out ((listed_set h).resolve_left (by decide)), fun h => E1.out ((listed_set h).resolve_left (by decide)), fun h => E2.out ((listed_set h).resolve_left (by decide)), fun h => E3.out ((listed_set h).resolve_left (by decide)), fun h => E4.out ((listed_set h).resolve_left (by decide)), fun h => E5.out ((listed_set h).resolve_left (by decide)), fun h => E6.out ((listed_set h).resolve_left (by decide)), fun h => E7.out ((listed_set h).resolve_left (by decide)), fun h => E8.out ((listed_set h).resolve_left (by decide)), fun _ => rfl, fun _ => rfl⟩
            | 11, hio =>
              simp only [List.getElem?_toArray, List.getElem?_cons_succ, List.getElem?_cons_zero, Option.some.injEq] at hio
              subst hio
              have p8 := PRE.out ⟨8, .data⟩ (by simp) rfl
              have p10 := PRE.out ⟨10, .data⟩ (by simp) rfl
              obtain rfl := E8.out p8
              obtain rfl := E10.out p10
              have n11 : listed.getD 11 false = false := nlist HU.out
              have PH : Hid (∀ j, j < 11 → listed.getD j false = true) := Lib.hid fun j hj => by
                match j, hj with
                | 0, _ => exact PRE.out ⟨0, .phase⟩ (by simp) rfl
                | 1, _ => exact PRE.out ⟨1, .phase⟩ (by simp) rfl
                | 2, _ => exact PRE.out ⟨2, .phase⟩ (by simp) rfl
                | 3, _ => exact PRE.out ⟨3, .phase⟩ (by simp) rfl
                | 4, _ => exact PRE.out ⟨4, .phase⟩ (by simp) rfl
                | 5, _ => exact PRE.out ⟨5, .phase⟩ (by simp) rfl
                | 6, _ => exact PRE.out ⟨6, .phase⟩ (by simp) rfl
                | 7, _ => exact PRE.out ⟨7, .phase⟩ (by simp) rfl
                | 8, _ => exact PRE.out ⟨8, .phase⟩ (by simp) rfl
                | 9, _ => exact HB.out.2.2 p10
                | 10, _ => exact p10
                | k + 11, h => exact absurd h (by omega)
              refine wpOp_by rfl fun KK HK => ?_
              go_wp2_with ((refine wpList_store_part rfl 71 _ _ rfl g (i * 18 + 2) Mj rfl rfl 73 cur (LG.out _ (HB.out.2.1 n11)) (mask_info _ MJS.out) MJL.out MJO.out ?_))
              exact HK.out _ _ ⟨by rw [Array.size_setIfInBounds, HS.out], ⟨fun _ => ⟨fun j hj => set_keeps (PH.out j hj), W, HB.out.2.1 n11, rfl⟩, fun h => absurd h (by simp [Array.getD_eq_getD_getElem?, HS.out]), fun _ => set_keeps (PH.out 9 (by decide))⟩, _, _, _, _, _, _, _, _, _, _, _, rfl, fun h => E0.out ((listed_set h).resolve_left (by decide)), fun h => E1.out ((listed_set h).resolve_left (by decide)), fun h => E2.out ((listed_set h).resolve_left (by decide)), fun h => E3.out ((listed_set h).resolve_left (by decide)), fun h => E4.out ((listed_set h).resolve_left (by decide)), fun h => E5.out ((listed_set h).resolve_left (by decide)), fun h => E6.out ((listed_set h).resolve_left (by decide)), fun h => E7.out ((listed_set h).resolve_left (by decide)), fun _ => rfl, fun h => E9.out ((listed_set h).resolve_left (by decide)), fun _ => rfl⟩
            | k + 12, hio => simp at hio
          case hendz =>
            rintro listed act W1 ⟨hs, hB, x0, x1, x2, x3, x4, x5, x6, x7, x8, x9, x10, rfl, e0, e1, e2, e3, e4, e5, e6, e7, e8, e9, e10⟩ hall
            obtain rfl := e0 (hall 0 (by decide))
            obtain rfl := e1 (hall 1 (by decide))
            obtain rfl := e2 (hall 2 (by decide))
            obtain rfl := e3 (hall 3 (by decide))
            obtain rfl := e4 (hall 4 (by decide))
            obtain rfl := e5 (hall 5 (by decide))
            obtain rfl := e6 (hall 6 (by decide))
            obtain rfl := e7 (hall 7 (by decide))
            obtain rfl := e8 (hall 8 (by decide))
            obtain rfl := e9 (hall 9 (by decide))
            obtain rfl := e10 (hall 10 (by decide))
            obtain ⟨W0, hW0, rfl⟩ := (hB.1 (hall 11 (by decide))).2
            clear hs
            have BW : Hid (Below w.heap.size w W0) := Lib.hid (B4.out.trans ((BZ.out.trans (hW0.mono BZ.out.size)).mono (by have := Z4.out; omega)))
            have OF : Hid (OB (w.heap.size + 2) (.slice (some ⟨g, 0, none⟩) K.length c4) (orM F x y m) K (W0.setRow g (splice cur.toList (i * 18 + 2) Mj.toList).toArray)) := Lib.hid (by
              have h := own_put (e := 73) (n := K.length) (o := i * 18 + 2) (ys := Mj.toList) HBG.out (LG.out _ hW0) HNC.out HCM.out HCS.out HTK.out (by have := HI.out; simp only [Array.length_toList, MJS.out]; omega)
              have e := bksV_turn F K i (JoinMasksG (F x y) m) HI.out (fun j hj hne => HPK.out.one hj HI.out hne)
              rw [HXY.out, HMJ.out] at e
              unfold OB orM
              rw [← e]
              exact h)
            have IN : Hid ((x, y) ∈ K) := Lib.hid (by rw [← HXY.out, getElem!_pos K i HI.out]; exact List.getElem_mem HI.out)
            clear hW0 hB
            go_wp2
            exact bodyPost_ret (v := .slice (some ⟨g, 0, none⟩) K.length c4) (by simp [results, Try.results69, go_sem]) rfl ⟨_, rfl, K, HPK.out.or_in HMB.out HM.out IN.out, Nat.le_succ _, OF.out.mono (by have := HBB.out; omega), below_setRow BW.out (by have := HBG.out; omega) _⟩
      · have ti : ¬ (i : Int) < (K.length : Int) := by omega
        obtain rfl : i = K.length := by omega
        have NI : Hid ((p, q) ∉ K) := Lib.hid fun h => by
          obtain ⟨j, hj⟩ := List.mem_iff_getElem?.1 h
          exact NO.out j (List.getElem?_eq_some_iff.1 hj).1 (get_bang hj)
        have V0 := Lib.hid ((B5.out.block _ (by have := Z4.out; omega)).trans Y0.out)
        have V1 := Lib.hid ((B5.out.block _ (by have := Z4.out; omega)).trans Y1.out)
        have B6 : Hid (Below w.heap.size w wr) := Lib.hid (B4.out.trans (B5.out.mono B4.out.size))
        have Z6 : Hid (w.heap.size + 2 ≤ wr.heap.size) := Lib.hid (Nat.le_trans Z4.out B5.out.size)
        have O6 : Hid (OB (w.heap.size + 2) (.slice a4 K.length c4) (orM F p q m) K wr) := Lib.hid (by
          have h : OB (w.heap.size + 2) (.slice a4 K.length c4) F K wr := O4.out.kept (below_grown B5.out) (ownNone _)
          unfold OB at h ⊢
          rw [← bksV_congr fun j hj y hy => ?_]
          · exact h
          · unfold orM putM
            rw [if_neg]
            rintro ⟨e1, e2⟩
            exact NO.out j hj (Prod.ext e1 e2))
        have PKN : Hid (∀ k, k ≤ K.length → (k = 0 ∨ ltP K[k - 1]! (p, q)) → (k = K.length ∨ ltP (p, q) K[k]!) → PicK (orM F p q m) (insK K k (p, q))) := Lib.hid fun k hk h1 h2 => HPK.out.or_new HMB.out HP.out HQ.out HM.out HE.out NI.out hk h1 h2
        have AN : Hid (M16 (orM F p q m p q) = A) := Lib.hid (by rw [← HA.out]; exact arr_congr fun y hy => or_new_mask HPK.out HP.out HQ.out HM.out NI.out y hy)
        obtain ⟨G, hG⟩ : ∃ G, orM F p q m = G := ⟨_, rfl⟩
        rw [hG] at O6 PKN AN
        have HGE := Lib.hid hG
        obtain ⟨X, hX⟩ : ∃ X, #[Value.int .i32 p, Value.int .i32 q] ++ A = X := ⟨_, rfl⟩
        have XS : X.size = 18 := by rw [← hX]; simp [MS.out]
        have HX : Hid (bkA G (p, q) = X) := Lib.hid (by rw [← hX, ← AN.out]; rfl)
        have f1 : Array.foldl (fun cs (x : Value × Nat) => cs.setIfInBounds (2 + x.2) x.1) #[Value.int .i32 p, Value.int .i32 q, Value.int .u16 0, Value.int .u16 0, Value.int .u16 0, Value.int .u16 0, Value.int .u16 0, Value.int .u16 0, Value.int .u16 0, Value.int .u16 0, Value.int .u16 0, Value.int .u16 0, Value.int .u16 0, Value.int .u16 0, Value.int .u16 0, Value.int .u16 0, Value.int .u16 0, Value.int .u16 0] A.zipIdx 0 16 = X := by rw [← fold_bl p q A MS.out, MS.out] at hX; exact hX
        have f2 : Array.foldl (fun cs (x : Value × Nat) => cs.setIfInBounds x.2 x.1) #[Value.int .i32 0, Value.int .i32 0, Value.int .u16 0, Value.int .u16 0, Value.int .u16 0, Value.int .u16 0, Value.int .u16 0, Value.int .u16 0, Value.int .u16 0, Value.int .u16 0, Value.int .u16 0, Value.int .u16 0, Value.int .u16 0, Value.int .u16 0, Value.int .u16 0, Value.int .u16 0, Value.int .u16 0, Value.int .u16 0] X.zipIdx 0 18 = X := by have := fold_whole X #[Value.int .i32 0, Value.int .i32 0, Value.int .u16 0, Value.int .u16 0, Value.int .u16 0, Value.int .u16 0, Value.int .u16 0, Value.int .u16 0, Value.int .u16 0, Value.int .u16 0, Value.int .u16 0, Value.int .u16 0, Value.int .u16 0, Value.int .u16 0, Value.int .u16 0, Value.int .u16 0, Value.int .u16 0, Value.int .u16 0] (by rw [XS]; rfl); rw [XS] at this; exact this
        have asz := MS.out
        have c0 : wr.cell? ⟨w.heap.size, 0, none⟩ = some (.int .i32 p) := Lib.cell_of_heap V0.out 0
        have c1 : wr.cell? ⟨w.heap.size, 1, none⟩ = some (.int .i32 q) := Lib.cell_of_heap V0.out 1
        have hl5 : (K ++ [(p, q)]).length = K.length + 1 := by simp
        have XO : Hid (X.all (·.oneCell') = true) := Lib.hid (by rw [← HX.out]; exact bl_one _ _ _)
        have XH := Lib.hid XS
        clear hX hG NO hi hlt B5 O4 Y0 Y1 Z4 B4 JM HPK HMB HM HE
        go_wp2_with (first | (refine wpList_append_bx rfl _ _ rfl (w.heap.size + 2) wr wr (.slice a4 K.length c4) G K (p, q) X HX.out rfl _ rfl rfl O6 (Lib.hid (Below.refl _ _)) Z6.out K1.out ?_; intro v5 w5 O5 b5 s5 g5; obtain ⟨a5, c5, rfl⟩ := O5.out.len; rw [hl5]) | (refine wpList_load_row rfl 71 _ rfl (w.heap.size + 1) rfl 71 _ _ _ V1.out Try.underlying71 rfl (mask_info _ MS.out) ?_))
        obtain ⟨g, cap, cur, hv, hbg, hg, hnc, hcm, hcs, htk⟩ := O5.out.block (by rw [hl5]; omega)
        simp only [Value.slice.injEq] at hv
        obtain ⟨rfl, -, rfl⟩ := hv
        have GB := Lib.hid hbg
        have NC : Hid (K.length + 1 ≤ c5) := Lib.hid (by rw [← hl5]; exact hnc)
        have CM := Lib.hid hcm
        have O7 : Hid (OB (w.heap.size + 2) (.slice (some ⟨g, 0, none⟩) (K.length + 1) c5) G (insK K K.length (p, q)) w5) := Lib.hid (by rw [insK_start]; have := O5.out; rwa [hl5] at this)
        have B7 : Hid (Below w.heap.size w w5) := Lib.hid (B6.out.trans (b5.out.mono (by omega)))
        obtain ⟨wq, rfl⟩ : ∃ x, x = wr := ⟨_, rfl⟩
        clear hbg hg hnc hcm hcs htk O5 b5 s5 g5 O6 c0 c1 f1 f2 asz V0 V1 hl5 XS B6 MS MO
        go_loopw [9] (fun vk wr => ∃ k : Nat, k ≤ K.length ∧ vk = .int .i64 (k : Int) ∧ Hid (OB (w.heap.size + 2) (.slice (some ⟨g, 0, none⟩) (K.length + 1) c5) G (insK K k (p, q)) wr) ∧ Hid (k = K.length ∨ ltP (p, q) K[k]!) ∧ Hid (Below w.heap.size w wr)) (fun vk _ => (intOf vk).toNat)
        case atStart => exact ⟨K.length, Nat.le_refl _, rfl, O7, Lib.hid (.inl rfl), B7⟩
        case round =>
          obtain ⟨k, hk, rfl, O8, LT8, B8⟩ := hrel
          clear O7 B7
          have Z8 : Hid (w.heap.size ≤ wr.heap.size) := Lib.hid B8.out.size
          cases k with
          | zero =>
            have PF := Lib.hid (PKN.out 0 (by omega) (.inl rfl) LT8.out)
            go_wp2
            go_quiet (fail)
            go_wp2
            exact bodyPost_ret (v := .slice (some ⟨g, 0, none⟩) (K.length + 1) c5) (by simp [results, Try.results69, go_sem]) rfl ⟨_, insK K 0 (p, q), rfl, by rw [HGE.out]; exact PF.out, by rw [insK_len]; exact Nat.le_refl _, by rw [HGE.out]; exact OB.mono (B := w.heap.size + 2) O8.out (by have := HBB.out; omega), belowN B8.out⟩
          | succ j =>
            have hj : j < K.length := by omega
            have HJ := Lib.hid hj
            obtain ⟨g', cap, cur, hv, hbg, hg, hnc, hcm, hcs, htk⟩ := O8.out.block (by rw [insK_len]; omega)
            simp only [Value.slice.injEq, Option.some.injEq, Addr.mk.injEq, and_true] at hv
            obtain ⟨rfl, -, rfl⟩ := hv
            have hcells : ∀ (W : World), W.heap[g]? = some (.cells cur 73 (0, 0)) → ∀ i r, i < K.length + 1 → r < 18 → W.cell? ⟨g, i * 18 + r, none⟩ = some (bkc G (insK K (j + 1) (p, q))[i]! r) := fun W hW i r hi hr => by
              have hij : i * 18 + r < (insK K (j + 1) (p, q)).length * 18 := by rw [insK_len]; omega
              rw [Lib.cell_of_heap hW, ← bksV_at G _ i r (by rw [insK_len]; exact hi) hr, ← htk, List.getElem?_take_of_lt hij, Array.getElem?_toList]
            have HCE := Lib.hid hcells
            have HG := Lib.hid hg
            have HCS := Lib.hid hcs
            have HTK := Lib.hid htk
            have e1 := insK_at K (j + 1) (p, q) (by omega)
            have e2 := insK_prev K j (p, q) (by omega)
            have p0 : wr.cell? ⟨g, (j + 1) * 18, none⟩ = some (.int .i32 p) := by have := hcells wr hg (j + 1) 0 (by omega) (by omega); rw [e1] at this; exact this
            have p1 : wr.cell? ⟨g, (j + 1) * 18 + 1, none⟩ = some (.int .i32 q) := by have := hcells wr hg (j + 1) 1 (by omega) (by omega); rw [e1] at this; exact this
            have q0 : wr.cell? ⟨g, j * 18, none⟩ = some (.int .i32 K[j]!.1) := by have := hcells wr hg j 0 (by omega) (by omega); rw [e2] at this; exact this
            have q1 : wr.cell? ⟨g, j * 18 + 1, none⟩ = some (.int .i32 K[j]!.2) := by have := hcells wr hg j 1 (by omega) (by omega); rw [e2] at this; exact this
            have E1 := Lib.hid e1
            have E2 := Lib.hid e2
            obtain ⟨kx, hkx⟩ : ∃ z, K[j]!.1 = z := ⟨_, rfl⟩
            obtain ⟨ky, hky⟩ : ∃ z, K[j]!.2 = z := ⟨_, rfl⟩
            rw [hkx] at q0
            rw [hky] at q1
            have HKJ : Hid (K[j]! = (kx, ky)) := Lib.hid (Prod.ext hkx hky)
            have tj : ((j + 1 : Nat) : Int) ≤ (K.length : Int) := by omega
            have tj0 : (0 : Int) < ((j + 1 : Nat) : Int) := by omega
            have tj1 : ((j + 1 : Nat) : Int) - 1 = (j : Int) := by omega
            have tj2 : (j : Int) < ((j + 1 : Nat) : Int) := by omega
            clear hcells hg hcs htk hnc hcm hbg e1 e2 hkx hky hj hk
            go_wp2
            have GW := Lib.hid (Array.getElem?_eq_some_iff.1 HG.out).1
            have HCX : Hid (∀ W, Below wr.heap.size wr W → W.cell? ⟨g, (j + 1) * 18, none⟩ = some (.int .i32 p) ∧ W.cell? ⟨g, (j + 1) * 18 + 1, none⟩ = some (.int .i32 q) ∧ W.cell? ⟨g, j * 18, none⟩ = some (.int .i32 kx) ∧ W.cell? ⟨g, j * 18 + 1, none⟩ = some (.int .i32 ky)) := Lib.hid fun W hW => ⟨(hW.cell (p := ⟨g, _, none⟩) GW.out).trans p0, (hW.cell (p := ⟨g, _, none⟩) GW.out).trans p1, (hW.cell (p := ⟨g, _, none⟩) GW.out).trans q0, (hW.cell (p := ⟨g, _, none⟩) GW.out).trans q1⟩
            obtain ⟨r, hr⟩ : ∃ r, lessB p q kx ky = r := ⟨_, rfl⟩
            have BEF : Hid (∀ W, Calls Try.prog 104 #[.agg #[.int .i32 p, .int .i32 q], .agg #[.int .i32 kx, .int .i32 ky]] W fun e w' => e = .returned (.bool r) ∧ Below W.heap.size W w') := Lib.hid fun W => by rw [← hr]; exact sBefore_any p q kx ky W
            have HR := Lib.hid hr
            clear p0 p1 q0 q1 hr
            refine wp_region_inv (by kernel_rfl) (fun listed act W => listed.size = 16 ∧ Below wr.heap.size wr W ∧ ∃ x0 x1 x2 x3 x4 x5 x6 x7 x8 x9 x10 x11 x12 x13 x14 x15, act = { tmps := #[v, .agg #[.int .i32 p, .int .i32 q], .agg A, undef, .pointer (some ⟨w.heap.size, 0, none⟩), .pointer (some ⟨w.heap.size + 1, 0, none⟩), u6, .slice (some ⟨g, 0, none⟩) (K.length + 1) c5, .int .i64 (K.length : Int), .int .i64 ((j + 1 : Nat) : Int), u10, .bool false, undef, .slice (some ⟨w2.heap.size, 0, none⟩) 0 0, v, .slice a4 K.length c4, .int .i64 (K.length : Int), .slice a4 K.length c4, .int .i64 (K.length : Int), .bool false, u20, u21, u22, u23, u24, u25, u26, u27, u28, u29, u30, u31, u32, u33, u34, u35, u36, u37, u38, u39, u40, .slice a4 K.length c4, .agg #[.int .i32 p, .int .i32 q], .agg A, .agg X, .slice (some ⟨wq.heap.size, 0, none⟩) 1 1, .slice (some ⟨g, 0, none⟩) (K.length + 1) c5, .slice (some ⟨g, 0, none⟩) (K.length + 1) c5, .int .i64 ((K.length : Int) + 1), .int .i64 (K.length : Int), x0, x1, x2, x3, x4, x5, x6, x7, x8, x9, x10, x11, x12, x13, x14, x15, u66, u67, u68, u69, u70, u71, u72, u73, u74, u75, u76, u77, u78, u79, u80, u81, u82, u83, u84, undef], defers := [] } ∧ (listed.getD 0 false = true → x0 = .int .i64 ((j + 1 : Nat) : Int)) ∧ (listed.getD 1 false = true → x1 = .bool true) ∧ (listed.getD 2 false = true → x2 = .bool true) ∧ (listed.getD 3 false = true → x3 = .slice (some ⟨g, 0, none⟩) (K.length + 1) c5) ∧ (listed.getD 4 false = true → x4 = .int .i64 ((j + 1 : Nat) : Int)) ∧ (listed.getD 5 false = true → x5 = .pointer (some ⟨g, (j + 1) * 18, none⟩)) ∧ (listed.getD 6 false = true → x6 = .pointer (some ⟨g, (j + 1) * 18, none⟩)) ∧ (listed.getD 7 false = true → x7 = .agg #[.int .i32 p, .int .i32 q]) ∧ (listed.getD 8 false = true → x8 = .slice (some ⟨g, 0, none⟩) (K.length + 1) c5) ∧ (listed.getD 9 false = true → x9 = .int .i64 ((j + 1 : Nat) : Int)) ∧ (listed.getD 10 false = true → x10 = .int .i64 (j : Int)) ∧ (listed.getD 11 false = true → x11 = .pointer (some ⟨g, j * 18, none⟩)) ∧ (listed.getD 12 false = true → x12 = .pointer (some ⟨g, j * 18, none⟩)) ∧ (listed.getD 13 false = true → x13 = .agg #[.int .i32 kx, .int .i32 ky]) ∧ (listed.getD 14 false = true → x14 = .bool r) ∧ (listed.getD 15 false = true → x15 = .bool r)) (by kernel_rfl) ?h0y (fun _ _ _ h => h.1) ?hstepy ?hendy
            case h0y =>
              refine ⟨rfl, (Below.refl _ _).drew, _, _, _, _, _, _, _, _, _, _, _, _, _, _, _, _, rfl, ?_, ?_, ?_, ?_, ?_, ?_, ?_, ?_, ?_, ?_, ?_, ?_, ?_, ?_, ?_, ?_⟩ <;> (intro h; exact absurd h (by decide))
            case hstepy =>
              rintro listed act W ii oo ⟨hs, hB, x0, x1, x2, x3, x4, x5, x6, x7, x8, x9, x10, x11, x12, x13, x14, x15, rfl, e0, e1, e2, e3, e4, e5, e6, e7, e8, e9, e10, e11, e12, e13, e14, e15⟩ hun hio hpre
              have HB := Lib.hid hB
              have E0 := Lib.hid e0
              have E1 := Lib.hid e1
              have E2 := Lib.hid e2
              have E3 := Lib.hid e3
              have E4 := Lib.hid e4
              have E5 := Lib.hid e5
              have E6 := Lib.hid e6
              have E7 := Lib.hid e7
              have E8 := Lib.hid e8
              have E9 := Lib.hid e9
              have E10 := Lib.hid e10
              have E11 := Lib.hid e11
              have E12 := Lib.hid e12
              have E13 := Lib.hid e13
              have E14 := Lib.hid e14
              have E15 := Lib.hid e15
              have HS := Lib.hid hs
              have HU := Lib.hid hun
              have PRE := Lib.hid hpre
              clear e0 e1 e2 e3 e4 e5 e6 e7 e8 e9 e10 e11 e12 e13 e14 e15 hs hpre hB hun
              match ii, hio with
              | 0, hio =>
                clear hio
                refine wpOp_by rfl fun KK HK => ?_
                go_wp2_with (fail)
                exact HK.out _ _ ⟨by rw [Array.size_setIfInBounds, HS.out], HB.out, _, _, _, _, _, _, _, _, _, _, _, _, _, _, _, _, rfl, fun _ => rfl, fun h => E1.out ((listed_set h).resolve_left (by decide)), fun h => E2.out ((listed_set h).resolve_left (by decide)), fun h => E3.out ((listed_set h).resolve_left (by decide)), fun h => E4.out ((listed_set h).resolve_left (by decide)), fun h => E5.out ((listed_set h).resolve_left (by decide)), fun h => E6.out ((listed_set h).resolve_left (by decide)), fun h => E7.out ((listed_set h).resolve_left (by decide)), fun h => E8.out ((listed_set h).resolve_left (by decide)), fun h => E9.out ((listed_set h).resolve_left (by decide)), fun h => E10.out ((listed_set h).resolve_left (by decide)), fun h => E11.out ((listed_set h).resolve_left (by decide)), fun h => E12.out ((listed_set h).resolve_left (by decide)), fun h => E13.out ((listed_set h).resolve_left (by decide)), fun h => E14.out ((listed_set h).resolve_left (by decide)), fun h => E15.out ((listed_set h).resolve_left (by decide))⟩
              | 1, hio =>
                simp only [List.getElem?_toArray, List.getElem?_cons_succ, List.getElem?_cons_zero, Option.some.injEq] at hio
                subst hio
                have p0 := PRE.out ⟨0, .data⟩ (by simp) rfl
                obtain rfl := E0.out p0
                refine wpOp_by rfl fun KK HK => ?_
                go_wp2_with (fail)
                exact HK.out _ _ ⟨by rw [Array.size_setIfInBounds, HS.out], HB.out, _, _, _, _, _, _, _, _, _, _, _, _, _, _, _, _, rfl, fun _ => rfl, fun _ => rfl, fun h => E2.out ((listed_set h).resolve_left (by decide)), fun h => E3.out ((listed_set h).resolve_left (by decide)), fun h => E4.out ((listed_set h).resolve_left (by decide)), fun h => E5.out ((listed_set h).resolve_left (by decide)), fun h => E6.out ((listed_set h).resolve_left (by decide)), fun h => E7.out ((listed_set h).resolve_left (by decide)), fun h => E8.out ((listed_set h).resolve_left (by decide)), fun h => E9.out ((listed_set h).resolve_left (by decide)), fun h => E10.out ((listed_set h).resolve_left (by decide)), fun h => E11.out ((listed_set h).resolve_left (by decide)), fun h => E12.out ((listed_set h).resolve_left (by decide)), fun h => E13.out ((listed_set h).resolve_left (by decide)), fun h => E14.out ((listed_set h).resolve_left (by decide)), fun h => E15.out ((listed_set h).resolve_left (by decide))⟩
              | 2, hio =>
                simp only [List.getElem?_toArray, List.getElem?_cons_succ, List.getElem?_cons_zero, Option.some.injEq] at hio
                subst hio
                have p1 := PRE.out ⟨1, .data⟩ (by simp) rfl
                obtain rfl := E1.out p1
                refine wpOp_by rfl fun KK HK => ?_
                go_wp2_with (fail)
                exact HK.out _ _ ⟨by rw [Array.size_setIfInBounds, HS.out], HB.out, _, _, _, _, _, _, _, _, _, _, _, _, _, _, _, _, rfl, fun h => E0.out ((listed_set h).resolve_left (by decide)), fun _ => rfl, fun _ => rfl, fun h => E3.out ((listed_set h).resolve_left (by decide)), fun h => E4.out ((listed_set h).resolve_left (by decide)), fun h => E5.out ((listed_set h).resolve_left (by decide)), fun h => E6.out ((listed_set h).resolve_left (by decide)), fun h => E7.out ((listed_set h).resolve_left (by decide)), fun h => E8.out ((listed_set h).resolve_left (by decide)), fun h => E9.out ((listed_set h).resolve_left (by decide)), fun h => E10.out ((listed_set h).resolve_left (by decide)), fun h => E11.out ((listed_set h).resolve_left (by decide)), fun h => E12.out ((listed_set h).resolve_left (by decide)), fun h => E13.out ((listed_set h).resolve_left (by decide)), fun h => E14.out ((listed_set h).resolve_left (by decide)), fun h => E15.out ((listed_set h).resolve_left (by decide))⟩
              | 3, hio =>
                simp only [List.getElem?_toArray, List.getElem?_cons_succ, List.getElem?_cons_zero, Option.some.injEq] at hio
                subst hio
                have p2 := PRE.out ⟨2, .guard⟩ (by simp) rfl
                obtain rfl := E2.out p2
                refine wpOp_by rfl fun KK HK => ?_
                go_wp2_with (fail)
                exact HK.out _ _ ⟨by rw [Array.size_setIfInBounds, HS.out], HB.out, _, _, _, _, _, _, _, _, _, _, _, _, _, _, _, _, rfl, fun h => E0.out ((listed_set h).resolve_left (by decide)), fun h => E1.out ((listed_set h).resolve_left (by decide)), fun _ => rfl, fun _ => rfl, fun h => E4.out ((listed_set h).resolve_left (by decide)), fun h => E5.out ((listed_set h).resolve_left (by decide)), fun h => E6.out ((listed_set h).resolve_left (by decide)), fun h => E7.out ((listed_set h).resolve_left (by decide)), fun h => E8.out ((listed_set h).resolve_left (by decide)), fun h => E9.out ((listed_set h).resolve_left (by decide)), fun h => E10.out ((listed_set h).resolve_left (by decide)), fun h => E11.out ((listed_set h).resolve_left (by decide)), fun h => E12.out ((listed_set h).resolve_left (by decide)), fun h => E13.out ((listed_set h).resolve_left (by decide)), fun h => E14.out ((listed_set h).resolve_left (by decide)), fun h => E15.out ((listed_set h).resolve_left (by decide))⟩
              | 4, hio =>
                simp only [List.getElem?_toArray, List.getElem?_cons_succ, List.getElem?_cons_zero, Option.some.injEq] at hio
                subst hio
                have p2 := PRE.out ⟨2, .guard⟩ (by simp) rfl
                obtain rfl := E2.out p2
                refine wpOp_by rfl fun KK HK => ?_
                go_wp2_with (fail)
                exact HK.out _ _ ⟨by rw [Array.size_setIfInBounds, HS.out], HB.out, _, _, _, _, _, _, _, _, _, _, _, _, _, _, _, _, rfl, fun h => E0.out ((listed_set h).resolve_left (by decide)), fun h => E1.out ((listed_set h).resolve_left (by decide)), fun _ => rfl, fun h => E3.out ((listed_set h).resolve_left (by decide)), fun _ => rfl, fun h => E5.out ((listed_set h).resolve_left (by decide)), fun h => E6.out ((listed_set h).resolve_left (by decide)), fun h => E7.out ((listed_set h).resolve_left (by decide)), fun h => E8.out ((listed_set h).resolve_left (by decide)), fun h => E9.out ((listed_set h).resolve_left (by decide)), fun h => E10.out ((listed_set h).resolve_left (by decide)), fun h => E11.out ((listed_set h).resolve_left (by decide)), fun h => E12.out ((listed_set h).resolve_left (by decide)), fun h => E13.out ((listed_set h).resolve_left (by decide)), fun h => E14.out ((listed_set h).resolve_left (by decide)), fun h => E15.out ((listed_set h).resolve_left (by decide))⟩
              | 5, hio =>
                simp only [List.getElem?_toArray, List.getElem?_cons_succ, List.getElem?_cons_zero, Option.some.injEq] at hio
                subst hio
                have p3 := PRE.out ⟨3, .data⟩ (by simp) rfl
                have p4 := PRE.out ⟨4, .data⟩ (by simp) rfl
                have p2 := PRE.out ⟨2, .guard⟩ (by simp) rfl
                obtain rfl := E3.out p3
                obtain rfl := E4.out p4
                obtain rfl := E2.out p2
                refine wpOp_by rfl fun KK HK => ?_
                go_wp2_with (fail)
                exact HK.out _ _ ⟨by rw [Array.size_setIfInBounds, HS.out], HB.out, _, _, _, _, _, _, _, _, _, _, _, _, _, _, _, _, rfl, fun h => E0.out ((listed_set h).resolve_left (by decide)), fun h => E1.out ((listed_set h).resolve_left (by decide)), fun _ => rfl, fun _ => rfl, fun _ => rfl, fun _ => rfl, fun h => E6.out ((listed_set h).resolve_left (by decide)), fun h => E7.out ((listed_set h).resolve_left (by decide)), fun h => E8.out ((listed_set h).resolve_left (by decide)), fun h => E9.out ((listed_set h).resolve_left (by decide)), fun h => E10.out ((listed_set h).resolve_left (by decide)), fun h => E11.out ((listed_set h).resolve_left (by decide)), fun h => E12.out ((listed_set h).resolve_left (by decide)), fun h => E13.out ((listed_set h).resolve_left (by decide)), fun h => E14.out ((listed_set h).resolve_left (by decide)), fun h => E15.out ((listed_set h).resolve_left (by decide))⟩
              | 6, hio =>
                simp only [List.getElem?_toArray, List.getElem?_cons_succ, List.getElem?_cons_zero, Option.some.injEq] at hio
                subst hio
                have p5 := PRE.out ⟨5, .data⟩ (by simp) rfl
                have p2 := PRE.out ⟨2, .guard⟩ (by simp) rfl
                obtain rfl := E5.out p5
                obtain rfl := E2.out p2
                refine wpOp_by rfl fun KK HK => ?_
                go_wp2_with (fail)
                exact HK.out _ _ ⟨by rw [Array.size_setIfInBounds, HS.out], HB.out, _, _, _, _, _, _, _, _, _, _, _, _, _, _, _, _, rfl, fun h => E0.out ((listed_set h).resolve_left (by decide)), fun h => E1.out ((listed_set h).resolve_left (by decide)), fun _ => rfl, fun h => E3.out ((listed_set h).resolve_left (by decide)), fun h => E4.out ((listed_set h).resolve_left (by decide)), fun _ => rfl, fun _ => rfl, fun h => E7.out ((listed_set h).resolve_left (by decide)), fun h => E8.out ((listed_set h).resolve_left (by decide)), fun h => E9.out ((listed_set h).resolve_left (by decide)), fun h => E10.out ((listed_set h).resolve_left (by decide)), fun h => E11.out ((listed_set h).resolve_left (by decide)), fun h => E12.out ((listed_set h).resolve_left (by decide)), fun h => E13.out ((listed_set h).resolve_left (by decide)), fun h => E14.out ((listed_set h).resolve_left (by decide)), fun h => E15.out ((listed_set h).resolve_left (by decide))⟩
              | 7, hio =>
                simp only [List.getElem?_toArray, List.getElem?_cons_succ, List.getElem?_cons_zero, Option.some.injEq] at hio
                subst hio
                have p6 := PRE.out ⟨6, .data⟩ (by simp) rfl
                have p2 := PRE.out ⟨2, .guard⟩ (by simp) rfl
                obtain rfl := E6.out p6
                obtain rfl := E2.out p2
                obtain ⟨y0, y1, -, -⟩ := HCX.out _ HB.out
                refine wpOp_by rfl fun KK HK => ?_
                go_wp2_with (fail)
                exact HK.out _ _ ⟨by rw [Array.size_setIfInBounds, HS.out], HB.out, _, _, _, _, _, _, _, _, _, _, _, _, _, _, _, _, rfl, fun h => E0.out ((listed_set h).resolve_left (by decide)), fun h => E1.out ((listed_set h).resolve_left (by decide)), fun _ => rfl, fun h => E3.out ((listed_set h).resolve_left (by decide)), fun h => E4.out ((listed_set h).resolve_left (by decide)), fun h => E5.out ((listed_set h).resolve_left (by decide)), fun _ => rfl, fun _ => rfl, fun h => E8.out ((listed_set h).resolve_left (by decide)), fun h => E9.out ((listed_set h).resolve_left (by decide)), fun h => E10.out ((listed_set h).resolve_left (by decide)), fun h => E11.out ((listed_set h).resolve_left (by decide)), fun h => E12.out ((listed_set h).resolve_left (by decide)), fun h => E13.out ((listed_set h).resolve_left (by decide)), fun h => E14.out ((listed_set h).resolve_left (by decide)), fun h => E15.out ((listed_set h).resolve_left (by decide))⟩
              | 8, hio =>
                simp only [List.getElem?_toArray, List.getElem?_cons_succ, List.getElem?_cons_zero, Option.some.injEq] at hio
                subst hio
                have p2 := PRE.out ⟨2, .guard⟩ (by simp) rfl
                obtain rfl := E2.out p2
                refine wpOp_by rfl fun KK HK => ?_
                go_wp2_with (fail)
                exact HK.out _ _ ⟨by rw [Array.size_setIfInBounds, HS.out], HB.out, _, _, _, _, _, _, _, _, _, _, _, _, _, _, _, _, rfl, fun h => E0.out ((listed_set h).resolve_left (by decide)), fun h => E1.out ((listed_set h).resolve_left (by decide)), fun _ => rfl, fun h => E3.out ((listed_set h).resolve_left (by decide)), fun h => E4.out ((listed_set h).resolve_left (by decide)), fun h => E5.out ((listed_set h).resolve_left (by decide)), fun h => E6.out ((listed_set h).resolve_left (by decide)), fun h => E7.out ((listed_set h).resolve_left (by decide)), fun _ => rfl, fun h => E9.out ((listed_set h).resolve_left (by decide)), fun h => E10.out ((listed_set h).resolve_left (by decide)), fun h => E11.out ((listed_set h).resolve_left (by decide)), fun h => E12.out ((listed_set h).resolve_left (by decide)), fun h => E13.out ((listed_set h).resolve_left (by decide)), fun h => E14.out ((listed_set h).resolve_left (by decide)), fun h => E15.out ((listed_set h).resolve_left (by decide))⟩
              | 9, hio =>
                simp only [List.getElem?_toArray, List.getElem?_cons_succ, List.getElem?_cons_zero, Option.some.injEq] at hio
                subst hio
                have p2 := PRE.out ⟨2, .guard⟩ (by simp) rfl
                obtain rfl := E2.out p2
                refine wpOp_by rfl fun KK HK => ?_
                go_wp2_with (fail)
                exact HK.out _ _ ⟨by rw [Array.size_setIfInBounds, HS.out], HB.out, _, _, _, _, _, _, _, _, _, _, _, _, _, _, _, _, rfl, fun h => E0.out ((listed_set h).resolve_left (by decide)), fun h => E1.out ((listed_set h).resolve_left (by decide)), fun _ => rfl, fun h => E3.out ((listed_set h).resolve_left (by decide)), fun h => E4.out ((listed_set h).resolve_left (by decide)), fun h => E5.out ((listed_set h).resolve_left (by decide)), fun h => E6.out ((listed_set h).resolve_left (by decide)), fun h => E7.out ((listed_set h).resolve_left (by decide)), fun h => E8.out ((listed_set h).resolve_left (by decide)), fun _ => rfl, fun h => E10.out ((listed_set h).resolve_left (by decide)), fun h => E11.out ((listed_set h).resolve_left (by decide)), fun h => E12.out ((listed_set h).resolve_left (by decide)), fun h => E13.out ((listed_set h).resolve_left (by decide)), fun h => E14.out ((listed_set h).resolve_left (by decide)), fun h => E15.out ((listed_set h).resolve_left (by decide))⟩
              | 10, hio =>
                simp only [List.getElem?_toArray, List.getElem?_cons_succ, List.getElem?_cons_zero, Option.some.injEq] at hio
                subst hio
                have p9 := PRE.out ⟨9, .data⟩ (by simp) rfl
                have p2 := PRE.out ⟨2, .guard⟩ (by simp) rfl
                obtain rfl := E9.out p9
                obtain rfl := E2.out p2
                refine wpOp_by rfl fun KK HK => ?_
                go_wp2_with (fail)
                exact HK.out _ _ ⟨by rw [Array.size_setIfInBounds, HS.out], HB.out, _, _, _, _, _, _, _, _, _, _, _, _, _, _, _, _, rfl, fun h => E0.out ((listed_set h).resolve_left (by decide)), fun h => E1.out ((listed_set h).resolve_left (by decide)), fun _ => rfl, fun h => E3.out ((listed_set h).resolve_left (by decide)), fun h => E4.out ((listed_set h).resolve_left (by decide)), fun h => E5.out ((listed_set h).resolve_left (by decide)), fun h => E6.out ((listed_set h).resolve_left (by decide)), fun h => E7.out ((listed_set h).resolve_left (by decide)), fun h => E8.out ((listed_set h).resolve_left (by decide)), fun _ => rfl, fun _ => rfl, fun h => E11.out ((listed_set h).resolve_left (by decide)), fun h => E12.out ((listed_set h).resolve_left (by decide)), fun h => E13.out ((listed_set h).resolve_left (by decide)), fun h => E14.out ((listed_set h).resolve_left (by decide)), fun h => E15.out ((listed_set h).resolve_left (by decide))⟩
              | 11, hio =>
                simp only [List.getElem?_toArray, List.getElem?_cons_succ, List.getElem?_cons_zero, Option.some.injEq] at hio
                subst hio
                have p8 := PRE.out ⟨8, .data⟩ (by simp) rfl
                have p10 := PRE.out ⟨10, .data⟩ (by simp) rfl
                have p2 := PRE.out ⟨2, .guard⟩ (by simp) rfl
                obtain rfl := E8.out p8
                obtain rfl := E10.out p10
                obtain rfl := E2.out p2
                refine wpOp_by rfl fun KK HK => ?_
                go_wp2_with (fail)
                exact HK.out _ _ ⟨by rw [Array.size_setIfInBounds, HS.out], HB.out, _, _, _, _, _, _, _, _, _, _, _, _, _, _, _, _, rfl, fun h => E0.out ((listed_set h).resolve_left (by decide)), fun h => E1.out ((listed_set h).resolve_left (by decide)), fun _ => rfl, fun h => E3.out ((listed_set h).resolve_left (by decide)), fun h => E4.out ((listed_set h).resolve_left (by decide)), fun h => E5.out ((listed_set h).resolve_left (by decide)), fun h => E6.out ((listed_set h).resolve_left (by decide)), fun h => E7.out ((listed_set h).resolve_left (by decide)), fun _ => rfl, fun h => E9.out ((listed_set h).resolve_left (by decide)), fun _ => rfl, fun _ => rfl, fun h => E12.out ((listed_set h).resolve_left (by decide)), fun h => E13.out ((listed_set h).resolve_left (by decide)), fun h => E14.out ((listed_set h).resolve_left (by decide)), fun h => E15.out ((listed_set h).resolve_left (by decide))⟩
              | 12, hio =>
                simp only [List.getElem?_toArray, List.getElem?_cons_succ, List.getElem?_cons_zero, Option.some.injEq] at hio
                subst hio
                have p11 := PRE.out ⟨11, .data⟩ (by simp) rfl
                have p2 := PRE.out ⟨2, .guard⟩ (by simp) rfl
                obtain rfl := E11.out p11
                obtain rfl := E2.out p2
                refine wpOp_by rfl fun KK HK => ?_
                go_wp2_with (fail)
                exact HK.out _ _ ⟨by rw [Array.size_setIfInBounds, HS.out], HB.out, _, _, _, _, _, _, _, _, _, _, _, _, _, _, _, _, rfl, fun h => E0.out ((listed_set h).resolve_left (by decide)), fun h => E1.out ((listed_set h).resolve_left (by decide)), fun _ => rfl, fun h => E3.out ((listed_set h).resolve_left (by decide)), fun h => E4.out ((listed_set h).resolve_left (by decide)), fun h => E5.out ((listed_set h).resolve_left (by decide)), fun h => E6.out ((listed_set h).resolve_left (by decide)), fun h => E7.out ((listed_set h).resolve_left (by decide)), fun h => E8.out ((listed_set h).resolve_left (by decide)), fun h => E9.out ((listed_set h).resolve_left (by decide)), fun h => E10.out ((listed_set h).resolve_left (by decide)), fun _ => rfl, fun _ => rfl, fun h => E13.out ((listed_set h).resolve_left (by decide)), fun h => E14.out ((listed_set h).resolve_left (by decide)), fun h => E15.out ((listed_set h).resolve_left (by decide))⟩
              | 13, hio =>
                simp only [List.getElem?_toArray, List.getElem?_cons_succ, List.getElem?_cons_zero, Option.some.injEq] at hio
                subst hio
                have p12 := PRE.out ⟨12, .data⟩ (by simp) rfl
                have p2 := PRE.out ⟨2, .guard⟩ (by simp) rfl
                obtain rfl := E12.out p12
                obtain rfl := E2.out p2
                obtain ⟨-, -, y0, y1⟩ := HCX.out _ HB.out
                refine wpOp_by rfl fun KK HK => ?_
                go_wp2_with (fail)
                exact HK.out _ _ ⟨by rw [Array.size_setIfInBounds, HS.out], HB.out, _, _, _, _, _, _, _, _, _, _, _, _, _, _, _, _, rfl, fun h => E0.out ((listed_set h).resolve_left (by decide)), fun h => E1.out ((listed_set h).resolve_left (by decide)), fun _ => rfl, fun h => E3.out ((listed_set h).resolve_left (by decide)), fun h => E4.out ((listed_set h).resolve_left (by decide)), fun h => E5.out ((listed_set h).resolve_left (by decide)), fun h => E6.out ((listed_set h).resolve_left (by decide)), fun h => E7.out ((listed_set h).resolve_left (by decide)), fun h => E8.out ((listed_set h).resolve_left (by decide)), fun h => E9.out ((listed_set h).resolve_left (by decide)), fun h => E10.out ((listed_set h).resolve_left (by decide)), fun h => E11.out ((listed_set h).resolve_left (by decide)), fun _ => rfl, fun _ => rfl, fun h => E14.out ((listed_set h).resolve_left (by decide)), fun h => E15.out ((listed_set h).resolve_left (by decide))⟩
              | 14, hio =>
                simp only [List.getElem?_toArray, List.getElem?_cons_succ, List.getElem?_cons_zero, Option.some.injEq] at hio
                subst hio
                have p7 := PRE.out ⟨7, .data⟩ (by simp) rfl
                have p13 := PRE.out ⟨13, .data⟩ (by simp) rfl
                have p2 := PRE.out ⟨2, .guard⟩ (by simp) rfl
                obtain rfl := E7.out p7
                obtain rfl := E13.out p13
                obtain rfl := E2.out p2
                refine wpOp_by rfl fun KK HK => ?_
                go_wp2_with fail
                refine Calls.mono (BEF.out _) ?_
                rintro e W' ⟨rfl, b⟩
                go_wp2
                exact HK.out _ _ ⟨by rw [Array.size_setIfInBounds, HS.out], HB.out.trans (b.mono HB.out.size), _, _, _, _, _, _, _, _, _, _, _, _, _, _, _, _, rfl, fun h => E0.out ((listed_set h).resolve_left (by decide)), fun h => E1.out ((listed_set h).resolve_left (by decide)), fun _ => rfl, fun h => E3.out ((listed_set h).resolve_left (by decide)), fun h => E4.out ((listed_set h).resolve_left (by decide)), fun h => E5.out ((listed_set h).resolve_left (by decide)), fun h => E6.out ((listed_set h).resolve_left (by decide)), fun _ => rfl, fun h => E8.out ((listed_set h).resolve_left (by decide)), fun h => E9.out ((listed_set h).resolve_left (by decide)), fun h => E10.out ((listed_set h).resolve_left (by decide)), fun h => E11.out ((listed_set h).resolve_left (by decide)), fun h => E12.out ((listed_set h).resolve_left (by decide)), fun _ => rfl, fun _ => rfl, fun h => E15.out ((listed_set h).resolve_left (by decide))⟩
              | 15, hio =>
                simp only [List.getElem?_toArray, List.getElem?_cons_succ, List.getElem?_cons_zero, Option.some.injEq] at hio
                subst hio
                have p2 := PRE.out ⟨2, .data⟩ (by simp) rfl
                have p14 := PRE.out ⟨14, .data⟩ (by simp) rfl
                obtain rfl := E2.out p2
                obtain rfl := E14.out p14
                refine wpOp_by rfl fun KK HK => ?_
                go_wp2_with (fail)
                exact HK.out _ _ ⟨by rw [Array.size_setIfInBounds, HS.out], HB.out, _, _, _, _, _, _, _, _, _, _, _, _, _, _, _, _, rfl, fun h => E0.out ((listed_set h).resolve_left (by decide)), fun h => E1.out ((listed_set h).resolve_left (by decide)), fun _ => rfl, fun h => E3.out ((listed_set h).resolve_left (by decide)), fun h => E4.out ((listed_set h).resolve_left (by decide)), fun h => E5.out ((listed_set h).resolve_left (by decide)), fun h => E6.out ((listed_set h).resolve_left (by decide)), fun h => E7.out ((listed_set h).resolve_left (by decide)), fun h => E8.out ((listed_set h).resolve_left (by decide)), fun h => E9.out ((listed_set h).resolve_left (by decide)), fun h => E10.out ((listed_set h).resolve_left (by decide)), fun h => E11.out ((listed_set h).resolve_left (by decide)), fun h => E12.out ((listed_set h).resolve_left (by decide)), fun h => E13.out ((listed_set h).resolve_left (by decide)), fun _ => rfl, fun _ => rfl⟩
              | k + 16, hio => simp at hio
            case hendy =>
              rintro listed act W1 ⟨hs, hB, x0, x1, x2, x3, x4, x5, x6, x7, x8, x9, x10, x11, x12, x13, x14, x15, rfl, e0, e1, e2, e3, e4, e5, e6, e7, e8, e9, e10, e11, e12, e13, e14, e15⟩ hall
              obtain rfl := e0 (hall 0 (by decide))
              obtain rfl := e1 (hall 1 (by decide))
              obtain rfl := e2 (hall 2 (by decide))
              obtain rfl := e3 (hall 3 (by decide))
              obtain rfl := e4 (hall 4 (by decide))
              obtain rfl := e5 (hall 5 (by decide))
              obtain rfl := e6 (hall 6 (by decide))
              obtain rfl := e7 (hall 7 (by decide))
              obtain rfl := e8 (hall 8 (by decide))
              obtain rfl := e9 (hall 9 (by decide))
              obtain rfl := e10 (hall 10 (by decide))
              obtain rfl := e11 (hall 11 (by decide))
              obtain rfl := e12 (hall 12 (by decide))
              obtain rfl := e13 (hall 13 (by decide))
              obtain rfl := e14 (hall 14 (by decide))
              obtain rfl := e15 (hall 15 (by decide))
              have BY := Lib.hid hB
              clear hs
              have BY2 : Hid (Below w.heap.size w W1) := Lib.hid (B8.out.trans (BY.out.mono B8.out.size))
              have HGY : Hid (W1.heap[g]? = some (.cells cur 73 (0, 0))) := Lib.hid ((BY.out.block _ GW.out).trans HG.out)
              have GY : Hid (g < W1.heap.size) := Lib.hid (Nat.lt_of_lt_of_le GW.out BY.out.size)
              clear hB
              cases r with
              | false =>
                have LT9 : Hid (ltP K[j]! (p, q)) := Lib.hid (by
                  rw [HKJ.out]
                  refine ltP_tri (fun h => ?_) (fun e => NI.out (by rw [e, ← HKJ.out, getElem!_pos K j HJ.out]; exact List.getElem_mem HJ.out))
                  have := HR.out
                  unfold ltP at h
                  unfold lessB at this
                  simp only [Bool.or_eq_false_iff, Bool.and_eq_false_iff, decide_eq_false_iff_not] at this
                  simp only at h
                  omega)
                have PF := Lib.hid (PKN.out (j + 1) HJ.out (.inr LT9.out) LT8.out)
                have OF : Hid (OB (w.heap.size + 2) (.slice (some ⟨g, 0, none⟩) (K.length + 1) c5) G (insK K (j + 1) (p, q)) W1) := Lib.hid (O8.out.kept (below_grown BY.out) (ownNone _))
                go_wp2
                exact bodyPost_ret (v := .slice (some ⟨g, 0, none⟩) (K.length + 1) c5) (by simp [results, Try.results69, go_sem]) rfl ⟨_, rfl, insK K (j + 1) (p, q), by rw [HGE.out]; exact PF.out, by rw [insK_len]; exact Nat.le_refl _, by rw [HGE.out]; exact OF.out.mono (by have := HBB.out; omega), BY2.out⟩
              | true =>
                have LT9 : Hid (ltP (p, q) K[j]!) := Lib.hid (by
                  rw [HKJ.out]
                  have := HR.out
                  unfold lessB at this
                  unfold ltP
                  simp only [Bool.or_eq_true, Bool.and_eq_true, decide_eq_true_eq] at this
                  simp only
                  omega)
                obtain ⟨Y, hY⟩ : ∃ Y, bkA G (kx, ky) = Y := ⟨_, rfl⟩
                have YS : Hid (Y.size = 18) := Lib.hid (by rw [← hY]; exact bkA_size _ _)
                have YO : Hid (Y.all (·.oneCell') = true) := Lib.hid (by rw [← hY]; exact bl_one _ _ _)
                have YL : Hid (Y.toList = encB G (kx, ky)) := Lib.hid (by rw [← hY]; exact bkA_list _ _)
                have XL : Hid (X.toList = encB G (p, q)) := Lib.hid (by rw [← HX.out]; exact bkA_list _ _)
                have CX : Hid (∀ W : World, W.heap[g]? = some (.cells cur 73 (0, 0)) → ∀ t u, X[t]? = some u → W.cell? ⟨g, (j + 1) * 18 + t, none⟩ = some u) := Lib.hid fun W hW t u e => by
                  have ht : t < 18 := by
                    have := (Array.getElem?_eq_some_iff.1 e).1
                    rwa [XH.out] at this
                  rw [HCE.out W hW (j + 1) t (by have := HJ.out; omega) ht, E1.out, ← e, ← Array.getElem?_toList, XL.out, encB_at _ _ _ ht]
                have CY : Hid (∀ W : World, W.heap[g]? = some (.cells cur 73 (0, 0)) → ∀ t u, Y[t]? = some u → W.cell? ⟨g, j * 18 + t, none⟩ = some u) := Lib.hid fun W hW t u e => by
                  have ht : t < 18 := by
                    have := (Array.getElem?_eq_some_iff.1 e).1
                    rwa [YS.out] at this
                  rw [HCE.out W hW j t (by have := HJ.out; omega) ht, E2.out, HKJ.out, ← e, ← Array.getElem?_toList, YL.out, encB_at _ _ _ ht]
                obtain ⟨w9, hw9⟩ : ∃ x, W1.alloc (.cells #[Value.int .i32 0, Value.int .i32 0, Value.int .u16 0, Value.int .u16 0, Value.int .u16 0, Value.int .u16 0, Value.int .u16 0, Value.int .u16 0, Value.int .u16 0, Value.int .u16 0, Value.int .u16 0, Value.int .u16 0, Value.int .u16 0, Value.int .u16 0, Value.int .u16 0, Value.int .u16 0, Value.int .u16 0, Value.int .u16 0] 73) = x := ⟨_, rfl⟩
                have T9 : Hid (w9.heap[W1.heap.size]? = some (.cells #[Value.int .i32 0, Value.int .i32 0, Value.int .u16 0, Value.int .u16 0, Value.int .u16 0, Value.int .u16 0, Value.int .u16 0, Value.int .u16 0, Value.int .u16 0, Value.int .u16 0, Value.int .u16 0, Value.int .u16 0, Value.int .u16 0, Value.int .u16 0, Value.int .u16 0, Value.int .u16 0, Value.int .u16 0, Value.int .u16 0] 73 (0, 0))) := Lib.hid (by rw [← hw9]; exact World.alloc_heap_new W1 _)
                obtain ⟨w10, hw10⟩ : ∃ x, w9.setRow W1.heap.size X = x := ⟨_, rfl⟩
                have b10 : Below W1.heap.size W1 w10 := by rw [← hw10, ← hw9]; exact below_setRow ((Below.refl _ _).alloc (Nat.le_refl _) _) (Nat.le_refl _) _
                have T10 : Hid (w10.heap[W1.heap.size]? = some (.cells X 73 (0, 0))) := Lib.hid (by rw [← hw10]; exact setRow_heap _ _ _ _ _ _ T9.out)
                have G10 : Hid (w10.heap[g]? = some (.cells cur 73 (0, 0))) := Lib.hid ((b10.block _ GY.out).trans HGY.out)
                have B10 : Hid (Below w.heap.size w w10) := Lib.hid (BY2.out.trans (b10.mono BY2.out.size))
                obtain ⟨w11, hw11⟩ : ∃ x, w10.setRow g (splice cur.toList ((j + 1) * 18) Y.toList).toArray = x := ⟨_, rfl⟩
                have G11 : Hid (w11.heap[g]? = some (.cells (splice cur.toList ((j + 1) * 18) Y.toList).toArray 73 (0, 0))) := Lib.hid (by rw [← hw11]; exact setRow_heap _ _ _ _ _ _ G10.out)
                have T11 : Hid (w11.heap[W1.heap.size]? = some (.cells X 73 (0, 0))) := Lib.hid (by rw [← hw11]; exact (setRow_other w10 _ _ _ (by have := GY.out; omega)).trans T10.out)
                have B11 : Hid (Below w.heap.size w w11) := Lib.hid (by rw [← hw11]; exact below_setRow B10.out (by have := GB.out; omega) _)
                have LL := insK_len K (j + 1) (p, q)
                have O11 : Hid (OB (w.heap.size + 2) (.slice (some ⟨g, 0, none⟩) (K.length + 1) c5) G ((insK K (j + 1) (p, q)).set (j + 1) (kx, ky)) w11) := Lib.hid (by
                  have h := own_put (e := 73) (n := K.length + 1) (o := (j + 1) * 18) (xs := bksV G (insK K (j + 1) (p, q))) (ys := Y.toList) GB.out G10.out NC.out CM.out HCS.out (by rw [← LL]; exact HTK.out) (by have := HJ.out; simp only [Array.length_toList, YS.out]; omega)
                  have e := bksV_set G (insK K (j + 1) (p, q)) (j + 1) (kx, ky) (by rw [LL]; have := HJ.out; omega)
                  rw [YL.out, e, ← YL.out, hw11] at h
                  unfold OB
                  rw [List.length_set, LL]
                  exact h)
                obtain ⟨w12, hw12⟩ : ∃ x, w11.setRow g (splice (splice cur.toList ((j + 1) * 18) Y.toList) (j * 18) X.toList).toArray = x := ⟨_, rfl⟩
                have B12 : Hid (Below w.heap.size w w12) := Lib.hid (by rw [← hw12]; exact below_setRow B11.out (by have := GB.out; omega) _)
                have S11 : Hid ((splice cur.toList ((j + 1) * 18) Y.toList).toArray.size = c5 * 18) := Lib.hid (by
                  have := HCS.out; have := HJ.out; have := NC.out
                  simp only [List.size_toArray]
                  rw [length_splice _ _ _ (by simp only [Array.length_toList, YS.out]; omega)]
                  simpa using HCS.out)
                have O12 : Hid (OB (w.heap.size + 2) (.slice (some ⟨g, 0, none⟩) (K.length + 1) c5) G (insK K j (p, q)) w12) := Lib.hid (by
                  obtain ⟨g2, cap2, cur2, hv2, -, hg2, -, -, -, ht2⟩ := O11.out.block (by rw [List.length_set, LL]; omega)
                  simp only [Value.slice.injEq, Option.some.injEq, Addr.mk.injEq, and_true] at hv2
                  obtain ⟨rfl, -, rfl⟩ := hv2
                  have ec : cur2 = (splice cur.toList ((j + 1) * 18) Y.toList).toArray := by
                    have := hg2.symm.trans G11.out
                    simpa using this
                  rw [List.length_set, LL, ec] at ht2
                  have h := own_put (e := 73) (n := K.length + 1) (o := j * 18) (ys := X.toList) GB.out G11.out NC.out CM.out S11.out ht2 (by have := HJ.out; simp only [Array.length_toList, XH.out]; omega)
                  have e := bksV_set G ((insK K (j + 1) (p, q)).set (j + 1) (kx, ky)) j (p, q) (by rw [List.length_set, LL]; have := HJ.out; omega)
                  have e3 := insK_swap K j (p, q) HJ.out
                  rw [HKJ.out] at e3
                  rw [e3] at e
                  rw [XL.out, e, ← XL.out] at h
                  rw [show (splice (splice cur.toList ((j + 1) * 18) Y.toList).toArray.toList (j * 18) X.toList).toArray = (splice (splice cur.toList ((j + 1) * 18) Y.toList) (j * 18) X.toList).toArray from rfl, hw12] at h
                  unfold OB
                  rw [insK_len]
                  exact h)
                have M1 : Hid ((j + 1) * 18 + Y.size ≤ cur.size) := Lib.hid (by have := HCS.out; have := HJ.out; have := NC.out; rw [YS.out, HCS.out]; omega)
                have M2 : Hid (j * 18 + X.size ≤ (splice cur.toList ((j + 1) * 18) Y.toList).toArray.size) := Lib.hid (by have := HJ.out; have := NC.out; rw [XH.out, S11.out]; omega)
                clear hY b10 LL
                go_wp2_with (first | (refine wpList_load_part rfl 73 _ rfl g ((j + 1) * 18) rfl X _ (CX.out _ HGY.out) Try.underlying73 rfl (ib_info _ XH.out) ?_) | (refine wpList_store_row rfl 73 _ _ rfl W1.heap.size X rfl rfl 73 _ T9.out (ib_info _ XH.out) XH.out.symm XO.out ?_; rw [hw10]) | (refine wpList_load_part rfl 73 _ rfl g (j * 18) rfl Y _ (CY.out _ G10.out) Try.underlying73 rfl (ib_info _ YS.out) ?_) | (refine wpList_store_part rfl 73 _ _ rfl g ((j + 1) * 18) Y rfl rfl 73 cur G10.out (ib_info _ YS.out) M1.out YO.out ?_; rw [hw11]) | (refine wpList_load_row rfl 73 _ rfl W1.heap.size rfl 73 _ _ _ T11.out Try.underlying73 rfl (ib_info _ XH.out) ?_) | (refine wpList_store_part rfl 73 _ _ rfl g (j * 18) X rfl rfl 73 _ G11.out (ib_info _ XH.out) M2.out XO.out ?_; rw [hw12]))
                go_roundw
                case rel => exact ⟨j, Nat.le_of_lt HJ.out, by go_num, O12, Lib.hid (.inr LT9.out), B12⟩
                case measure => simp [intOf]
end Go.Proofs.Ythfmkejdpflpcaa
