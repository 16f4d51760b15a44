/-
  VALID PICTURES, the specification's l07Ok.
-/
import Derived.Test.YthfmkejdpflpcaaVc
import Derived.Test.YthfmkejdpflpcaaRt
namespace Go.Proofs.Ythfmkejdpflpcaa
open Go.ChangeShapes Go.WideShapes Go.ChangeAt Go.RowKit
def mkF (f : Nat → Int) (i : Nat) : Nat → Int := fun y => f (i * 18 + 2 + y)
def lessAt (f : Nat → Int) (i : Nat) : Bool := lessB (f ((i - 1) * 18)) (f ((i - 1) * 18 + 1)) (f (i * 18)) (f (i * 18 + 1))
def okB (f : Nat → Int) (i : Nat) : Bool := hasPic (f (i * 18)) (f (i * 18 + 1)) (mkF f i) && (decide (i = 0) || lessAt f i)
def validP (f : Nat → Int) (n : Nat) : Bool := decide (n ≤ 64) && (List.range n).all (okB f)
theorem blf_co {n : Nat} {f : Nat → Int} (h : BlF n f) {i : Nat} (hi : i < n) : I32 (f (i * 18)) ∧ I32 (f (i * 18 + 1)) := by
  have h0 := h (i * 18) (by omega)
  have h1 := h (i * 18 + 1) (by omega)
  rw [if_pos (by omega)] at h0 h1
  exact ⟨h0, h1⟩
theorem blf_mk {n : Nat} {f : Nat → Int} (h : BlF n f) {i : Nat} (hi : i < n) : MB (mkF f i) := fun y hy => by
  have h0 := h (i * 18 + 2 + y) (by omega)
  rw [if_neg (by omega)] at h0
  exact h0
theorem blk_eq (f : Nat → Int) (i : Nat) : blk f i = bl (f (i * 18)) (f (i * 18 + 1)) (mkF f i) := rfl
theorem okB_false {f : Nat → Int} {n i : Nat} (hi : i < n) (h : okB f i = false) : (List.range n).all (okB f) = false := List.all_eq_false.2 ⟨i, by simpa using hi, by rw [h]; simp⟩
theorem okB_next {f : Nat → Int} {k : Nat} (h : (List.range k).all (okB f) = true) (h2 : okB f k = true) : (List.range (k + 1)).all (okB f) = true := by
  rw [List.range_succ, List.all_append, h]; simp [h2]
set_option maxRecDepth 20000 in
set_option maxHeartbeats 16000000 in
theorem sOk_any (a : Option Addr) (n cap : Nat) (f : Nat → Int) (B : Nat) (w : World) (hB : B ≤ w.heap.size) (hn : n ≤ 1048576) (h : BlR B w a n f) (hf : BlF n f) :
    Calls Try.prog 61 #[.slice a n cap] w fun e w' => e = .returned (.bool (validP f n)) ∧ Below w.heap.size w w' := by
  by_cases h64 : 64 < n
  · have hv : validP f n = false := by unfold validP; rw [decide_eq_false (by omega)]; rfl
    rw [hv]
    have t64 : (64 : Int) < (n : Int) := by omega
    go_enter Try.func61, Try.ntmps61
    go_wp2
    go_ret
    exact ⟨rfl, Below.refl _ _⟩
  have hv : validP f n = (List.range n).all (okB f) := by unfold validP; rw [decide_eq_true (by omega)]; rfl
  rw [hv]
  clear hv
  have t64 : (n : Int) ≤ 64 := by omega
  have HR := Lib.hid h
  have HF := Lib.hid hf
  have SE := Lib.hid sEmpty_any
  have SFI := Lib.hid sFits_any
  have SBE := Lib.hid sBefore_any
  have CR := Lib.hid cmpRows_any
  have HPI := Lib.hid hasPic_any
  clear h hf h64 hn
  go_enter Try.func61, Try.ntmps61
  go_wp2
  go_loopw [3] (fun vi wr => ∃ i : Nat, i ≤ n ∧ vi = .int .i64 (i : Int) ∧ Below w.heap.size w wr ∧ ((List.range i).all (okB f)) = true) (fun vi _ => n - (intOf vi).toNat)
  case atStart => exact ⟨0, Nat.zero_le _, rfl, Below.refl _ _, rfl⟩
  case round =>
    obtain ⟨i, hi, rfl, hb, hall⟩ := hrel
    have HB := Lib.hid hb
    have HA := Lib.hid hall
    clear hb hall
    by_cases hlt : i < n
    · obtain ⟨g, o, rfl, hg, hc⟩ : ∃ b off, a = some ⟨b, off, none⟩ ∧ b < B ∧ ∀ j, j < 18 * n → w.cell? ⟨b, off + j, none⟩ = some (bcell f j) := by
        rcases HR.out with h | h
        · omega
        · exact h
      have tk : (i : Int) < (n : Int) := by omega
      have GC : Hid (∀ k, k < n → ∀ W, Below wr.heap.size wr W → ∀ j v, (blk f k)[j]? = some v → W.cell? ⟨g, o + k * 18 + j, none⟩ = some v) := Lib.hid fun k hk W hW j v e => by
        have hj : j < 18 := by
          rcases Nat.lt_or_ge j 18 with h | h
          · exact h
          · rw [Array.getElem?_eq_none (by rw [blk_size]; exact h)] at e; cases e
        have hs := HB.out.size
        rw [hW.cell (p := ⟨g, o + k * 18 + j, none⟩) (by show g < _; omega), HB.out.cell (p := ⟨g, o + k * 18 + j, none⟩) (by show g < _; omega), Nat.add_assoc, hc (k * 18 + j) (by omega), ← blk_get f k j hj]
        exact e
      have GB : Hid (g < wr.heap.size) := Lib.hid (by have := HB.out.size; omega)
      obtain ⟨hp, hq⟩ := blf_co HF.out hlt
      have hmb := blf_mk HF.out hlt
      have HI := Lib.hid hlt
      obtain ⟨p, ep⟩ : ∃ p, f (i * 18) = p := ⟨_, rfl⟩
      obtain ⟨q, eq⟩ : ∃ q, f (i * 18 + 1) = q := ⟨_, rfl⟩
      obtain ⟨mk, em⟩ : ∃ mk, mkF f i = mk := ⟨_, rfl⟩
      have eb : blk f i = bl p q mk := by rw [blk_eq, ep, eq, em]
      have OKI : Hid (okB f i = (((cellL mk).all (cellIn p q) && !emptyF mk) && (decide (i = 0) || lessAt f i))) := Lib.hid (by unfold okB hasPic; rw [ep, eq, em])
      rw [ep] at hp
      rw [eq] at hq
      rw [em] at hmb
      obtain ⟨p0, ep0⟩ : ∃ p0, f ((i - 1) * 18) = p0 := ⟨_, rfl⟩
      obtain ⟨q0, eq0⟩ : ∃ q0, f ((i - 1) * 18 + 1) = q0 := ⟨_, rfl⟩
      have LC0 : Hid (∀ W, Below wr.heap.size wr W → ∀ j v, (#[Value.int .i32 p0, .int .i32 q0] : Array Value)[j]? = some v → W.cell? ⟨g, o + (i - 1) * 18 + j, none⟩ = some v) := Lib.hid fun W hW j v e => GC.out (i - 1) (by have := HI.out; omega) W hW j v (by rw [blk_eq, ep0, eq0]; have := bl_co p0 q0 (mkF f (i - 1)) j v e; rwa [Nat.zero_add] at this)
      have BEF : Hid (∀ W, Calls Try.prog 104 #[.agg #[.int .i32 p0, .int .i32 q0], .agg #[.int .i32 p, .int .i32 q]] W fun e w' => e = .returned (.bool (lessAt f i)) ∧ Below W.heap.size W w') := Lib.hid fun W => by unfold lessAt; rw [ep0, eq0, ep, eq]; exact SBE.out p0 q0 p q W
      have EMP : Hid (∀ W, Below wr.heap.size wr W → Calls Try.prog 102 #[.pointer (some ⟨g, o + i * 18 + 2, none⟩)] W fun e w' => e = .returned (.bool (emptyF mk)) ∧ Below W.heap.size W w') := Lib.hid fun W hW => SE.out mk g (o + i * 18 + 2) W fun j v e => by
        rw [Nat.add_assoc (o + i * 18) 2 j]
        exact GC.out i HI.out W hW (2 + j) v (by rw [eb]; exact bl_mask p q mk j v e)
      have FIT : Hid (∀ W, Below wr.heap.size wr W → Calls Try.prog 103 #[.pointer (some ⟨g, o + i * 18, none⟩)] W fun e w' => e = .returned (.bool ((cellL mk).all (cellIn p q))) ∧ Below W.heap.size W w') := Lib.hid fun W hW => SFI.out p q hp hq mk hmb g (o + i * 18) W fun j v e => GC.out i HI.out W hW j v (by rw [eb]; exact e)
      have LCO : Hid (∀ W, Below wr.heap.size wr W → ∀ j v, (#[Value.int .i32 p, .int .i32 q] : Array Value)[j]? = some v → W.cell? ⟨g, o + i * 18 + j, none⟩ = some v) := Lib.hid fun W hW j v e => GC.out i HI.out W hW j v (by rw [eb]; have := bl_co p q mk j v e; rwa [Nat.zero_add] at this)
      generalize hE : emptyF mk = E at EMP OKI
      generalize hF : (cellL mk).all (cellIn p q) = Fi at FIT OKI
      generalize hL : lessAt f i = L at BEF OKI
      clear hE hF hL eb hmb ep eq em ep0 eq0 SE SFI SBE CR HPI
      clear hc hlt hi hg
      go_wp2
      cases E with
      | true =>
        obtain ⟨V, v0, v1, v2, v3, v4, v5, v6, v7, v8, v9, v10, v11, v12, v13, v14, v15, v16, v17, v18, v19, v20, v21, v22, v23, v24, v25, v26, v27, v28, v29, v30⟩ : ∃ V : Nat → Value, V 0 = .slice (some ⟨g, o, none⟩) n cap ∧ V 1 = .int .i64 (i : Int) ∧ V 2 = .pointer (some ⟨g, o + i * 18, none⟩) ∧ V 3 = .pointer (some ⟨g, o + i * 18 + 2, none⟩) ∧ V 4 = .bool true ∧ V 5 = .bool true ∧ V 6 = undef ∧ V 7 = undef ∧ V 8 = undef ∧ V 9 = undef ∧ V 10 = undef ∧ V 11 = .bool true ∧ V 12 = .bool true ∧ V 13 = undef ∧ V 14 = undef ∧ V 15 = undef ∧ V 16 = undef ∧ V 17 = undef ∧ V 18 = undef ∧ V 19 = undef ∧ V 20 = undef ∧ V 21 = undef ∧ V 22 = undef ∧ V 23 = undef ∧ V 24 = undef ∧ V 25 = undef ∧ V 26 = undef ∧ V 27 = undef ∧ V 28 = undef ∧ V 29 = undef ∧ V 30 = .bool true := ⟨fun s0 => match s0 with | 0 => .slice (some ⟨g, o, none⟩) n cap | 1 => .int .i64 (i : Int) | 2 => .pointer (some ⟨g, o + i * 18, none⟩) | 3 => .pointer (some ⟨g, o + i * 18 + 2, none⟩) | 4 => .bool true | 5 => .bool true | 6 => undef | 7 => undef | 8 => undef | 9 => undef | 10 => undef | 11 => .bool true | 12 => .bool true | 13 => undef | 14 => undef | 15 => undef | 16 => undef | 17 => undef | 18 => undef | 19 => undef | 20 => undef | 21 => undef | 22 => undef | 23 => undef | 24 => undef | 25 => undef | 26 => undef | 27 => undef | 28 => undef | 29 => undef | 30 => .bool true | _ => undef, rfl, rfl, rfl, rfl, rfl, rfl, rfl, rfl, rfl, rfl, rfl, rfl, rfl, rfl, rfl, rfl, rfl, rfl, rfl, rfl, rfl, rfl, rfl, rfl, rfl, rfl, rfl, rfl, rfl, rfl, rfl⟩
        have hconc : tabT #[.slice (some ⟨g, o, none⟩) n cap, undef, u2, .int .i64 (i : Int), .slice (some ⟨g, o, none⟩) n cap, .int .i64 (n : Int), .bool (decide ((64 : Int) < (n : Int))), .int .i64 (i : Int), .slice (some ⟨g, o, none⟩) n cap, .int .i64 (n : Int), .bool true, u11, u12, u13, u14, u15, u16, u17, u18, u19, u20, u21, u22, u23, u24, u25, u26, u27, u28, u29, u30, u31, u32, u33, u34, u35, u36, u37, u38, u39, u40, u41, u42, u43] (ownR 13 31) V (Array.replicate 31 true) = #[.slice (some ⟨g, o, none⟩) n cap, undef, u2, .int .i64 (i : Int), .slice (some ⟨g, o, none⟩) n cap, .int .i64 (n : Int), .bool (decide ((64 : Int) < (n : Int))), .int .i64 (i : Int), .slice (some ⟨g, o, none⟩) n cap, .int .i64 (n : Int), .bool true, u11, u12, .slice (some ⟨g, o, none⟩) n cap, .int .i64 (i : Int), .pointer (some ⟨g, o + i * 18, none⟩), .pointer (some ⟨g, o + i * 18 + 2, none⟩), .bool true, .bool true, undef, undef, undef, undef, undef, .bool true, .bool true, undef, undef, undef, undef, undef, undef, undef, undef, undef, undef, undef, undef, undef, undef, undef, undef, undef, .bool true] := by simp [tabT, ownR, v0, v1, v2, v3, v4, v5, v6, v7, v8, v9, v10, v11, v12, v13, v14, v15, v16, v17, v18, v19, v20, v21, v22, v23, v24, v25, v26, v27, v28, v29, v30]
        have V0 := Lib.hid v0
        have V1 := Lib.hid v1
        have V2 := Lib.hid v2
        have V3 := Lib.hid v3
        have V4 := Lib.hid v4
        have V5 := Lib.hid v5
        have V6 := Lib.hid v6
        have V7 := Lib.hid v7
        have V8 := Lib.hid v8
        have V9 := Lib.hid v9
        have V10 := Lib.hid v10
        have V11 := Lib.hid v11
        have V12 := Lib.hid v12
        have V13 := Lib.hid v13
        have V14 := Lib.hid v14
        have V15 := Lib.hid v15
        have V16 := Lib.hid v16
        have V17 := Lib.hid v17
        have V18 := Lib.hid v18
        have V19 := Lib.hid v19
        have V20 := Lib.hid v20
        have V21 := Lib.hid v21
        have V22 := Lib.hid v22
        have V23 := Lib.hid v23
        have V24 := Lib.hid v24
        have V25 := Lib.hid v25
        have V26 := Lib.hid v26
        have V27 := Lib.hid v27
        have V28 := Lib.hid v28
        have V29 := Lib.hid v29
        have V30 := Lib.hid v30
        have HCONC := Lib.hid hconc
        clear hconc v0 v1 v2 v3 v4 v5 v6 v7 v8 v9 v10 v11 v12 v13 v14 v15 v16 v17 v18 v19 v20 v21 v22 v23 v24 v25 v26 v27 v28 v29 v30
        refine wp_region_table (by kernel_rfl) (by kernel_rfl) 31 rfl V (ownR 13 31) (fun i => i + 13) (fun i hi => ownR_hit (show i < 31 from hi)) (fun s i hs => (show i < 31 from ownR_lt hs)) ?hstepA ?hendA
        case hstepA =>
          intro oi oo listed T W hio hB hpre hts htn
          have HB := Lib.hid hB
          have PRE := Lib.hid hpre
          have TS : Hid (∀ (s j : Nat) (v : Value), s < 44 → (ownR 13 31) s = some j → listed.getD j false = true → V j = v → T.getD s undef = v ∧ T[s]? = some v) := Lib.hid hts
          have R0 : Hid (T.getD 0 undef = .slice (some ⟨g, o, none⟩) n cap) := Lib.hid (htn 0 (by decide))
          have R3 : Hid (T.getD 3 undef = .int .i64 (i : Int)) := Lib.hid (htn 3 (by decide))
          clear hB hpre hts htn HCONC
          match oi, hio with
          | 0, hio =>
            clear hio
            have t0 : T.getD 0 undef = .slice (some ⟨g, o, none⟩) n cap := R0.out
            have vj := V0.out
            refine wpOp_by rfl fun K HK => ?_
            rw [vj] at HK
            clear vj
            go_wp2_with (fail)
            exact HK.out _ _ ⟨rfl, HB.out⟩
          | 1, hio =>
            clear hio
            have t3 : T.getD 3 undef = .int .i64 (i : Int) := R3.out
            have vj := V1.out
            refine wpOp_by rfl fun K HK => ?_
            rw [vj] at HK
            clear vj
            go_wp2_with (fail)
            exact HK.out _ _ ⟨rfl, HB.out⟩
          | 2, hio =>
            simp only [List.getElem?_toArray, List.getElem?_cons_succ, List.getElem?_cons_zero, Option.some.injEq] at hio
            subst hio
            have t13 : T.getD 13 undef = .slice (some ⟨g, o, none⟩) n cap := (TS.out 13 0 _ (by decide) (by decide) (PRE.out ⟨0, .data⟩ (by simp) rfl) V0.out).1
            have t14 : T.getD 14 undef = .int .i64 (i : Int) := (TS.out 14 1 _ (by decide) (by decide) (PRE.out ⟨1, .data⟩ (by simp) rfl) V1.out).1
            have vj := V2.out
            refine wpOp_by rfl fun K HK => ?_
            rw [vj] at HK
            clear vj
            go_wp2_with (fail)
            exact HK.out _ _ ⟨rfl, HB.out⟩
          | 3, hio =>
            simp only [List.getElem?_toArray, List.getElem?_cons_succ, List.getElem?_cons_zero, Option.some.injEq] at hio
            subst hio
            have t15 : T.getD 15 undef = .pointer (some ⟨g, o + i * 18, none⟩) := (TS.out 15 2 _ (by decide) (by decide) (PRE.out ⟨2, .data⟩ (by simp) rfl) V2.out).1
            have vj := V3.out
            refine wpOp_by rfl fun K HK => ?_
            rw [vj] at HK
            clear vj
            go_wp2_with (fail)
            exact HK.out _ _ ⟨rfl, HB.out⟩
          | 4, hio =>
            simp only [List.getElem?_toArray, List.getElem?_cons_succ, List.getElem?_cons_zero, Option.some.injEq] at hio
            subst hio
            have t16 : T.getD 16 undef = .pointer (some ⟨g, o + i * 18 + 2, none⟩) := (TS.out 16 3 _ (by decide) (by decide) (PRE.out ⟨3, .data⟩ (by simp) rfl) V3.out).1
            have vj := V4.out
            refine wpOp_by rfl fun K HK => ?_
            rw [vj] at HK
            clear vj
            go_wp2_with fail
            refine (EMP.out W HB.out).mono ?_
            rintro e W' ⟨rfl, hb⟩
            go_wp2
            exact HK.out _ _ ⟨rfl, HB.out.trans (hb.mono HB.out.size)⟩
          | 5, hio =>
            simp only [List.getElem?_toArray, List.getElem?_cons_succ, List.getElem?_cons_zero, Option.some.injEq] at hio
            subst hio
            have t17 : T.getD 17 undef = .bool true := (TS.out 17 4 _ (by decide) (by decide) (PRE.out ⟨4, .data⟩ (by simp) rfl) V4.out).1
            have vj := V5.out
            refine wpOp_by rfl fun K HK => ?_
            rw [vj] at HK
            clear vj
            go_wp2_with (fail)
            exact HK.out _ _ ⟨rfl, HB.out⟩
          | 6, hio =>
            simp only [List.getElem?_toArray, List.getElem?_cons_succ, List.getElem?_cons_zero, Option.some.injEq] at hio
            subst hio
            have g18 : T[18]? = some (.bool true) := (TS.out 18 5 _ (by decide) (by decide) (PRE.out ⟨5, .guard⟩ (by simp) rfl) V5.out).2
            have t0 : T.getD 0 undef = .slice (some ⟨g, o, none⟩) n cap := R0.out
            have vj := V6.out
            refine wpOp_by rfl fun K HK => ?_
            rw [vj] at HK
            clear vj
            go_wp2_with (fail)
            exact HK.out _ _ ⟨rfl, HB.out⟩
          | 7, hio =>
            simp only [List.getElem?_toArray, List.getElem?_cons_succ, List.getElem?_cons_zero, Option.some.injEq] at hio
            subst hio
            have g18 : T[18]? = some (.bool true) := (TS.out 18 5 _ (by decide) (by decide) (PRE.out ⟨5, .guard⟩ (by simp) rfl) V5.out).2
            have t3 : T.getD 3 undef = .int .i64 (i : Int) := R3.out
            have vj := V7.out
            refine wpOp_by rfl fun K HK => ?_
            rw [vj] at HK
            clear vj
            go_wp2_with (fail)
            exact HK.out _ _ ⟨rfl, HB.out⟩
          | 8, hio =>
            simp only [List.getElem?_toArray, List.getElem?_cons_succ, List.getElem?_cons_zero, Option.some.injEq] at hio
            subst hio
            have g18 : T[18]? = some (.bool true) := (TS.out 18 5 _ (by decide) (by decide) (PRE.out ⟨5, .guard⟩ (by simp) rfl) V5.out).2
            have vj := V8.out
            refine wpOp_by rfl fun K HK => ?_
            rw [vj] at HK
            clear vj
            go_wp2_with (fail)
            exact HK.out _ _ ⟨rfl, HB.out⟩
          | 9, hio =>
            simp only [List.getElem?_toArray, List.getElem?_cons_succ, List.getElem?_cons_zero, Option.some.injEq] at hio
            subst hio
            have g18 : T[18]? = some (.bool true) := (TS.out 18 5 _ (by decide) (by decide) (PRE.out ⟨5, .guard⟩ (by simp) rfl) V5.out).2
            have vj := V9.out
            refine wpOp_by rfl fun K HK => ?_
            rw [vj] at HK
            clear vj
            go_wp2_with (fail)
            exact HK.out _ _ ⟨rfl, HB.out⟩
          | 10, hio =>
            simp only [List.getElem?_toArray, List.getElem?_cons_succ, List.getElem?_cons_zero, Option.some.injEq] at hio
            subst hio
            have g18 : T[18]? = some (.bool true) := (TS.out 18 5 _ (by decide) (by decide) (PRE.out ⟨5, .guard⟩ (by simp) rfl) V5.out).2
            have vj := V10.out
            refine wpOp_by rfl fun K HK => ?_
            rw [vj] at HK
            clear vj
            go_wp2_with (fail)
            exact HK.out _ _ ⟨rfl, HB.out⟩
          | 11, hio =>
            simp only [List.getElem?_toArray, List.getElem?_cons_succ, List.getElem?_cons_zero, Option.some.injEq] at hio
            subst hio
            have t18 : T.getD 18 undef = .bool true := (TS.out 18 5 _ (by decide) (by decide) (PRE.out ⟨5, .data⟩ (by simp) rfl) V5.out).1
            have vj := V11.out
            refine wpOp_by rfl fun K HK => ?_
            rw [vj] at HK
            clear vj
            go_wp2_with (fail)
            exact HK.out _ _ ⟨rfl, HB.out⟩
          | 12, hio =>
            simp only [List.getElem?_toArray, List.getElem?_cons_succ, List.getElem?_cons_zero, Option.some.injEq] at hio
            subst hio
            have t24 : T.getD 24 undef = .bool true := (TS.out 24 11 _ (by decide) (by decide) (PRE.out ⟨11, .data⟩ (by simp) rfl) V11.out).1
            have vj := V12.out
            refine wpOp_by rfl fun K HK => ?_
            rw [vj] at HK
            clear vj
            go_wp2_with (fail)
            exact HK.out _ _ ⟨rfl, HB.out⟩
          | 13, hio =>
            simp only [List.getElem?_toArray, List.getElem?_cons_succ, List.getElem?_cons_zero, Option.some.injEq] at hio
            subst hio
            have g25 : T[25]? = some (.bool true) := (TS.out 25 12 _ (by decide) (by decide) (PRE.out ⟨12, .guard⟩ (by simp) rfl) V12.out).2
            have t3 : T.getD 3 undef = .int .i64 (i : Int) := R3.out
            have vj := V13.out
            refine wpOp_by rfl fun K HK => ?_
            rw [vj] at HK
            clear vj
            go_wp2_with (fail)
            exact HK.out _ _ ⟨rfl, HB.out⟩
          | 14, hio =>
            simp only [List.getElem?_toArray, List.getElem?_cons_succ, List.getElem?_cons_zero, Option.some.injEq] at hio
            subst hio
            have g25 : T[25]? = some (.bool true) := (TS.out 25 12 _ (by decide) (by decide) (PRE.out ⟨12, .guard⟩ (by simp) rfl) V12.out).2
            have vj := V14.out
            refine wpOp_by rfl fun K HK => ?_
            rw [vj] at HK
            clear vj
            go_wp2_with (fail)
            exact HK.out _ _ ⟨rfl, HB.out⟩
          | 15, hio =>
            simp only [List.getElem?_toArray, List.getElem?_cons_succ, List.getElem?_cons_zero, Option.some.injEq] at hio
            subst hio
            have g25 : T[25]? = some (.bool true) := (TS.out 25 12 _ (by decide) (by decide) (PRE.out ⟨12, .guard⟩ (by simp) rfl) V12.out).2
            have vj := V15.out
            refine wpOp_by rfl fun K HK => ?_
            rw [vj] at HK
            clear vj
            go_wp2_with (fail)
            exact HK.out _ _ ⟨rfl, HB.out⟩
          | 16, hio =>
            simp only [List.getElem?_toArray, List.getElem?_cons_succ, List.getElem?_cons_zero, Option.some.injEq] at hio
            subst hio
            have g28 : T[28]? = some (Value.tuple #[]) := (TS.out 28 15 _ (by decide) (by decide) (PRE.out ⟨15, .guard⟩ (by simp) rfl) V15.out).2
            have t0 : T.getD 0 undef = .slice (some ⟨g, o, none⟩) n cap := R0.out
            have vj := V16.out
            refine wpOp_by rfl fun K HK => ?_
            rw [vj] at HK
            clear vj
            go_wp2_with (fail)
            exact HK.out _ _ ⟨rfl, HB.out⟩
          | 17, hio =>
            simp only [List.getElem?_toArray, List.getElem?_cons_succ, List.getElem?_cons_zero, Option.some.injEq] at hio
            subst hio
            have g28 : T[28]? = some (Value.tuple #[]) := (TS.out 28 15 _ (by decide) (by decide) (PRE.out ⟨15, .guard⟩ (by simp) rfl) V15.out).2
            have t3 : T.getD 3 undef = .int .i64 (i : Int) := R3.out
            have vj := V17.out
            refine wpOp_by rfl fun K HK => ?_
            rw [vj] at HK
            clear vj
            go_wp2_with (fail)
            exact HK.out _ _ ⟨rfl, HB.out⟩
          | 18, hio =>
            simp only [List.getElem?_toArray, List.getElem?_cons_succ, List.getElem?_cons_zero, Option.some.injEq] at hio
            subst hio
            have g28 : T[28]? = some (Value.tuple #[]) := (TS.out 28 15 _ (by decide) (by decide) (PRE.out ⟨15, .guard⟩ (by simp) rfl) V15.out).2
            have vj := V18.out
            refine wpOp_by rfl fun K HK => ?_
            rw [vj] at HK
            clear vj
            go_wp2_with (fail)
            exact HK.out _ _ ⟨rfl, HB.out⟩
          | 19, hio =>
            simp only [List.getElem?_toArray, List.getElem?_cons_succ, List.getElem?_cons_zero, Option.some.injEq] at hio
            subst hio
            have g28 : T[28]? = some (Value.tuple #[]) := (TS.out 28 15 _ (by decide) (by decide) (PRE.out ⟨15, .guard⟩ (by simp) rfl) V15.out).2
            have vj := V19.out
            refine wpOp_by rfl fun K HK => ?_
            rw [vj] at HK
            clear vj
            go_wp2_with (fail)
            exact HK.out _ _ ⟨rfl, HB.out⟩
          | 20, hio =>
            simp only [List.getElem?_toArray, List.getElem?_cons_succ, List.getElem?_cons_zero, Option.some.injEq] at hio
            subst hio
            have g28 : T[28]? = some (Value.tuple #[]) := (TS.out 28 15 _ (by decide) (by decide) (PRE.out ⟨15, .guard⟩ (by simp) rfl) V15.out).2
            have vj := V20.out
            refine wpOp_by rfl fun K HK => ?_
            rw [vj] at HK
            clear vj
            go_wp2_with (fail)
            exact HK.out _ _ ⟨rfl, HB.out⟩
          | 21, hio =>
            simp only [List.getElem?_toArray, List.getElem?_cons_succ, List.getElem?_cons_zero, Option.some.injEq] at hio
            subst hio
            have g28 : T[28]? = some (Value.tuple #[]) := (TS.out 28 15 _ (by decide) (by decide) (PRE.out ⟨15, .guard⟩ (by simp) rfl) V15.out).2
            have vj := V21.out
            refine wpOp_by rfl fun K HK => ?_
            rw [vj] at HK
            clear vj
            go_wp2_with (fail)
            exact HK.out _ _ ⟨rfl, HB.out⟩
          | 22, hio =>
            simp only [List.getElem?_toArray, List.getElem?_cons_succ, List.getElem?_cons_zero, Option.some.injEq] at hio
            subst hio
            have g28 : T[28]? = some (Value.tuple #[]) := (TS.out 28 15 _ (by decide) (by decide) (PRE.out ⟨15, .guard⟩ (by simp) rfl) V15.out).2
            have t0 : T.getD 0 undef = .slice (some ⟨g, o, none⟩) n cap := R0.out
            have vj := V22.out
            refine wpOp_by rfl fun K HK => ?_
            rw [vj] at HK
            clear vj
            go_wp2_with (fail)
            exact HK.out _ _ ⟨rfl, HB.out⟩
          | 23, hio =>
            simp only [List.getElem?_toArray, List.getElem?_cons_succ, List.getElem?_cons_zero, Option.some.injEq] at hio
            subst hio
            have g28 : T[28]? = some (Value.tuple #[]) := (TS.out 28 15 _ (by decide) (by decide) (PRE.out ⟨15, .guard⟩ (by simp) rfl) V15.out).2
            have t3 : T.getD 3 undef = .int .i64 (i : Int) := R3.out
            have vj := V23.out
            refine wpOp_by rfl fun K HK => ?_
            rw [vj] at HK
            clear vj
            go_wp2_with (fail)
            exact HK.out _ _ ⟨rfl, HB.out⟩
          | 24, hio =>
            simp only [List.getElem?_toArray, List.getElem?_cons_succ, List.getElem?_cons_zero, Option.some.injEq] at hio
            subst hio
            have g28 : T[28]? = some (Value.tuple #[]) := (TS.out 28 15 _ (by decide) (by decide) (PRE.out ⟨15, .guard⟩ (by simp) rfl) V15.out).2
            have vj := V24.out
            refine wpOp_by rfl fun K HK => ?_
            rw [vj] at HK
            clear vj
            go_wp2_with (fail)
            exact HK.out _ _ ⟨rfl, HB.out⟩
          | 25, hio =>
            simp only [List.getElem?_toArray, List.getElem?_cons_succ, List.getElem?_cons_zero, Option.some.injEq] at hio
            subst hio
            have g28 : T[28]? = some (Value.tuple #[]) := (TS.out 28 15 _ (by decide) (by decide) (PRE.out ⟨15, .guard⟩ (by simp) rfl) V15.out).2
            have vj := V25.out
            refine wpOp_by rfl fun K HK => ?_
            rw [vj] at HK
            clear vj
            go_wp2_with (fail)
            exact HK.out _ _ ⟨rfl, HB.out⟩
          | 26, hio =>
            simp only [List.getElem?_toArray, List.getElem?_cons_succ, List.getElem?_cons_zero, Option.some.injEq] at hio
            subst hio
            have g28 : T[28]? = some (Value.tuple #[]) := (TS.out 28 15 _ (by decide) (by decide) (PRE.out ⟨15, .guard⟩ (by simp) rfl) V15.out).2
            have vj := V26.out
            refine wpOp_by rfl fun K HK => ?_
            rw [vj] at HK
            clear vj
            go_wp2_with (fail)
            exact HK.out _ _ ⟨rfl, HB.out⟩
          | 27, hio =>
            simp only [List.getElem?_toArray, List.getElem?_cons_succ, List.getElem?_cons_zero, Option.some.injEq] at hio
            subst hio
            have g28 : T[28]? = some (Value.tuple #[]) := (TS.out 28 15 _ (by decide) (by decide) (PRE.out ⟨15, .guard⟩ (by simp) rfl) V15.out).2
            have vj := V27.out
            refine wpOp_by rfl fun K HK => ?_
            rw [vj] at HK
            clear vj
            go_wp2_with (fail)
            exact HK.out _ _ ⟨rfl, HB.out⟩
          | 28, hio =>
            simp only [List.getElem?_toArray, List.getElem?_cons_succ, List.getElem?_cons_zero, Option.some.injEq] at hio
            subst hio
            have g28 : T[28]? = some (Value.tuple #[]) := (TS.out 28 15 _ (by decide) (by decide) (PRE.out ⟨15, .guard⟩ (by simp) rfl) V15.out).2
            have vj := V28.out
            refine wpOp_by rfl fun K HK => ?_
            rw [vj] at HK
            clear vj
            go_wp2_with (fail)
            exact HK.out _ _ ⟨rfl, HB.out⟩
          | 29, hio =>
            simp only [List.getElem?_toArray, List.getElem?_cons_succ, List.getElem?_cons_zero, Option.some.injEq] at hio
            subst hio
            have g25 : T[25]? = some (.bool true) := (TS.out 25 12 _ (by decide) (by decide) (PRE.out ⟨12, .guard⟩ (by simp) rfl) V12.out).2
            have vj := V29.out
            refine wpOp_by rfl fun K HK => ?_
            rw [vj] at HK
            clear vj
            go_wp2_with (fail)
            exact HK.out _ _ ⟨rfl, HB.out⟩
          | 30, hio =>
            simp only [List.getElem?_toArray, List.getElem?_cons_succ, List.getElem?_cons_zero, Option.some.injEq] at hio
            subst hio
            have t25 : T.getD 25 undef = .bool true := (TS.out 25 12 _ (by decide) (by decide) (PRE.out ⟨12, .data⟩ (by simp) rfl) V12.out).1
            have vj := V30.out
            refine wpOp_by rfl fun K HK => ?_
            rw [vj] at HK
            clear vj
            go_wp2_with (fail)
            exact HK.out _ _ ⟨rfl, HB.out⟩
          | k + 31, hio => simp at hio
        case hendA =>
          intro W1 hB
          rw [show tabT _ (ownR 13 31) V (Array.replicate _ true) = #[.slice (some ⟨g, o, none⟩) n cap, undef, u2, .int .i64 (i : Int), .slice (some ⟨g, o, none⟩) n cap, .int .i64 (n : Int), .bool (decide ((64 : Int) < (n : Int))), .int .i64 (i : Int), .slice (some ⟨g, o, none⟩) n cap, .int .i64 (n : Int), .bool true, u11, u12, .slice (some ⟨g, o, none⟩) n cap, .int .i64 (i : Int), .pointer (some ⟨g, o + i * 18, none⟩), .pointer (some ⟨g, o + i * 18 + 2, none⟩), .bool true, .bool true, undef, undef, undef, undef, undef, .bool true, .bool true, undef, undef, undef, undef, undef, undef, undef, undef, undef, undef, undef, undef, undef, undef, undef, undef, undef, .bool true] from HCONC.out]
          clear HCONC V0 V1 V2 V3 V4 V5 V6 V7 V8 V9 V10 V11 V12 V13 V14 V15 V16 V17 V18 V19 V20 V21 V22 V23 V24 V25 V26 V27 V28 V29 V30
          have HB1 := Lib.hid (HB.out.trans (hB.mono HB.out.size))
          clear hB
          have hres : okB f i = false := by rw [OKI.out]; simp
          have HRES := Lib.hid (okB_false HI.out hres)
          clear hres
          go_wp2
          go_ret
          rw [HRES.out]
          exact ⟨rfl, HB1.out⟩
      | false =>
        cases Fi with
        | false =>
          obtain ⟨V, v0, v1, v2, v3, v4, v5, v6, v7, v8, v9, v10, v11, v12, v13, v14, v15, v16, v17, v18, v19, v20, v21, v22, v23, v24, v25, v26, v27, v28, v29, v30⟩ : ∃ V : Nat → Value, V 0 = .slice (some ⟨g, o, none⟩) n cap ∧ V 1 = .int .i64 (i : Int) ∧ V 2 = .pointer (some ⟨g, o + i * 18, none⟩) ∧ V 3 = .pointer (some ⟨g, o + i * 18 + 2, none⟩) ∧ V 4 = .bool false ∧ V 5 = .bool false ∧ V 6 = .slice (some ⟨g, o, none⟩) n cap ∧ V 7 = .int .i64 (i : Int) ∧ V 8 = .pointer (some ⟨g, o + i * 18, none⟩) ∧ V 9 = .bool false ∧ V 10 = .bool true ∧ V 11 = .bool true ∧ V 12 = .bool true ∧ V 13 = undef ∧ V 14 = undef ∧ V 15 = undef ∧ V 16 = undef ∧ V 17 = undef ∧ V 18 = undef ∧ V 19 = undef ∧ V 20 = undef ∧ V 21 = undef ∧ V 22 = undef ∧ V 23 = undef ∧ V 24 = undef ∧ V 25 = undef ∧ V 26 = undef ∧ V 27 = undef ∧ V 28 = undef ∧ V 29 = undef ∧ V 30 = .bool true := ⟨fun s0 => match s0 with | 0 => .slice (some ⟨g, o, none⟩) n cap | 1 => .int .i64 (i : Int) | 2 => .pointer (some ⟨g, o + i * 18, none⟩) | 3 => .pointer (some ⟨g, o + i * 18 + 2, none⟩) | 4 => .bool false | 5 => .bool false | 6 => .slice (some ⟨g, o, none⟩) n cap | 7 => .int .i64 (i : Int) | 8 => .pointer (some ⟨g, o + i * 18, none⟩) | 9 => .bool false | 10 => .bool true | 11 => .bool true | 12 => .bool true | 13 => undef | 14 => undef | 15 => undef | 16 => undef | 17 => undef | 18 => undef | 19 => undef | 20 => undef | 21 => undef | 22 => undef | 23 => undef | 24 => undef | 25 => undef | 26 => undef | 27 => undef | 28 => undef | 29 => undef | 30 => .bool true | _ => undef, rfl, rfl, rfl, rfl, rfl, rfl, rfl, rfl, rfl, rfl, rfl, rfl, rfl, rfl, rfl, rfl, rfl, rfl, rfl, rfl, rfl, rfl, rfl, rfl, rfl, rfl, rfl, rfl, rfl, rfl, rfl⟩
          have hconc : tabT #[.slice (some ⟨g, o, none⟩) n cap, undef, u2, .int .i64 (i : Int), .slice (some ⟨g, o, none⟩) n cap, .int .i64 (n : Int), .bool (decide ((64 : Int) < (n : Int))), .int .i64 (i : Int), .slice (some ⟨g, o, none⟩) n cap, .int .i64 (n : Int), .bool true, u11, u12, u13, u14, u15, u16, u17, u18, u19, u20, u21, u22, u23, u24, u25, u26, u27, u28, u29, u30, u31, u32, u33, u34, u35, u36, u37, u38, u39, u40, u41, u42, u43] (ownR 13 31) V (Array.replicate 31 true) = #[.slice (some ⟨g, o, none⟩) n cap, undef, u2, .int .i64 (i : Int), .slice (some ⟨g, o, none⟩) n cap, .int .i64 (n : Int), .bool (decide ((64 : Int) < (n : Int))), .int .i64 (i : Int), .slice (some ⟨g, o, none⟩) n cap, .int .i64 (n : Int), .bool true, u11, u12, .slice (some ⟨g, o, none⟩) n cap, .int .i64 (i : Int), .pointer (some ⟨g, o + i * 18, none⟩), .pointer (some ⟨g, o + i * 18 + 2, none⟩), .bool false, .bool false, .slice (some ⟨g, o, none⟩) n cap, .int .i64 (i : Int), .pointer (some ⟨g, o + i * 18, none⟩), .bool false, .bool true, .bool true, .bool true, undef, undef, undef, undef, undef, undef, undef, undef, undef, undef, undef, undef, undef, undef, undef, undef, undef, .bool true] := by simp [tabT, ownR, v0, v1, v2, v3, v4, v5, v6, v7, v8, v9, v10, v11, v12, v13, v14, v15, v16, v17, v18, v19, v20, v21, v22, v23, v24, v25, v26, v27, v28, v29, v30]
          have V0 := Lib.hid v0
          have V1 := Lib.hid v1
          have V2 := Lib.hid v2
          have V3 := Lib.hid v3
          have V4 := Lib.hid v4
          have V5 := Lib.hid v5
          have V6 := Lib.hid v6
          have V7 := Lib.hid v7
          have V8 := Lib.hid v8
          have V9 := Lib.hid v9
          have V10 := Lib.hid v10
          have V11 := Lib.hid v11
          have V12 := Lib.hid v12
          have V13 := Lib.hid v13
          have V14 := Lib.hid v14
          have V15 := Lib.hid v15
          have V16 := Lib.hid v16
          have V17 := Lib.hid v17
          have V18 := Lib.hid v18
          have V19 := Lib.hid v19
          have V20 := Lib.hid v20
          have V21 := Lib.hid v21
          have V22 := Lib.hid v22
          have V23 := Lib.hid v23
          have V24 := Lib.hid v24
          have V25 := Lib.hid v25
          have V26 := Lib.hid v26
          have V27 := Lib.hid v27
          have V28 := Lib.hid v28
          have V29 := Lib.hid v29
          have V30 := Lib.hid v30
          have HCONC := Lib.hid hconc
          clear hconc v0 v1 v2 v3 v4 v5 v6 v7 v8 v9 v10 v11 v12 v13 v14 v15 v16 v17 v18 v19 v20 v21 v22 v23 v24 v25 v26 v27 v28 v29 v30
          refine wp_region_table (by kernel_rfl) (by kernel_rfl) 31 rfl V (ownR 13 31) (fun i => i + 13) (fun i hi => ownR_hit (show i < 31 from hi)) (fun s i hs => (show i < 31 from ownR_lt hs)) ?hstepB ?hendB
          case hstepB =>
            intro oi oo listed T W hio hB hpre hts htn
            have HB := Lib.hid hB
            have PRE := Lib.hid hpre
            have TS : Hid (∀ (s j : Nat) (v : Value), s < 44 → (ownR 13 31) s = some j → listed.getD j false = true → V j = v → T.getD s undef = v ∧ T[s]? = some v) := Lib.hid hts
            have R0 : Hid (T.getD 0 undef = .slice (some ⟨g, o, none⟩) n cap) := Lib.hid (htn 0 (by decide))
            have R3 : Hid (T.getD 3 undef = .int .i64 (i : Int)) := Lib.hid (htn 3 (by decide))
            clear hB hpre hts htn HCONC
            match oi, hio with
            | 0, hio =>
              clear hio
              have t0 : T.getD 0 undef = .slice (some ⟨g, o, none⟩) n cap := R0.out
              have vj := V0.out
              refine wpOp_by rfl fun K HK => ?_
              rw [vj] at HK
              clear vj
              go_wp2_with (fail)
              exact HK.out _ _ ⟨rfl, HB.out⟩
            | 1, hio =>
              clear hio
              have t3 : T.getD 3 undef = .int .i64 (i : Int) := R3.out
              have vj := V1.out
              refine wpOp_by rfl fun K HK => ?_
              rw [vj] at HK
              clear vj
              go_wp2_with (fail)
              exact HK.out _ _ ⟨rfl, HB.out⟩
            | 2, hio =>
              simp only [List.getElem?_toArray, List.getElem?_cons_succ, List.getElem?_cons_zero, Option.some.injEq] at hio
              subst hio
              have t13 : T.getD 13 undef = .slice (some ⟨g, o, none⟩) n cap := (TS.out 13 0 _ (by decide) (by decide) (PRE.out ⟨0, .data⟩ (by simp) rfl) V0.out).1
              have t14 : T.getD 14 undef = .int .i64 (i : Int) := (TS.out 14 1 _ (by decide) (by decide) (PRE.out ⟨1, .data⟩ (by simp) rfl) V1.out).1
              have vj := V2.out
              refine wpOp_by rfl fun K HK => ?_
              rw [vj] at HK
              clear vj
              go_wp2_with (fail)
              exact HK.out _ _ ⟨rfl, HB.out⟩
            | 3, hio =>
              simp only [List.getElem?_toArray, List.getElem?_cons_succ, List.getElem?_cons_zero, Option.some.injEq] at hio
              subst hio
              have t15 : T.getD 15 undef = .pointer (some ⟨g, o + i * 18, none⟩) := (TS.out 15 2 _ (by decide) (by decide) (PRE.out ⟨2, .data⟩ (by simp) rfl) V2.out).1
              have vj := V3.out
              refine wpOp_by rfl fun K HK => ?_
              rw [vj] at HK
              clear vj
              go_wp2_with (fail)
              exact HK.out _ _ ⟨rfl, HB.out⟩
            | 4, hio =>
              simp only [List.getElem?_toArray, List.getElem?_cons_succ, List.getElem?_cons_zero, Option.some.injEq] at hio
              subst hio
              have t16 : T.getD 16 undef = .pointer (some ⟨g, o + i * 18 + 2, none⟩) := (TS.out 16 3 _ (by decide) (by decide) (PRE.out ⟨3, .data⟩ (by simp) rfl) V3.out).1
              have vj := V4.out
              refine wpOp_by rfl fun K HK => ?_
              rw [vj] at HK
              clear vj
              go_wp2_with fail
              refine (EMP.out W HB.out).mono ?_
              rintro e W' ⟨rfl, hb⟩
              go_wp2
              exact HK.out _ _ ⟨rfl, HB.out.trans (hb.mono HB.out.size)⟩
            | 5, hio =>
              simp only [List.getElem?_toArray, List.getElem?_cons_succ, List.getElem?_cons_zero, Option.some.injEq] at hio
              subst hio
              have t17 : T.getD 17 undef = .bool false := (TS.out 17 4 _ (by decide) (by decide) (PRE.out ⟨4, .data⟩ (by simp) rfl) V4.out).1
              have vj := V5.out
              refine wpOp_by rfl fun K HK => ?_
              rw [vj] at HK
              clear vj
              go_wp2_with (fail)
              exact HK.out _ _ ⟨rfl, HB.out⟩
            | 6, hio =>
              simp only [List.getElem?_toArray, List.getElem?_cons_succ, List.getElem?_cons_zero, Option.some.injEq] at hio
              subst hio
              have g18 : T[18]? = some (.bool false) := (TS.out 18 5 _ (by decide) (by decide) (PRE.out ⟨5, .guard⟩ (by simp) rfl) V5.out).2
              have t0 : T.getD 0 undef = .slice (some ⟨g, o, none⟩) n cap := R0.out
              have vj := V6.out
              refine wpOp_by rfl fun K HK => ?_
              rw [vj] at HK
              clear vj
              go_wp2_with (fail)
              exact HK.out _ _ ⟨rfl, HB.out⟩
            | 7, hio =>
              simp only [List.getElem?_toArray, List.getElem?_cons_succ, List.getElem?_cons_zero, Option.some.injEq] at hio
              subst hio
              have g18 : T[18]? = some (.bool false) := (TS.out 18 5 _ (by decide) (by decide) (PRE.out ⟨5, .guard⟩ (by simp) rfl) V5.out).2
              have t3 : T.getD 3 undef = .int .i64 (i : Int) := R3.out
              have vj := V7.out
              refine wpOp_by rfl fun K HK => ?_
              rw [vj] at HK
              clear vj
              go_wp2_with (fail)
              exact HK.out _ _ ⟨rfl, HB.out⟩
            | 8, hio =>
              simp only [List.getElem?_toArray, List.getElem?_cons_succ, List.getElem?_cons_zero, Option.some.injEq] at hio
              subst hio
              have t19 : T.getD 19 undef = .slice (some ⟨g, o, none⟩) n cap := (TS.out 19 6 _ (by decide) (by decide) (PRE.out ⟨6, .data⟩ (by simp) rfl) V6.out).1
              have t20 : T.getD 20 undef = .int .i64 (i : Int) := (TS.out 20 7 _ (by decide) (by decide) (PRE.out ⟨7, .data⟩ (by simp) rfl) V7.out).1
              have g18 : T[18]? = some (.bool false) := (TS.out 18 5 _ (by decide) (by decide) (PRE.out ⟨5, .guard⟩ (by simp) rfl) V5.out).2
              have vj := V8.out
              refine wpOp_by rfl fun K HK => ?_
              rw [vj] at HK
              clear vj
              go_wp2_with (fail)
              exact HK.out _ _ ⟨rfl, HB.out⟩
            | 9, hio =>
              simp only [List.getElem?_toArray, List.getElem?_cons_succ, List.getElem?_cons_zero, Option.some.injEq] at hio
              subst hio
              have t21 : T.getD 21 undef = .pointer (some ⟨g, o + i * 18, none⟩) := (TS.out 21 8 _ (by decide) (by decide) (PRE.out ⟨8, .data⟩ (by simp) rfl) V8.out).1
              have g18 : T[18]? = some (.bool false) := (TS.out 18 5 _ (by decide) (by decide) (PRE.out ⟨5, .guard⟩ (by simp) rfl) V5.out).2
              have vj := V9.out
              refine wpOp_by rfl fun K HK => ?_
              rw [vj] at HK
              clear vj
              go_wp2_with fail
              refine (FIT.out W HB.out).mono ?_
              rintro e W' ⟨rfl, hb⟩
              go_wp2
              exact HK.out _ _ ⟨rfl, HB.out.trans (hb.mono HB.out.size)⟩
            | 10, hio =>
              simp only [List.getElem?_toArray, List.getElem?_cons_succ, List.getElem?_cons_zero, Option.some.injEq] at hio
              subst hio
              have t22 : T.getD 22 undef = .bool false := (TS.out 22 9 _ (by decide) (by decide) (PRE.out ⟨9, .data⟩ (by simp) rfl) V9.out).1
              have g18 : T[18]? = some (.bool false) := (TS.out 18 5 _ (by decide) (by decide) (PRE.out ⟨5, .guard⟩ (by simp) rfl) V5.out).2
              have vj := V10.out
              refine wpOp_by rfl fun K HK => ?_
              rw [vj] at HK
              clear vj
              go_wp2_with (fail)
              exact HK.out _ _ ⟨rfl, HB.out⟩
            | 11, hio =>
              simp only [List.getElem?_toArray, List.getElem?_cons_succ, List.getElem?_cons_zero, Option.some.injEq] at hio
              subst hio
              have t18 : T.getD 18 undef = .bool false := (TS.out 18 5 _ (by decide) (by decide) (PRE.out ⟨5, .data⟩ (by simp) rfl) V5.out).1
              have t23 : T.getD 23 undef = .bool true := (TS.out 23 10 _ (by decide) (by decide) (PRE.out ⟨10, .data⟩ (by simp) rfl) V10.out).1
              have vj := V11.out
              refine wpOp_by rfl fun K HK => ?_
              rw [vj] at HK
              clear vj
              go_wp2_with (fail)
              exact HK.out _ _ ⟨rfl, HB.out⟩
            | 12, hio =>
              simp only [List.getElem?_toArray, List.getElem?_cons_succ, List.getElem?_cons_zero, Option.some.injEq] at hio
              subst hio
              have t24 : T.getD 24 undef = .bool true := (TS.out 24 11 _ (by decide) (by decide) (PRE.out ⟨11, .data⟩ (by simp) rfl) V11.out).1
              have vj := V12.out
              refine wpOp_by rfl fun K HK => ?_
              rw [vj] at HK
              clear vj
              go_wp2_with (fail)
              exact HK.out _ _ ⟨rfl, HB.out⟩
            | 13, hio =>
              simp only [List.getElem?_toArray, List.getElem?_cons_succ, List.getElem?_cons_zero, Option.some.injEq] at hio
              subst hio
              have g25 : T[25]? = some (.bool true) := (TS.out 25 12 _ (by decide) (by decide) (PRE.out ⟨12, .guard⟩ (by simp) rfl) V12.out).2
              have t3 : T.getD 3 undef = .int .i64 (i : Int) := R3.out
              have vj := V13.out
              refine wpOp_by rfl fun K HK => ?_
              rw [vj] at HK
              clear vj
              go_wp2_with (fail)
              exact HK.out _ _ ⟨rfl, HB.out⟩
            | 14, hio =>
              simp only [List.getElem?_toArray, List.getElem?_cons_succ, List.getElem?_cons_zero, Option.some.injEq] at hio
              subst hio
              have g25 : T[25]? = some (.bool true) := (TS.out 25 12 _ (by decide) (by decide) (PRE.out ⟨12, .guard⟩ (by simp) rfl) V12.out).2
              have vj := V14.out
              refine wpOp_by rfl fun K HK => ?_
              rw [vj] at HK
              clear vj
              go_wp2_with (fail)
              exact HK.out _ _ ⟨rfl, HB.out⟩
            | 15, hio =>
              simp only [List.getElem?_toArray, List.getElem?_cons_succ, List.getElem?_cons_zero, Option.some.injEq] at hio
              subst hio
              have g25 : T[25]? = some (.bool true) := (TS.out 25 12 _ (by decide) (by decide) (PRE.out ⟨12, .guard⟩ (by simp) rfl) V12.out).2
              have vj := V15.out
              refine wpOp_by rfl fun K HK => ?_
              rw [vj] at HK
              clear vj
              go_wp2_with (fail)
              exact HK.out _ _ ⟨rfl, HB.out⟩
            | 16, hio =>
              simp only [List.getElem?_toArray, List.getElem?_cons_succ, List.getElem?_cons_zero, Option.some.injEq] at hio
              subst hio
              have g28 : T[28]? = some (Value.tuple #[]) := (TS.out 28 15 _ (by decide) (by decide) (PRE.out ⟨15, .guard⟩ (by simp) rfl) V15.out).2
              have t0 : T.getD 0 undef = .slice (some ⟨g, o, none⟩) n cap := R0.out
              have vj := V16.out
              refine wpOp_by rfl fun K HK => ?_
              rw [vj] at HK
              clear vj
              go_wp2_with (fail)
              exact HK.out _ _ ⟨rfl, HB.out⟩
            | 17, hio =>
              simp only [List.getElem?_toArray, List.getElem?_cons_succ, List.getElem?_cons_zero, Option.some.injEq] at hio
              subst hio
              have g28 : T[28]? = some (Value.tuple #[]) := (TS.out 28 15 _ (by decide) (by decide) (PRE.out ⟨15, .guard⟩ (by simp) rfl) V15.out).2
              have t3 : T.getD 3 undef = .int .i64 (i : Int) := R3.out
              have vj := V17.out
              refine wpOp_by rfl fun K HK => ?_
              rw [vj] at HK
              clear vj
              go_wp2_with (fail)
              exact HK.out _ _ ⟨rfl, HB.out⟩
            | 18, hio =>
              simp only [List.getElem?_toArray, List.getElem?_cons_succ, List.getElem?_cons_zero, Option.some.injEq] at hio
              subst hio
              have g28 : T[28]? = some (Value.tuple #[]) := (TS.out 28 15 _ (by decide) (by decide) (PRE.out ⟨15, .guard⟩ (by simp) rfl) V15.out).2
              have vj := V18.out
              refine wpOp_by rfl fun K HK => ?_
              rw [vj] at HK
              clear vj
              go_wp2_with (fail)
              exact HK.out _ _ ⟨rfl, HB.out⟩
            | 19, hio =>
              simp only [List.getElem?_toArray, List.getElem?_cons_succ, List.getElem?_cons_zero, Option.some.injEq] at hio
              subst hio
              have g28 : T[28]? = some (Value.tuple #[]) := (TS.out 28 15 _ (by decide) (by decide) (PRE.out ⟨15, .guard⟩ (by simp) rfl) V15.out).2
              have vj := V19.out
              refine wpOp_by rfl fun K HK => ?_
              rw [vj] at HK
              clear vj
              go_wp2_with (fail)
              exact HK.out _ _ ⟨rfl, HB.out⟩
            | 20, hio =>
              simp only [List.getElem?_toArray, List.getElem?_cons_succ, List.getElem?_cons_zero, Option.some.injEq] at hio
              subst hio
              have g28 : T[28]? = some (Value.tuple #[]) := (TS.out 28 15 _ (by decide) (by decide) (PRE.out ⟨15, .guard⟩ (by simp) rfl) V15.out).2
              have vj := V20.out
              refine wpOp_by rfl fun K HK => ?_
              rw [vj] at HK
              clear vj
              go_wp2_with (fail)
              exact HK.out _ _ ⟨rfl, HB.out⟩
            | 21, hio =>
              simp only [List.getElem?_toArray, List.getElem?_cons_succ, List.getElem?_cons_zero, Option.some.injEq] at hio
              subst hio
              have g28 : T[28]? = some (Value.tuple #[]) := (TS.out 28 15 _ (by decide) (by decide) (PRE.out ⟨15, .guard⟩ (by simp) rfl) V15.out).2
              have vj := V21.out
              refine wpOp_by rfl fun K HK => ?_
              rw [vj] at HK
              clear vj
              go_wp2_with (fail)
              exact HK.out _ _ ⟨rfl, HB.out⟩
            | 22, hio =>
              simp only [List.getElem?_toArray, List.getElem?_cons_succ, List.getElem?_cons_zero, Option.some.injEq] at hio
              subst hio
              have g28 : T[28]? = some (Value.tuple #[]) := (TS.out 28 15 _ (by decide) (by decide) (PRE.out ⟨15, .guard⟩ (by simp) rfl) V15.out).2
              have t0 : T.getD 0 undef = .slice (some ⟨g, o, none⟩) n cap := R0.out
              have vj := V22.out
              refine wpOp_by rfl fun K HK => ?_
              rw [vj] at HK
              clear vj
              go_wp2_with (fail)
              exact HK.out _ _ ⟨rfl, HB.out⟩
            | 23, hio =>
              simp only [List.getElem?_toArray, List.getElem?_cons_succ, List.getElem?_cons_zero, Option.some.injEq] at hio
              subst hio
              have g28 : T[28]? = some (Value.tuple #[]) := (TS.out 28 15 _ (by decide) (by decide) (PRE.out ⟨15, .guard⟩ (by simp) rfl) V15.out).2
              have t3 : T.getD 3 undef = .int .i64 (i : Int) := R3.out
              have vj := V23.out
              refine wpOp_by rfl fun K HK => ?_
              rw [vj] at HK
              clear vj
              go_wp2_with (fail)
              exact HK.out _ _ ⟨rfl, HB.out⟩
            | 24, hio =>
              simp only [List.getElem?_toArray, List.getElem?_cons_succ, List.getElem?_cons_zero, Option.some.injEq] at hio
              subst hio
              have g28 : T[28]? = some (Value.tuple #[]) := (TS.out 28 15 _ (by decide) (by decide) (PRE.out ⟨15, .guard⟩ (by simp) rfl) V15.out).2
              have vj := V24.out
              refine wpOp_by rfl fun K HK => ?_
              rw [vj] at HK
              clear vj
              go_wp2_with (fail)
              exact HK.out _ _ ⟨rfl, HB.out⟩
            | 25, hio =>
              simp only [List.getElem?_toArray, List.getElem?_cons_succ, List.getElem?_cons_zero, Option.some.injEq] at hio
              subst hio
              have g28 : T[28]? = some (Value.tuple #[]) := (TS.out 28 15 _ (by decide) (by decide) (PRE.out ⟨15, .guard⟩ (by simp) rfl) V15.out).2
              have vj := V25.out
              refine wpOp_by rfl fun K HK => ?_
              rw [vj] at HK
              clear vj
              go_wp2_with (fail)
              exact HK.out _ _ ⟨rfl, HB.out⟩
            | 26, hio =>
              simp only [List.getElem?_toArray, List.getElem?_cons_succ, List.getElem?_cons_zero, Option.some.injEq] at hio
              subst hio
              have g28 : T[28]? = some (Value.tuple #[]) := (TS.out 28 15 _ (by decide) (by decide) (PRE.out ⟨15, .guard⟩ (by simp) rfl) V15.out).2
              have vj := V26.out
              refine wpOp_by rfl fun K HK => ?_
              rw [vj] at HK
              clear vj
              go_wp2_with (fail)
              exact HK.out _ _ ⟨rfl, HB.out⟩
            | 27, hio =>
              simp only [List.getElem?_toArray, List.getElem?_cons_succ, List.getElem?_cons_zero, Option.some.injEq] at hio
              subst hio
              have g28 : T[28]? = some (Value.tuple #[]) := (TS.out 28 15 _ (by decide) (by decide) (PRE.out ⟨15, .guard⟩ (by simp) rfl) V15.out).2
              have vj := V27.out
              refine wpOp_by rfl fun K HK => ?_
              rw [vj] at HK
              clear vj
              go_wp2_with (fail)
              exact HK.out _ _ ⟨rfl, HB.out⟩
            | 28, hio =>
              simp only [List.getElem?_toArray, List.getElem?_cons_succ, List.getElem?_cons_zero, Option.some.injEq] at hio
              subst hio
              have g28 : T[28]? = some (Value.tuple #[]) := (TS.out 28 15 _ (by decide) (by decide) (PRE.out ⟨15, .guard⟩ (by simp) rfl) V15.out).2
              have vj := V28.out
              refine wpOp_by rfl fun K HK => ?_
              rw [vj] at HK
              clear vj
              go_wp2_with (fail)
              exact HK.out _ _ ⟨rfl, HB.out⟩
            | 29, hio =>
              simp only [List.getElem?_toArray, List.getElem?_cons_succ, List.getElem?_cons_zero, Option.some.injEq] at hio
              subst hio
              have g25 : T[25]? = some (.bool true) := (TS.out 25 12 _ (by decide) (by decide) (PRE.out ⟨12, .guard⟩ (by simp) rfl) V12.out).2
              have vj := V29.out
              refine wpOp_by rfl fun K HK => ?_
              rw [vj] at HK
              clear vj
              go_wp2_with (fail)
              exact HK.out _ _ ⟨rfl, HB.out⟩
            | 30, hio =>
              simp only [List.getElem?_toArray, List.getElem?_cons_succ, List.getElem?_cons_zero, Option.some.injEq] at hio
              subst hio
              have t25 : T.getD 25 undef = .bool true := (TS.out 25 12 _ (by decide) (by decide) (PRE.out ⟨12, .data⟩ (by simp) rfl) V12.out).1
              have vj := V30.out
              refine wpOp_by rfl fun K HK => ?_
              rw [vj] at HK
              clear vj
              go_wp2_with (fail)
              exact HK.out _ _ ⟨rfl, HB.out⟩
            | k + 31, hio => simp at hio
          case hendB =>
            intro W1 hB
            rw [show tabT _ (ownR 13 31) V (Array.replicate _ true) = #[.slice (some ⟨g, o, none⟩) n cap, undef, u2, .int .i64 (i : Int), .slice (some ⟨g, o, none⟩) n cap, .int .i64 (n : Int), .bool (decide ((64 : Int) < (n : Int))), .int .i64 (i : Int), .slice (some ⟨g, o, none⟩) n cap, .int .i64 (n : Int), .bool true, u11, u12, .slice (some ⟨g, o, none⟩) n cap, .int .i64 (i : Int), .pointer (some ⟨g, o + i * 18, none⟩), .pointer (some ⟨g, o + i * 18 + 2, none⟩), .bool false, .bool false, .slice (some ⟨g, o, none⟩) n cap, .int .i64 (i : Int), .pointer (some ⟨g, o + i * 18, none⟩), .bool false, .bool true, .bool true, .bool true, undef, undef, undef, undef, undef, undef, undef, undef, undef, undef, undef, undef, undef, undef, undef, undef, undef, .bool true] from HCONC.out]
            clear HCONC V0 V1 V2 V3 V4 V5 V6 V7 V8 V9 V10 V11 V12 V13 V14 V15 V16 V17 V18 V19 V20 V21 V22 V23 V24 V25 V26 V27 V28 V29 V30
            have HB1 := Lib.hid (HB.out.trans (hB.mono HB.out.size))
            clear hB
            have hres : okB f i = false := by rw [OKI.out]; simp
            have HRES := Lib.hid (okB_false HI.out hres)
            clear hres
            go_wp2
            go_ret
            rw [HRES.out]
            exact ⟨rfl, HB1.out⟩
        | true =>
          by_cases hz0 : i = 0
          · have hzn : decide (0 < i) = false := decide_eq_false (by omega)
            have HZ0 := Lib.hid hz0
            clear hz0
            obtain ⟨V, v0, v1, v2, v3, v4, v5, v6, v7, v8, v9, v10, v11, v12, v13, v14, v15, v16, v17, v18, v19, v20, v21, v22, v23, v24, v25, v26, v27, v28, v29, v30⟩ : ∃ V : Nat → Value, V 0 = .slice (some ⟨g, o, none⟩) n cap ∧ V 1 = .int .i64 (i : Int) ∧ V 2 = .pointer (some ⟨g, o + i * 18, none⟩) ∧ V 3 = .pointer (some ⟨g, o + i * 18 + 2, none⟩) ∧ V 4 = .bool false ∧ V 5 = .bool false ∧ V 6 = .slice (some ⟨g, o, none⟩) n cap ∧ V 7 = .int .i64 (i : Int) ∧ V 8 = .pointer (some ⟨g, o + i * 18, none⟩) ∧ V 9 = .bool true ∧ V 10 = .bool false ∧ V 11 = .bool false ∧ V 12 = .bool false ∧ V 13 = .int .i64 (i : Int) ∧ V 14 = .bool false ∧ V 15 = .bool false ∧ V 16 = undef ∧ V 17 = undef ∧ V 18 = undef ∧ V 19 = undef ∧ V 20 = undef ∧ V 21 = undef ∧ V 22 = undef ∧ V 23 = undef ∧ V 24 = undef ∧ V 25 = undef ∧ V 26 = undef ∧ V 27 = undef ∧ V 28 = undef ∧ V 29 = .bool false ∧ V 30 = .bool false := ⟨fun s0 => match s0 with | 0 => .slice (some ⟨g, o, none⟩) n cap | 1 => .int .i64 (i : Int) | 2 => .pointer (some ⟨g, o + i * 18, none⟩) | 3 => .pointer (some ⟨g, o + i * 18 + 2, none⟩) | 4 => .bool false | 5 => .bool false | 6 => .slice (some ⟨g, o, none⟩) n cap | 7 => .int .i64 (i : Int) | 8 => .pointer (some ⟨g, o + i * 18, none⟩) | 9 => .bool true | 10 => .bool false | 11 => .bool false | 12 => .bool false | 13 => .int .i64 (i : Int) | 14 => .bool false | 15 => .bool false | 16 => undef | 17 => undef | 18 => undef | 19 => undef | 20 => undef | 21 => undef | 22 => undef | 23 => undef | 24 => undef | 25 => undef | 26 => undef | 27 => undef | 28 => undef | 29 => .bool false | 30 => .bool false | _ => undef, rfl, rfl, rfl, rfl, rfl, rfl, rfl, rfl, rfl, rfl, rfl, rfl, rfl, rfl, rfl, rfl, rfl, rfl, rfl, rfl, rfl, rfl, rfl, rfl, rfl, rfl, rfl, rfl, rfl, rfl, rfl⟩
            have hconc : tabT #[.slice (some ⟨g, o, none⟩) n cap, undef, u2, .int .i64 (i : Int), .slice (some ⟨g, o, none⟩) n cap, .int .i64 (n : Int), .bool (decide ((64 : Int) < (n : Int))), .int .i64 (i : Int), .slice (some ⟨g, o, none⟩) n cap, .int .i64 (n : Int), .bool true, u11, u12, u13, u14, u15, u16, u17, u18, u19, u20, u21, u22, u23, u24, u25, u26, u27, u28, u29, u30, u31, u32, u33, u34, u35, u36, u37, u38, u39, u40, u41, u42, u43] (ownR 13 31) V (Array.replicate 31 true) = #[.slice (some ⟨g, o, none⟩) n cap, undef, u2, .int .i64 (i : Int), .slice (some ⟨g, o, none⟩) n cap, .int .i64 (n : Int), .bool (decide ((64 : Int) < (n : Int))), .int .i64 (i : Int), .slice (some ⟨g, o, none⟩) n cap, .int .i64 (n : Int), .bool true, u11, u12, .slice (some ⟨g, o, none⟩) n cap, .int .i64 (i : Int), .pointer (some ⟨g, o + i * 18, none⟩), .pointer (some ⟨g, o + i * 18 + 2, none⟩), .bool false, .bool false, .slice (some ⟨g, o, none⟩) n cap, .int .i64 (i : Int), .pointer (some ⟨g, o + i * 18, none⟩), .bool true, .bool false, .bool false, .bool false, .int .i64 (i : Int), .bool false, .bool false, undef, undef, undef, undef, undef, undef, undef, undef, undef, undef, undef, undef, undef, .bool false, .bool false] := by simp [tabT, ownR, v0, v1, v2, v3, v4, v5, v6, v7, v8, v9, v10, v11, v12, v13, v14, v15, v16, v17, v18, v19, v20, v21, v22, v23, v24, v25, v26, v27, v28, v29, v30]
            have V0 := Lib.hid v0
            have V1 := Lib.hid v1
            have V2 := Lib.hid v2
            have V3 := Lib.hid v3
            have V4 := Lib.hid v4
            have V5 := Lib.hid v5
            have V6 := Lib.hid v6
            have V7 := Lib.hid v7
            have V8 := Lib.hid v8
            have V9 := Lib.hid v9
            have V10 := Lib.hid v10
            have V11 := Lib.hid v11
            have V12 := Lib.hid v12
            have V13 := Lib.hid v13
            have V14 := Lib.hid v14
            have V15 := Lib.hid v15
            have V16 := Lib.hid v16
            have V17 := Lib.hid v17
            have V18 := Lib.hid v18
            have V19 := Lib.hid v19
            have V20 := Lib.hid v20
            have V21 := Lib.hid v21
            have V22 := Lib.hid v22
            have V23 := Lib.hid v23
            have V24 := Lib.hid v24
            have V25 := Lib.hid v25
            have V26 := Lib.hid v26
            have V27 := Lib.hid v27
            have V28 := Lib.hid v28
            have V29 := Lib.hid v29
            have V30 := Lib.hid v30
            have HCONC := Lib.hid hconc
            clear hconc v0 v1 v2 v3 v4 v5 v6 v7 v8 v9 v10 v11 v12 v13 v14 v15 v16 v17 v18 v19 v20 v21 v22 v23 v24 v25 v26 v27 v28 v29 v30
            refine wp_region_table (by kernel_rfl) (by kernel_rfl) 31 rfl V (ownR 13 31) (fun i => i + 13) (fun i hi => ownR_hit (show i < 31 from hi)) (fun s i hs => (show i < 31 from ownR_lt hs)) ?hstepC ?hendC
            case hstepC =>
              intro oi oo listed T W hio hB hpre hts htn
              have HB := Lib.hid hB
              have PRE := Lib.hid hpre
              have TS : Hid (∀ (s j : Nat) (v : Value), s < 44 → (ownR 13 31) s = some j → listed.getD j false = true → V j = v → T.getD s undef = v ∧ T[s]? = some v) := Lib.hid hts
              have R0 : Hid (T.getD 0 undef = .slice (some ⟨g, o, none⟩) n cap) := Lib.hid (htn 0 (by decide))
              have R3 : Hid (T.getD 3 undef = .int .i64 (i : Int)) := Lib.hid (htn 3 (by decide))
              clear hB hpre hts htn HCONC
              match oi, hio with
              | 0, hio =>
                clear hio
                have t0 : T.getD 0 undef = .slice (some ⟨g, o, none⟩) n cap := R0.out
                have vj := V0.out
                refine wpOp_by rfl fun K HK => ?_
                rw [vj] at HK
                clear vj
                go_wp2_with (fail)
                exact HK.out _ _ ⟨rfl, HB.out⟩
              | 1, hio =>
                clear hio
                have t3 : T.getD 3 undef = .int .i64 (i : Int) := R3.out
                have vj := V1.out
                refine wpOp_by rfl fun K HK => ?_
                rw [vj] at HK
                clear vj
                go_wp2_with (fail)
                exact HK.out _ _ ⟨rfl, HB.out⟩
              | 2, hio =>
                simp only [List.getElem?_toArray, List.getElem?_cons_succ, List.getElem?_cons_zero, Option.some.injEq] at hio
                subst hio
                have t13 : T.getD 13 undef = .slice (some ⟨g, o, none⟩) n cap := (TS.out 13 0 _ (by decide) (by decide) (PRE.out ⟨0, .data⟩ (by simp) rfl) V0.out).1
                have t14 : T.getD 14 undef = .int .i64 (i : Int) := (TS.out 14 1 _ (by decide) (by decide) (PRE.out ⟨1, .data⟩ (by simp) rfl) V1.out).1
                have vj := V2.out
                refine wpOp_by rfl fun K HK => ?_
                rw [vj] at HK
                clear vj
                go_wp2_with (fail)
                exact HK.out _ _ ⟨rfl, HB.out⟩
              | 3, hio =>
                simp only [List.getElem?_toArray, List.getElem?_cons_succ, List.getElem?_cons_zero, Option.some.injEq] at hio
                subst hio
                have t15 : T.getD 15 undef = .pointer (some ⟨g, o + i * 18, none⟩) := (TS.out 15 2 _ (by decide) (by decide) (PRE.out ⟨2, .data⟩ (by simp) rfl) V2.out).1
                have vj := V3.out
                refine wpOp_by rfl fun K HK => ?_
                rw [vj] at HK
                clear vj
                go_wp2_with (fail)
                exact HK.out _ _ ⟨rfl, HB.out⟩
              | 4, hio =>
                simp only [List.getElem?_toArray, List.getElem?_cons_succ, List.getElem?_cons_zero, Option.some.injEq] at hio
                subst hio
                have t16 : T.getD 16 undef = .pointer (some ⟨g, o + i * 18 + 2, none⟩) := (TS.out 16 3 _ (by decide) (by decide) (PRE.out ⟨3, .data⟩ (by simp) rfl) V3.out).1
                have vj := V4.out
                refine wpOp_by rfl fun K HK => ?_
                rw [vj] at HK
                clear vj
                go_wp2_with fail
                refine (EMP.out W HB.out).mono ?_
                rintro e W' ⟨rfl, hb⟩
                go_wp2
                exact HK.out _ _ ⟨rfl, HB.out.trans (hb.mono HB.out.size)⟩
              | 5, hio =>
                simp only [List.getElem?_toArray, List.getElem?_cons_succ, List.getElem?_cons_zero, Option.some.injEq] at hio
                subst hio
                have t17 : T.getD 17 undef = .bool false := (TS.out 17 4 _ (by decide) (by decide) (PRE.out ⟨4, .data⟩ (by simp) rfl) V4.out).1
                have vj := V5.out
                refine wpOp_by rfl fun K HK => ?_
                rw [vj] at HK
                clear vj
                go_wp2_with (fail)
                exact HK.out _ _ ⟨rfl, HB.out⟩
              | 6, hio =>
                simp only [List.getElem?_toArray, List.getElem?_cons_succ, List.getElem?_cons_zero, Option.some.injEq] at hio
                subst hio
                have g18 : T[18]? = some (.bool false) := (TS.out 18 5 _ (by decide) (by decide) (PRE.out ⟨5, .guard⟩ (by simp) rfl) V5.out).2
                have t0 : T.getD 0 undef = .slice (some ⟨g, o, none⟩) n cap := R0.out
                have vj := V6.out
                refine wpOp_by rfl fun K HK => ?_
                rw [vj] at HK
                clear vj
                go_wp2_with (fail)
                exact HK.out _ _ ⟨rfl, HB.out⟩
              | 7, hio =>
                simp only [List.getElem?_toArray, List.getElem?_cons_succ, List.getElem?_cons_zero, Option.some.injEq] at hio
                subst hio
                have g18 : T[18]? = some (.bool false) := (TS.out 18 5 _ (by decide) (by decide) (PRE.out ⟨5, .guard⟩ (by simp) rfl) V5.out).2
                have t3 : T.getD 3 undef = .int .i64 (i : Int) := R3.out
                have vj := V7.out
                refine wpOp_by rfl fun K HK => ?_
                rw [vj] at HK
                clear vj
                go_wp2_with (fail)
                exact HK.out _ _ ⟨rfl, HB.out⟩
              | 8, hio =>
                simp only [List.getElem?_toArray, List.getElem?_cons_succ, List.getElem?_cons_zero, Option.some.injEq] at hio
                subst hio
                have t19 : T.getD 19 undef = .slice (some ⟨g, o, none⟩) n cap := (TS.out 19 6 _ (by decide) (by decide) (PRE.out ⟨6, .data⟩ (by simp) rfl) V6.out).1
                have t20 : T.getD 20 undef = .int .i64 (i : Int) := (TS.out 20 7 _ (by decide) (by decide) (PRE.out ⟨7, .data⟩ (by simp) rfl) V7.out).1
                have g18 : T[18]? = some (.bool false) := (TS.out 18 5 _ (by decide) (by decide) (PRE.out ⟨5, .guard⟩ (by simp) rfl) V5.out).2
                have vj := V8.out
                refine wpOp_by rfl fun K HK => ?_
                rw [vj] at HK
                clear vj
                go_wp2_with (fail)
                exact HK.out _ _ ⟨rfl, HB.out⟩
              | 9, hio =>
                simp only [List.getElem?_toArray, List.getElem?_cons_succ, List.getElem?_cons_zero, Option.some.injEq] at hio
                subst hio
                have t21 : T.getD 21 undef = .pointer (some ⟨g, o + i * 18, none⟩) := (TS.out 21 8 _ (by decide) (by decide) (PRE.out ⟨8, .data⟩ (by simp) rfl) V8.out).1
                have g18 : T[18]? = some (.bool false) := (TS.out 18 5 _ (by decide) (by decide) (PRE.out ⟨5, .guard⟩ (by simp) rfl) V5.out).2
                have vj := V9.out
                refine wpOp_by rfl fun K HK => ?_
                rw [vj] at HK
                clear vj
                go_wp2_with fail
                refine (FIT.out W HB.out).mono ?_
                rintro e W' ⟨rfl, hb⟩
                go_wp2
                exact HK.out _ _ ⟨rfl, HB.out.trans (hb.mono HB.out.size)⟩
              | 10, hio =>
                simp only [List.getElem?_toArray, List.getElem?_cons_succ, List.getElem?_cons_zero, Option.some.injEq] at hio
                subst hio
                have t22 : T.getD 22 undef = .bool true := (TS.out 22 9 _ (by decide) (by decide) (PRE.out ⟨9, .data⟩ (by simp) rfl) V9.out).1
                have g18 : T[18]? = some (.bool false) := (TS.out 18 5 _ (by decide) (by decide) (PRE.out ⟨5, .guard⟩ (by simp) rfl) V5.out).2
                have vj := V10.out
                refine wpOp_by rfl fun K HK => ?_
                rw [vj] at HK
                clear vj
                go_wp2_with (fail)
                exact HK.out _ _ ⟨rfl, HB.out⟩
              | 11, hio =>
                simp only [List.getElem?_toArray, List.getElem?_cons_succ, List.getElem?_cons_zero, Option.some.injEq] at hio
                subst hio
                have t18 : T.getD 18 undef = .bool false := (TS.out 18 5 _ (by decide) (by decide) (PRE.out ⟨5, .data⟩ (by simp) rfl) V5.out).1
                have t23 : T.getD 23 undef = .bool false := (TS.out 23 10 _ (by decide) (by decide) (PRE.out ⟨10, .data⟩ (by simp) rfl) V10.out).1
                have vj := V11.out
                refine wpOp_by rfl fun K HK => ?_
                rw [vj] at HK
                clear vj
                go_wp2_with (fail)
                exact HK.out _ _ ⟨rfl, HB.out⟩
              | 12, hio =>
                simp only [List.getElem?_toArray, List.getElem?_cons_succ, List.getElem?_cons_zero, Option.some.injEq] at hio
                subst hio
                have t24 : T.getD 24 undef = .bool false := (TS.out 24 11 _ (by decide) (by decide) (PRE.out ⟨11, .data⟩ (by simp) rfl) V11.out).1
                have vj := V12.out
                refine wpOp_by rfl fun K HK => ?_
                rw [vj] at HK
                clear vj
                go_wp2_with (fail)
                exact HK.out _ _ ⟨rfl, HB.out⟩
              | 13, hio =>
                simp only [List.getElem?_toArray, List.getElem?_cons_succ, List.getElem?_cons_zero, Option.some.injEq] at hio
                subst hio
                have g25 : T[25]? = some (.bool false) := (TS.out 25 12 _ (by decide) (by decide) (PRE.out ⟨12, .guard⟩ (by simp) rfl) V12.out).2
                have t3 : T.getD 3 undef = .int .i64 (i : Int) := R3.out
                have vj := V13.out
                refine wpOp_by rfl fun K HK => ?_
                rw [vj] at HK
                clear vj
                go_wp2_with (fail)
                exact HK.out _ _ ⟨rfl, HB.out⟩
              | 14, hio =>
                simp only [List.getElem?_toArray, List.getElem?_cons_succ, List.getElem?_cons_zero, Option.some.injEq] at hio
                subst hio
                have t26 : T.getD 26 undef = .int .i64 (i : Int) := (TS.out 26 13 _ (by decide) (by decide) (PRE.out ⟨13, .data⟩ (by simp) rfl) V13.out).1
                have g25 : T[25]? = some (.bool false) := (TS.out 25 12 _ (by decide) (by decide) (PRE.out ⟨12, .guard⟩ (by simp) rfl) V12.out).2
                have vj := V14.out
                refine wpOp_by rfl fun K HK => ?_
                rw [vj] at HK
                clear vj
                go_wp2_with (fail)
                exact HK.out _ _ ⟨rfl, HB.out⟩
              | 15, hio =>
                simp only [List.getElem?_toArray, List.getElem?_cons_succ, List.getElem?_cons_zero, Option.some.injEq] at hio
                subst hio
                have t27 : T.getD 27 undef = .bool false := (TS.out 27 14 _ (by decide) (by decide) (PRE.out ⟨14, .data⟩ (by simp) rfl) V14.out).1
                have g25 : T[25]? = some (.bool false) := (TS.out 25 12 _ (by decide) (by decide) (PRE.out ⟨12, .guard⟩ (by simp) rfl) V12.out).2
                have vj := V15.out
                refine wpOp_by rfl fun K HK => ?_
                rw [vj] at HK
                clear vj
                go_wp2_with (fail)
                exact HK.out _ _ ⟨rfl, HB.out⟩
              | 16, hio =>
                simp only [List.getElem?_toArray, List.getElem?_cons_succ, List.getElem?_cons_zero, Option.some.injEq] at hio
                subst hio
                have g28 : T[28]? = some (.bool false) := (TS.out 28 15 _ (by decide) (by decide) (PRE.out ⟨15, .guard⟩ (by simp) rfl) V15.out).2
                have t0 : T.getD 0 undef = .slice (some ⟨g, o, none⟩) n cap := R0.out
                have vj := V16.out
                refine wpOp_by rfl fun K HK => ?_
                rw [vj] at HK
                clear vj
                go_wp2_with (fail)
                exact HK.out _ _ ⟨rfl, HB.out⟩
              | 17, hio =>
                simp only [List.getElem?_toArray, List.getElem?_cons_succ, List.getElem?_cons_zero, Option.some.injEq] at hio
                subst hio
                have g28 : T[28]? = some (.bool false) := (TS.out 28 15 _ (by decide) (by decide) (PRE.out ⟨15, .guard⟩ (by simp) rfl) V15.out).2
                have t3 : T.getD 3 undef = .int .i64 (i : Int) := R3.out
                have vj := V17.out
                refine wpOp_by rfl fun K HK => ?_
                rw [vj] at HK
                clear vj
                go_wp2_with (fail)
                exact HK.out _ _ ⟨rfl, HB.out⟩
              | 18, hio =>
                simp only [List.getElem?_toArray, List.getElem?_cons_succ, List.getElem?_cons_zero, Option.some.injEq] at hio
                subst hio
                have g28 : T[28]? = some (.bool false) := (TS.out 28 15 _ (by decide) (by decide) (PRE.out ⟨15, .guard⟩ (by simp) rfl) V15.out).2
                have vj := V18.out
                refine wpOp_by rfl fun K HK => ?_
                rw [vj] at HK
                clear vj
                go_wp2_with (fail)
                exact HK.out _ _ ⟨rfl, HB.out⟩
              | 19, hio =>
                simp only [List.getElem?_toArray, List.getElem?_cons_succ, List.getElem?_cons_zero, Option.some.injEq] at hio
                subst hio
                have g28 : T[28]? = some (.bool false) := (TS.out 28 15 _ (by decide) (by decide) (PRE.out ⟨15, .guard⟩ (by simp) rfl) V15.out).2
                have vj := V19.out
                refine wpOp_by rfl fun K HK => ?_
                rw [vj] at HK
                clear vj
                go_wp2_with (fail)
                exact HK.out _ _ ⟨rfl, HB.out⟩
              | 20, hio =>
                simp only [List.getElem?_toArray, List.getElem?_cons_succ, List.getElem?_cons_zero, Option.some.injEq] at hio
                subst hio
                have g28 : T[28]? = some (.bool false) := (TS.out 28 15 _ (by decide) (by decide) (PRE.out ⟨15, .guard⟩ (by simp) rfl) V15.out).2
                have vj := V20.out
                refine wpOp_by rfl fun K HK => ?_
                rw [vj] at HK
                clear vj
                go_wp2_with (fail)
                exact HK.out _ _ ⟨rfl, HB.out⟩
              | 21, hio =>
                simp only [List.getElem?_toArray, List.getElem?_cons_succ, List.getElem?_cons_zero, Option.some.injEq] at hio
                subst hio
                have g28 : T[28]? = some (.bool false) := (TS.out 28 15 _ (by decide) (by decide) (PRE.out ⟨15, .guard⟩ (by simp) rfl) V15.out).2
                have vj := V21.out
                refine wpOp_by rfl fun K HK => ?_
                rw [vj] at HK
                clear vj
                go_wp2_with (fail)
                exact HK.out _ _ ⟨rfl, HB.out⟩
              | 22, hio =>
                simp only [List.getElem?_toArray, List.getElem?_cons_succ, List.getElem?_cons_zero, Option.some.injEq] at hio
                subst hio
                have g28 : T[28]? = some (.bool false) := (TS.out 28 15 _ (by decide) (by decide) (PRE.out ⟨15, .guard⟩ (by simp) rfl) V15.out).2
                have t0 : T.getD 0 undef = .slice (some ⟨g, o, none⟩) n cap := R0.out
                have vj := V22.out
                refine wpOp_by rfl fun K HK => ?_
                rw [vj] at HK
                clear vj
                go_wp2_with (fail)
                exact HK.out _ _ ⟨rfl, HB.out⟩
              | 23, hio =>
                simp only [List.getElem?_toArray, List.getElem?_cons_succ, List.getElem?_cons_zero, Option.some.injEq] at hio
                subst hio
                have g28 : T[28]? = some (.bool false) := (TS.out 28 15 _ (by decide) (by decide) (PRE.out ⟨15, .guard⟩ (by simp) rfl) V15.out).2
                have t3 : T.getD 3 undef = .int .i64 (i : Int) := R3.out
                have vj := V23.out
                refine wpOp_by rfl fun K HK => ?_
                rw [vj] at HK
                clear vj
                go_wp2_with (fail)
                exact HK.out _ _ ⟨rfl, HB.out⟩
              | 24, hio =>
                simp only [List.getElem?_toArray, List.getElem?_cons_succ, List.getElem?_cons_zero, Option.some.injEq] at hio
                subst hio
                have g28 : T[28]? = some (.bool false) := (TS.out 28 15 _ (by decide) (by decide) (PRE.out ⟨15, .guard⟩ (by simp) rfl) V15.out).2
                have vj := V24.out
                refine wpOp_by rfl fun K HK => ?_
                rw [vj] at HK
                clear vj
                go_wp2_with (fail)
                exact HK.out _ _ ⟨rfl, HB.out⟩
              | 25, hio =>
                simp only [List.getElem?_toArray, List.getElem?_cons_succ, List.getElem?_cons_zero, Option.some.injEq] at hio
                subst hio
                have g28 : T[28]? = some (.bool false) := (TS.out 28 15 _ (by decide) (by decide) (PRE.out ⟨15, .guard⟩ (by simp) rfl) V15.out).2
                have vj := V25.out
                refine wpOp_by rfl fun K HK => ?_
                rw [vj] at HK
                clear vj
                go_wp2_with (fail)
                exact HK.out _ _ ⟨rfl, HB.out⟩
              | 26, hio =>
                simp only [List.getElem?_toArray, List.getElem?_cons_succ, List.getElem?_cons_zero, Option.some.injEq] at hio
                subst hio
                have g28 : T[28]? = some (.bool false) := (TS.out 28 15 _ (by decide) (by decide) (PRE.out ⟨15, .guard⟩ (by simp) rfl) V15.out).2
                have vj := V26.out
                refine wpOp_by rfl fun K HK => ?_
                rw [vj] at HK
                clear vj
                go_wp2_with (fail)
                exact HK.out _ _ ⟨rfl, HB.out⟩
              | 27, hio =>
                simp only [List.getElem?_toArray, List.getElem?_cons_succ, List.getElem?_cons_zero, Option.some.injEq] at hio
                subst hio
                have g28 : T[28]? = some (.bool false) := (TS.out 28 15 _ (by decide) (by decide) (PRE.out ⟨15, .guard⟩ (by simp) rfl) V15.out).2
                have vj := V27.out
                refine wpOp_by rfl fun K HK => ?_
                rw [vj] at HK
                clear vj
                go_wp2_with (fail)
                exact HK.out _ _ ⟨rfl, HB.out⟩
              | 28, hio =>
                simp only [List.getElem?_toArray, List.getElem?_cons_succ, List.getElem?_cons_zero, Option.some.injEq] at hio
                subst hio
                have g28 : T[28]? = some (.bool false) := (TS.out 28 15 _ (by decide) (by decide) (PRE.out ⟨15, .guard⟩ (by simp) rfl) V15.out).2
                have vj := V28.out
                refine wpOp_by rfl fun K HK => ?_
                rw [vj] at HK
                clear vj
                go_wp2_with (fail)
                exact HK.out _ _ ⟨rfl, HB.out⟩
              | 29, hio =>
                simp only [List.getElem?_toArray, List.getElem?_cons_succ, List.getElem?_cons_zero, Option.some.injEq] at hio
                subst hio
                have t28 : T.getD 28 undef = .bool false := (TS.out 28 15 _ (by decide) (by decide) (PRE.out ⟨15, .data⟩ (by simp) rfl) V15.out).1
                have g25 : T[25]? = some (.bool false) := (TS.out 25 12 _ (by decide) (by decide) (PRE.out ⟨12, .guard⟩ (by simp) rfl) V12.out).2
                have vj := V29.out
                refine wpOp_by rfl fun K HK => ?_
                rw [vj] at HK
                clear vj
                go_wp2_with (fail)
                exact HK.out _ _ ⟨rfl, HB.out⟩
              | 30, hio =>
                simp only [List.getElem?_toArray, List.getElem?_cons_succ, List.getElem?_cons_zero, Option.some.injEq] at hio
                subst hio
                have t25 : T.getD 25 undef = .bool false := (TS.out 25 12 _ (by decide) (by decide) (PRE.out ⟨12, .data⟩ (by simp) rfl) V12.out).1
                have t42 : T.getD 42 undef = .bool false := (TS.out 42 29 _ (by decide) (by decide) (PRE.out ⟨29, .data⟩ (by simp) rfl) V29.out).1
                have vj := V30.out
                refine wpOp_by rfl fun K HK => ?_
                rw [vj] at HK
                clear vj
                go_wp2_with (fail)
                exact HK.out _ _ ⟨rfl, HB.out⟩
              | k + 31, hio => simp at hio
            case hendC =>
              intro W1 hB
              rw [show tabT _ (ownR 13 31) V (Array.replicate _ true) = #[.slice (some ⟨g, o, none⟩) n cap, undef, u2, .int .i64 (i : Int), .slice (some ⟨g, o, none⟩) n cap, .int .i64 (n : Int), .bool (decide ((64 : Int) < (n : Int))), .int .i64 (i : Int), .slice (some ⟨g, o, none⟩) n cap, .int .i64 (n : Int), .bool true, u11, u12, .slice (some ⟨g, o, none⟩) n cap, .int .i64 (i : Int), .pointer (some ⟨g, o + i * 18, none⟩), .pointer (some ⟨g, o + i * 18 + 2, none⟩), .bool false, .bool false, .slice (some ⟨g, o, none⟩) n cap, .int .i64 (i : Int), .pointer (some ⟨g, o + i * 18, none⟩), .bool true, .bool false, .bool false, .bool false, .int .i64 (i : Int), .bool false, .bool false, undef, undef, undef, undef, undef, undef, undef, undef, undef, undef, undef, undef, undef, .bool false, .bool false] from HCONC.out]
              clear HCONC V0 V1 V2 V3 V4 V5 V6 V7 V8 V9 V10 V11 V12 V13 V14 V15 V16 V17 V18 V19 V20 V21 V22 V23 V24 V25 V26 V27 V28 V29 V30
              have HB1 := Lib.hid (HB.out.trans (hB.mono HB.out.size))
              clear hB
              have hres : okB f i = true := by rw [OKI.out]; simp [HZ0.out]
              have HRES := Lib.hid (okB_next HA.out hres)
              clear hres
              go_wp2
              go_roundw
              case rel => exact ⟨i + 1, HI.out, by go_num, HB1.out, HRES.out⟩
              case measure => have := HI.out; simp [intOf]; omega
          · have hz : (0 : Int) < (i : Int) := by omega
            have hzn : decide (0 < i) = true := decide_eq_true (by omega)
            have HZ0 := Lib.hid hz0
            clear hz0
            have hz1 : (0 : Int) ≤ (i : Int) - 1 := by omega
            have hz2 : ((i : Int) - 1).toNat = i - 1 := by omega
            have hz3 : (i : Int) - 1 < (n : Int) := by omega
            cases L with
            | true =>
              obtain ⟨V, v0, v1, v2, v3, v4, v5, v6, v7, v8, v9, v10, v11, v12, v13, v14, v15, v16, v17, v18, v19, v20, v21, v22, v23, v24, v25, v26, v27, v28, v29, v30⟩ : ∃ V : Nat → Value, V 0 = .slice (some ⟨g, o, none⟩) n cap ∧ V 1 = .int .i64 (i : Int) ∧ V 2 = .pointer (some ⟨g, o + i * 18, none⟩) ∧ V 3 = .pointer (some ⟨g, o + i * 18 + 2, none⟩) ∧ V 4 = .bool false ∧ V 5 = .bool false ∧ V 6 = .slice (some ⟨g, o, none⟩) n cap ∧ V 7 = .int .i64 (i : Int) ∧ V 8 = .pointer (some ⟨g, o + i * 18, none⟩) ∧ V 9 = .bool true ∧ V 10 = .bool false ∧ V 11 = .bool false ∧ V 12 = .bool false ∧ V 13 = .int .i64 (i : Int) ∧ V 14 = .bool true ∧ V 15 = .bool true ∧ V 16 = .slice (some ⟨g, o, none⟩) n cap ∧ V 17 = .int .i64 (i : Int) ∧ V 18 = .int .i64 ((i : Int) - 1) ∧ V 19 = .pointer (some ⟨g, o + (i - 1) * 18, none⟩) ∧ V 20 = .pointer (some ⟨g, o + (i - 1) * 18, none⟩) ∧ V 21 = .agg #[.int .i32 p0, .int .i32 q0] ∧ V 22 = .slice (some ⟨g, o, none⟩) n cap ∧ V 23 = .int .i64 (i : Int) ∧ V 24 = .pointer (some ⟨g, o + i * 18, none⟩) ∧ V 25 = .pointer (some ⟨g, o + i * 18, none⟩) ∧ V 26 = .agg #[.int .i32 p, .int .i32 q] ∧ V 27 = .bool true ∧ V 28 = .bool false ∧ V 29 = .bool false ∧ V 30 = .bool false := ⟨fun s0 => match s0 with | 0 => .slice (some ⟨g, o, none⟩) n cap | 1 => .int .i64 (i : Int) | 2 => .pointer (some ⟨g, o + i * 18, none⟩) | 3 => .pointer (some ⟨g, o + i * 18 + 2, none⟩) | 4 => .bool false | 5 => .bool false | 6 => .slice (some ⟨g, o, none⟩) n cap | 7 => .int .i64 (i : Int) | 8 => .pointer (some ⟨g, o + i * 18, none⟩) | 9 => .bool true | 10 => .bool false | 11 => .bool false | 12 => .bool false | 13 => .int .i64 (i : Int) | 14 => .bool true | 15 => .bool true | 16 => .slice (some ⟨g, o, none⟩) n cap | 17 => .int .i64 (i : Int) | 18 => .int .i64 ((i : Int) - 1) | 19 => .pointer (some ⟨g, o + (i - 1) * 18, none⟩) | 20 => .pointer (some ⟨g, o + (i - 1) * 18, none⟩) | 21 => .agg #[.int .i32 p0, .int .i32 q0] | 22 => .slice (some ⟨g, o, none⟩) n cap | 23 => .int .i64 (i : Int) | 24 => .pointer (some ⟨g, o + i * 18, none⟩) | 25 => .pointer (some ⟨g, o + i * 18, none⟩) | 26 => .agg #[.int .i32 p, .int .i32 q] | 27 => .bool true | 28 => .bool false | 29 => .bool false | 30 => .bool false | _ => undef, rfl, rfl, rfl, rfl, rfl, rfl, rfl, rfl, rfl, rfl, rfl, rfl, rfl, rfl, rfl, rfl, rfl, rfl, rfl, rfl, rfl, rfl, rfl, rfl, rfl, rfl, rfl, rfl, rfl, rfl, rfl⟩
              have hconc : tabT #[.slice (some ⟨g, o, none⟩) n cap, undef, u2, .int .i64 (i : Int), .slice (some ⟨g, o, none⟩) n cap, .int .i64 (n : Int), .bool (decide ((64 : Int) < (n : Int))), .int .i64 (i : Int), .slice (some ⟨g, o, none⟩) n cap, .int .i64 (n : Int), .bool true, u11, u12, u13, u14, u15, u16, u17, u18, u19, u20, u21, u22, u23, u24, u25, u26, u27, u28, u29, u30, u31, u32, u33, u34, u35, u36, u37, u38, u39, u40, u41, u42, u43] (ownR 13 31) V (Array.replicate 31 true) = #[.slice (some ⟨g, o, none⟩) n cap, undef, u2, .int .i64 (i : Int), .slice (some ⟨g, o, none⟩) n cap, .int .i64 (n : Int), .bool (decide ((64 : Int) < (n : Int))), .int .i64 (i : Int), .slice (some ⟨g, o, none⟩) n cap, .int .i64 (n : Int), .bool true, u11, u12, .slice (some ⟨g, o, none⟩) n cap, .int .i64 (i : Int), .pointer (some ⟨g, o + i * 18, none⟩), .pointer (some ⟨g, o + i * 18 + 2, none⟩), .bool false, .bool false, .slice (some ⟨g, o, none⟩) n cap, .int .i64 (i : Int), .pointer (some ⟨g, o + i * 18, none⟩), .bool true, .bool false, .bool false, .bool false, .int .i64 (i : Int), .bool true, .bool true, .slice (some ⟨g, o, none⟩) n cap, .int .i64 (i : Int), .int .i64 ((i : Int) - 1), .pointer (some ⟨g, o + (i - 1) * 18, none⟩), .pointer (some ⟨g, o + (i - 1) * 18, none⟩), .agg #[.int .i32 p0, .int .i32 q0], .slice (some ⟨g, o, none⟩) n cap, .int .i64 (i : Int), .pointer (some ⟨g, o + i * 18, none⟩), .pointer (some ⟨g, o + i * 18, none⟩), .agg #[.int .i32 p, .int .i32 q], .bool true, .bool false, .bool false, .bool false] := by simp [tabT, ownR, v0, v1, v2, v3, v4, v5, v6, v7, v8, v9, v10, v11, v12, v13, v14, v15, v16, v17, v18, v19, v20, v21, v22, v23, v24, v25, v26, v27, v28, v29, v30]
              have V0 := Lib.hid v0
              have V1 := Lib.hid v1
              have V2 := Lib.hid v2
              have V3 := Lib.hid v3
              have V4 := Lib.hid v4
              have V5 := Lib.hid v5
              have V6 := Lib.hid v6
              have V7 := Lib.hid v7
              have V8 := Lib.hid v8
              have V9 := Lib.hid v9
              have V10 := Lib.hid v10
              have V11 := Lib.hid v11
              have V12 := Lib.hid v12
              have V13 := Lib.hid v13
              have V14 := Lib.hid v14
              have V15 := Lib.hid v15
              have V16 := Lib.hid v16
              have V17 := Lib.hid v17
              have V18 := Lib.hid v18
              have V19 := Lib.hid v19
              have V20 := Lib.hid v20
              have V21 := Lib.hid v21
              have V22 := Lib.hid v22
              have V23 := Lib.hid v23
              have V24 := Lib.hid v24
              have V25 := Lib.hid v25
              have V26 := Lib.hid v26
              have V27 := Lib.hid v27
              have V28 := Lib.hid v28
              have V29 := Lib.hid v29
              have V30 := Lib.hid v30
              have HCONC := Lib.hid hconc
              clear hconc v0 v1 v2 v3 v4 v5 v6 v7 v8 v9 v10 v11 v12 v13 v14 v15 v16 v17 v18 v19 v20 v21 v22 v23 v24 v25 v26 v27 v28 v29 v30
              refine wp_region_table (by kernel_rfl) (by kernel_rfl) 31 rfl V (ownR 13 31) (fun i => i + 13) (fun i hi => ownR_hit (show i < 31 from hi)) (fun s i hs => (show i < 31 from ownR_lt hs)) ?hstepD ?hendD
              case hstepD =>
                intro oi oo listed T W hio hB hpre hts htn
                have HB := Lib.hid hB
                have PRE := Lib.hid hpre
                have TS : Hid (∀ (s j : Nat) (v : Value), s < 44 → (ownR 13 31) s = some j → listed.getD j false = true → V j = v → T.getD s undef = v ∧ T[s]? = some v) := Lib.hid hts
                have R0 : Hid (T.getD 0 undef = .slice (some ⟨g, o, none⟩) n cap) := Lib.hid (htn 0 (by decide))
                have R3 : Hid (T.getD 3 undef = .int .i64 (i : Int)) := Lib.hid (htn 3 (by decide))
                clear hB hpre hts htn HCONC
                match oi, hio with
                | 0, hio =>
                  clear hio
                  have t0 : T.getD 0 undef = .slice (some ⟨g, o, none⟩) n cap := R0.out
                  have vj := V0.out
                  refine wpOp_by rfl fun K HK => ?_
                  rw [vj] at HK
                  clear vj
                  go_wp2_with (fail)
                  exact HK.out _ _ ⟨rfl, HB.out⟩
                | 1, hio =>
                  clear hio
                  have t3 : T.getD 3 undef = .int .i64 (i : Int) := R3.out
                  have vj := V1.out
                  refine wpOp_by rfl fun K HK => ?_
                  rw [vj] at HK
                  clear vj
                  go_wp2_with (fail)
                  exact HK.out _ _ ⟨rfl, HB.out⟩
                | 2, hio =>
                  simp only [List.getElem?_toArray, List.getElem?_cons_succ, List.getElem?_cons_zero, Option.some.injEq] at hio
                  subst hio
                  have t13 : T.getD 13 undef = .slice (some ⟨g, o, none⟩) n cap := (TS.out 13 0 _ (by decide) (by decide) (PRE.out ⟨0, .data⟩ (by simp) rfl) V0.out).1
                  have t14 : T.getD 14 undef = .int .i64 (i : Int) := (TS.out 14 1 _ (by decide) (by decide) (PRE.out ⟨1, .data⟩ (by simp) rfl) V1.out).1
                  have vj := V2.out
                  refine wpOp_by rfl fun K HK => ?_
                  rw [vj] at HK
                  clear vj
                  go_wp2_with (fail)
                  exact HK.out _ _ ⟨rfl, HB.out⟩
                | 3, hio =>
                  simp only [List.getElem?_toArray, List.getElem?_cons_succ, List.getElem?_cons_zero, Option.some.injEq] at hio
                  subst hio
                  have t15 : T.getD 15 undef = .pointer (some ⟨g, o + i * 18, none⟩) := (TS.out 15 2 _ (by decide) (by decide) (PRE.out ⟨2, .data⟩ (by simp) rfl) V2.out).1
                  have vj := V3.out
                  refine wpOp_by rfl fun K HK => ?_
                  rw [vj] at HK
                  clear vj
                  go_wp2_with (fail)
                  exact HK.out _ _ ⟨rfl, HB.out⟩
                | 4, hio =>
                  simp only [List.getElem?_toArray, List.getElem?_cons_succ, List.getElem?_cons_zero, Option.some.injEq] at hio
                  subst hio
                  have t16 : T.getD 16 undef = .pointer (some ⟨g, o + i * 18 + 2, none⟩) := (TS.out 16 3 _ (by decide) (by decide) (PRE.out ⟨3, .data⟩ (by simp) rfl) V3.out).1
                  have vj := V4.out
                  refine wpOp_by rfl fun K HK => ?_
                  rw [vj] at HK
                  clear vj
                  go_wp2_with fail
                  refine (EMP.out W HB.out).mono ?_
                  rintro e W' ⟨rfl, hb⟩
                  go_wp2
                  exact HK.out _ _ ⟨rfl, HB.out.trans (hb.mono HB.out.size)⟩
                | 5, hio =>
                  simp only [List.getElem?_toArray, List.getElem?_cons_succ, List.getElem?_cons_zero, Option.some.injEq] at hio
                  subst hio
                  have t17 : T.getD 17 undef = .bool false := (TS.out 17 4 _ (by decide) (by decide) (PRE.out ⟨4, .data⟩ (by simp) rfl) V4.out).1
                  have vj := V5.out
                  refine wpOp_by rfl fun K HK => ?_
                  rw [vj] at HK
                  clear vj
                  go_wp2_with (fail)
                  exact HK.out _ _ ⟨rfl, HB.out⟩
                | 6, hio =>
                  simp only [List.getElem?_toArray, List.getElem?_cons_succ, List.getElem?_cons_zero, Option.some.injEq] at hio
                  subst hio
                  have g18 : T[18]? = some (.bool false) := (TS.out 18 5 _ (by decide) (by decide) (PRE.out ⟨5, .guard⟩ (by simp) rfl) V5.out).2
                  have t0 : T.getD 0 undef = .slice (some ⟨g, o, none⟩) n cap := R0.out
                  have vj := V6.out
                  refine wpOp_by rfl fun K HK => ?_
                  rw [vj] at HK
                  clear vj
                  go_wp2_with (fail)
                  exact HK.out _ _ ⟨rfl, HB.out⟩
                | 7, hio =>
                  simp only [List.getElem?_toArray, List.getElem?_cons_succ, List.getElem?_cons_zero, Option.some.injEq] at hio
                  subst hio
                  have g18 : T[18]? = some (.bool false) := (TS.out 18 5 _ (by decide) (by decide) (PRE.out ⟨5, .guard⟩ (by simp) rfl) V5.out).2
                  have t3 : T.getD 3 undef = .int .i64 (i : Int) := R3.out
                  have vj := V7.out
                  refine wpOp_by rfl fun K HK => ?_
                  rw [vj] at HK
                  clear vj
                  go_wp2_with (fail)
                  exact HK.out _ _ ⟨rfl, HB.out⟩
                | 8, hio =>
                  simp only [List.getElem?_toArray, List.getElem?_cons_succ, List.getElem?_cons_zero, Option.some.injEq] at hio
                  subst hio
                  have t19 : T.getD 19 undef = .slice (some ⟨g, o, none⟩) n cap := (TS.out 19 6 _ (by decide) (by decide) (PRE.out ⟨6, .data⟩ (by simp) rfl) V6.out).1
                  have t20 : T.getD 20 undef = .int .i64 (i : Int) := (TS.out 20 7 _ (by decide) (by decide) (PRE.out ⟨7, .data⟩ (by simp) rfl) V7.out).1
                  have g18 : T[18]? = some (.bool false) := (TS.out 18 5 _ (by decide) (by decide) (PRE.out ⟨5, .guard⟩ (by simp) rfl) V5.out).2
                  have vj := V8.out
                  refine wpOp_by rfl fun K HK => ?_
                  rw [vj] at HK
                  clear vj
                  go_wp2_with (fail)
                  exact HK.out _ _ ⟨rfl, HB.out⟩
                | 9, hio =>
                  simp only [List.getElem?_toArray, List.getElem?_cons_succ, List.getElem?_cons_zero, Option.some.injEq] at hio
                  subst hio
                  have t21 : T.getD 21 undef = .pointer (some ⟨g, o + i * 18, none⟩) := (TS.out 21 8 _ (by decide) (by decide) (PRE.out ⟨8, .data⟩ (by simp) rfl) V8.out).1
                  have g18 : T[18]? = some (.bool false) := (TS.out 18 5 _ (by decide) (by decide) (PRE.out ⟨5, .guard⟩ (by simp) rfl) V5.out).2
                  have vj := V9.out
                  refine wpOp_by rfl fun K HK => ?_
                  rw [vj] at HK
                  clear vj
                  go_wp2_with fail
                  refine (FIT.out W HB.out).mono ?_
                  rintro e W' ⟨rfl, hb⟩
                  go_wp2
                  exact HK.out _ _ ⟨rfl, HB.out.trans (hb.mono HB.out.size)⟩
                | 10, hio =>
                  simp only [List.getElem?_toArray, List.getElem?_cons_succ, List.getElem?_cons_zero, Option.some.injEq] at hio
                  subst hio
                  have t22 : T.getD 22 undef = .bool true := (TS.out 22 9 _ (by decide) (by decide) (PRE.out ⟨9, .data⟩ (by simp) rfl) V9.out).1
                  have g18 : T[18]? = some (.bool false) := (TS.out 18 5 _ (by decide) (by decide) (PRE.out ⟨5, .guard⟩ (by simp) rfl) V5.out).2
                  have vj := V10.out
                  refine wpOp_by rfl fun K HK => ?_
                  rw [vj] at HK
                  clear vj
                  go_wp2_with (fail)
                  exact HK.out _ _ ⟨rfl, HB.out⟩
                | 11, hio =>
                  simp only [List.getElem?_toArray, List.getElem?_cons_succ, List.getElem?_cons_zero, Option.some.injEq] at hio
                  subst hio
                  have t18 : T.getD 18 undef = .bool false := (TS.out 18 5 _ (by decide) (by decide) (PRE.out ⟨5, .data⟩ (by simp) rfl) V5.out).1
                  have t23 : T.getD 23 undef = .bool false := (TS.out 23 10 _ (by decide) (by decide) (PRE.out ⟨10, .data⟩ (by simp) rfl) V10.out).1
                  have vj := V11.out
                  refine wpOp_by rfl fun K HK => ?_
                  rw [vj] at HK
                  clear vj
                  go_wp2_with (fail)
                  exact HK.out _ _ ⟨rfl, HB.out⟩
                | 12, hio =>
                  simp only [List.getElem?_toArray, List.getElem?_cons_succ, List.getElem?_cons_zero, Option.some.injEq] at hio
                  subst hio
                  have t24 : T.getD 24 undef = .bool false := (TS.out 24 11 _ (by decide) (by decide) (PRE.out ⟨11, .data⟩ (by simp) rfl) V11.out).1
                  have vj := V12.out
                  refine wpOp_by rfl fun K HK => ?_
                  rw [vj] at HK
                  clear vj
                  go_wp2_with (fail)
                  exact HK.out _ _ ⟨rfl, HB.out⟩
                | 13, hio =>
                  simp only [List.getElem?_toArray, List.getElem?_cons_succ, List.getElem?_cons_zero, Option.some.injEq] at hio
                  subst hio
                  have g25 : T[25]? = some (.bool false) := (TS.out 25 12 _ (by decide) (by decide) (PRE.out ⟨12, .guard⟩ (by simp) rfl) V12.out).2
                  have t3 : T.getD 3 undef = .int .i64 (i : Int) := R3.out
                  have vj := V13.out
                  refine wpOp_by rfl fun K HK => ?_
                  rw [vj] at HK
                  clear vj
                  go_wp2_with (fail)
                  exact HK.out _ _ ⟨rfl, HB.out⟩
                | 14, hio =>
                  simp only [List.getElem?_toArray, List.getElem?_cons_succ, List.getElem?_cons_zero, Option.some.injEq] at hio
                  subst hio
                  have t26 : T.getD 26 undef = .int .i64 (i : Int) := (TS.out 26 13 _ (by decide) (by decide) (PRE.out ⟨13, .data⟩ (by simp) rfl) V13.out).1
                  have g25 : T[25]? = some (.bool false) := (TS.out 25 12 _ (by decide) (by decide) (PRE.out ⟨12, .guard⟩ (by simp) rfl) V12.out).2
                  have vj := V14.out
                  refine wpOp_by rfl fun K HK => ?_
                  rw [vj] at HK
                  clear vj
                  go_wp2_with (fail)
                  exact HK.out _ _ ⟨rfl, HB.out⟩
                | 15, hio =>
                  simp only [List.getElem?_toArray, List.getElem?_cons_succ, List.getElem?_cons_zero, Option.some.injEq] at hio
                  subst hio
                  have t27 : T.getD 27 undef = .bool true := (TS.out 27 14 _ (by decide) (by decide) (PRE.out ⟨14, .data⟩ (by simp) rfl) V14.out).1
                  have g25 : T[25]? = some (.bool false) := (TS.out 25 12 _ (by decide) (by decide) (PRE.out ⟨12, .guard⟩ (by simp) rfl) V12.out).2
                  have vj := V15.out
                  refine wpOp_by rfl fun K HK => ?_
                  rw [vj] at HK
                  clear vj
                  go_wp2_with (fail)
                  exact HK.out _ _ ⟨rfl, HB.out⟩
                | 16, hio =>
                  simp only [List.getElem?_toArray, List.getElem?_cons_succ, List.getElem?_cons_zero, Option.some.injEq] at hio
                  subst hio
                  have g28 : T[28]? = some (.bool true) := (TS.out 28 15 _ (by decide) (by decide) (PRE.out ⟨15, .guard⟩ (by simp) rfl) V15.out).2
                  have t0 : T.getD 0 undef = .slice (some ⟨g, o, none⟩) n cap := R0.out
                  have vj := V16.out
                  refine wpOp_by rfl fun K HK => ?_
                  rw [vj] at HK
                  clear vj
                  go_wp2_with (fail)
                  exact HK.out _ _ ⟨rfl, HB.out⟩
                | 17, hio =>
                  simp only [List.getElem?_toArray, List.getElem?_cons_succ, List.getElem?_cons_zero, Option.some.injEq] at hio
                  subst hio
                  have g28 : T[28]? = some (.bool true) := (TS.out 28 15 _ (by decide) (by decide) (PRE.out ⟨15, .guard⟩ (by simp) rfl) V15.out).2
                  have t3 : T.getD 3 undef = .int .i64 (i : Int) := R3.out
                  have vj := V17.out
                  refine wpOp_by rfl fun K HK => ?_
                  rw [vj] at HK
                  clear vj
                  go_wp2_with (fail)
                  exact HK.out _ _ ⟨rfl, HB.out⟩
                | 18, hio =>
                  simp only [List.getElem?_toArray, List.getElem?_cons_succ, List.getElem?_cons_zero, Option.some.injEq] at hio
                  subst hio
                  have t30 : T.getD 30 undef = .int .i64 (i : Int) := (TS.out 30 17 _ (by decide) (by decide) (PRE.out ⟨17, .data⟩ (by simp) rfl) V17.out).1
                  have g28 : T[28]? = some (.bool true) := (TS.out 28 15 _ (by decide) (by decide) (PRE.out ⟨15, .guard⟩ (by simp) rfl) V15.out).2
                  have vj := V18.out
                  refine wpOp_by rfl fun K HK => ?_
                  rw [vj] at HK
                  clear vj
                  go_wp2_with (fail)
                  exact HK.out _ _ ⟨rfl, HB.out⟩
                | 19, hio =>
                  simp only [List.getElem?_toArray, List.getElem?_cons_succ, List.getElem?_cons_zero, Option.some.injEq] at hio
                  subst hio
                  have t29 : T.getD 29 undef = .slice (some ⟨g, o, none⟩) n cap := (TS.out 29 16 _ (by decide) (by decide) (PRE.out ⟨16, .data⟩ (by simp) rfl) V16.out).1
                  have t31 : T.getD 31 undef = .int .i64 ((i : Int) - 1) := (TS.out 31 18 _ (by decide) (by decide) (PRE.out ⟨18, .data⟩ (by simp) rfl) V18.out).1
                  have g28 : T[28]? = some (.bool true) := (TS.out 28 15 _ (by decide) (by decide) (PRE.out ⟨15, .guard⟩ (by simp) rfl) V15.out).2
                  have vj := V19.out
                  refine wpOp_by rfl fun K HK => ?_
                  rw [vj] at HK
                  clear vj
                  go_wp2_with (fail)
                  exact HK.out _ _ ⟨rfl, HB.out⟩
                | 20, hio =>
                  simp only [List.getElem?_toArray, List.getElem?_cons_succ, List.getElem?_cons_zero, Option.some.injEq] at hio
                  subst hio
                  have t32 : T.getD 32 undef = .pointer (some ⟨g, o + (i - 1) * 18, none⟩) := (TS.out 32 19 _ (by decide) (by decide) (PRE.out ⟨19, .data⟩ (by simp) rfl) V19.out).1
                  have g28 : T[28]? = some (.bool true) := (TS.out 28 15 _ (by decide) (by decide) (PRE.out ⟨15, .guard⟩ (by simp) rfl) V15.out).2
                  have vj := V20.out
                  refine wpOp_by rfl fun K HK => ?_
                  rw [vj] at HK
                  clear vj
                  go_wp2_with (fail)
                  exact HK.out _ _ ⟨rfl, HB.out⟩
                | 21, hio =>
                  simp only [List.getElem?_toArray, List.getElem?_cons_succ, List.getElem?_cons_zero, Option.some.injEq] at hio
                  subst hio
                  have t33 : T.getD 33 undef = .pointer (some ⟨g, o + (i - 1) * 18, none⟩) := (TS.out 33 20 _ (by decide) (by decide) (PRE.out ⟨20, .data⟩ (by simp) rfl) V20.out).1
                  have g28 : T[28]? = some (.bool true) := (TS.out 28 15 _ (by decide) (by decide) (PRE.out ⟨15, .guard⟩ (by simp) rfl) V15.out).2
                  have d0 : W.cell? ⟨g, o + (i - 1) * 18, none⟩ = some (.int .i32 p0) := LC0.out W HB.out 0 _ rfl
                  have d1 : W.cell? ⟨g, o + (i - 1) * 18 + 1, none⟩ = some (.int .i32 q0) := LC0.out W HB.out 1 _ rfl
                  have vj := V21.out
                  refine wpOp_by rfl fun K HK => ?_
                  rw [vj] at HK
                  clear vj
                  go_wp2_with (fail)
                  exact HK.out _ _ ⟨rfl, HB.out⟩
                | 22, hio =>
                  simp only [List.getElem?_toArray, List.getElem?_cons_succ, List.getElem?_cons_zero, Option.some.injEq] at hio
                  subst hio
                  have g28 : T[28]? = some (.bool true) := (TS.out 28 15 _ (by decide) (by decide) (PRE.out ⟨15, .guard⟩ (by simp) rfl) V15.out).2
                  have t0 : T.getD 0 undef = .slice (some ⟨g, o, none⟩) n cap := R0.out
                  have vj := V22.out
                  refine wpOp_by rfl fun K HK => ?_
                  rw [vj] at HK
                  clear vj
                  go_wp2_with (fail)
                  exact HK.out _ _ ⟨rfl, HB.out⟩
                | 23, hio =>
                  simp only [List.getElem?_toArray, List.getElem?_cons_succ, List.getElem?_cons_zero, Option.some.injEq] at hio
                  subst hio
                  have g28 : T[28]? = some (.bool true) := (TS.out 28 15 _ (by decide) (by decide) (PRE.out ⟨15, .guard⟩ (by simp) rfl) V15.out).2
                  have t3 : T.getD 3 undef = .int .i64 (i : Int) := R3.out
                  have vj := V23.out
                  refine wpOp_by rfl fun K HK => ?_
                  rw [vj] at HK
                  clear vj
                  go_wp2_with (fail)
                  exact HK.out _ _ ⟨rfl, HB.out⟩
                | 24, hio =>
                  simp only [List.getElem?_toArray, List.getElem?_cons_succ, List.getElem?_cons_zero, Option.some.injEq] at hio
                  subst hio
                  have t35 : T.getD 35 undef = .slice (some ⟨g, o, none⟩) n cap := (TS.out 35 22 _ (by decide) (by decide) (PRE.out ⟨22, .data⟩ (by simp) rfl) V22.out).1
                  have t36 : T.getD 36 undef = .int .i64 (i : Int) := (TS.out 36 23 _ (by decide) (by decide) (PRE.out ⟨23, .data⟩ (by simp) rfl) V23.out).1
                  have g28 : T[28]? = some (.bool true) := (TS.out 28 15 _ (by decide) (by decide) (PRE.out ⟨15, .guard⟩ (by simp) rfl) V15.out).2
                  have vj := V24.out
                  refine wpOp_by rfl fun K HK => ?_
                  rw [vj] at HK
                  clear vj
                  go_wp2_with (fail)
                  exact HK.out _ _ ⟨rfl, HB.out⟩
                | 25, hio =>
                  simp only [List.getElem?_toArray, List.getElem?_cons_succ, List.getElem?_cons_zero, Option.some.injEq] at hio
                  subst hio
                  have t37 : T.getD 37 undef = .pointer (some ⟨g, o + i * 18, none⟩) := (TS.out 37 24 _ (by decide) (by decide) (PRE.out ⟨24, .data⟩ (by simp) rfl) V24.out).1
                  have g28 : T[28]? = some (.bool true) := (TS.out 28 15 _ (by decide) (by decide) (PRE.out ⟨15, .guard⟩ (by simp) rfl) V15.out).2
                  have vj := V25.out
                  refine wpOp_by rfl fun K HK => ?_
                  rw [vj] at HK
                  clear vj
                  go_wp2_with (fail)
                  exact HK.out _ _ ⟨rfl, HB.out⟩
                | 26, hio =>
                  simp only [List.getElem?_toArray, List.getElem?_cons_succ, List.getElem?_cons_zero, Option.some.injEq] at hio
                  subst hio
                  have t38 : T.getD 38 undef = .pointer (some ⟨g, o + i * 18, none⟩) := (TS.out 38 25 _ (by decide) (by decide) (PRE.out ⟨25, .data⟩ (by simp) rfl) V25.out).1
                  have g28 : T[28]? = some (.bool true) := (TS.out 28 15 _ (by decide) (by decide) (PRE.out ⟨15, .guard⟩ (by simp) rfl) V15.out).2
                  have d0 : W.cell? ⟨g, o + i * 18, none⟩ = some (.int .i32 p) := LCO.out W HB.out 0 _ rfl
                  have d1 : W.cell? ⟨g, o + i * 18 + 1, none⟩ = some (.int .i32 q) := LCO.out W HB.out 1 _ rfl
                  have vj := V26.out
                  refine wpOp_by rfl fun K HK => ?_
                  rw [vj] at HK
                  clear vj
                  go_wp2_with (fail)
                  exact HK.out _ _ ⟨rfl, HB.out⟩
                | 27, hio =>
                  simp only [List.getElem?_toArray, List.getElem?_cons_succ, List.getElem?_cons_zero, Option.some.injEq] at hio
                  subst hio
                  have t34 : T.getD 34 undef = .agg #[.int .i32 p0, .int .i32 q0] := (TS.out 34 21 _ (by decide) (by decide) (PRE.out ⟨21, .data⟩ (by simp) rfl) V21.out).1
                  have t39 : T.getD 39 undef = .agg #[.int .i32 p, .int .i32 q] := (TS.out 39 26 _ (by decide) (by decide) (PRE.out ⟨26, .data⟩ (by simp) rfl) V26.out).1
                  have g28 : T[28]? = some (.bool true) := (TS.out 28 15 _ (by decide) (by decide) (PRE.out ⟨15, .guard⟩ (by simp) rfl) V15.out).2
                  have vj := V27.out
                  refine wpOp_by rfl fun K HK => ?_
                  rw [vj] at HK
                  clear vj
                  go_wp2_with fail
                  refine (BEF.out W).mono ?_
                  rintro e W' ⟨rfl, hb⟩
                  go_wp2
                  exact HK.out _ _ ⟨rfl, HB.out.trans (hb.mono HB.out.size)⟩
                | 28, hio =>
                  simp only [List.getElem?_toArray, List.getElem?_cons_succ, List.getElem?_cons_zero, Option.some.injEq] at hio
                  subst hio
                  have t40 : T.getD 40 undef = .bool true := (TS.out 40 27 _ (by decide) (by decide) (PRE.out ⟨27, .data⟩ (by simp) rfl) V27.out).1
                  have g28 : T[28]? = some (.bool true) := (TS.out 28 15 _ (by decide) (by decide) (PRE.out ⟨15, .guard⟩ (by simp) rfl) V15.out).2
                  have vj := V28.out
                  refine wpOp_by rfl fun K HK => ?_
                  rw [vj] at HK
                  clear vj
                  go_wp2_with (fail)
                  exact HK.out _ _ ⟨rfl, HB.out⟩
                | 29, hio =>
                  simp only [List.getElem?_toArray, List.getElem?_cons_succ, List.getElem?_cons_zero, Option.some.injEq] at hio
                  subst hio
                  have t28 : T.getD 28 undef = .bool true := (TS.out 28 15 _ (by decide) (by decide) (PRE.out ⟨15, .data⟩ (by simp) rfl) V15.out).1
                  have t41 : T.getD 41 undef = .bool false := (TS.out 41 28 _ (by decide) (by decide) (PRE.out ⟨28, .data⟩ (by simp) rfl) V28.out).1
                  have g25 : T[25]? = some (.bool false) := (TS.out 25 12 _ (by decide) (by decide) (PRE.out ⟨12, .guard⟩ (by simp) rfl) V12.out).2
                  have vj := V29.out
                  refine wpOp_by rfl fun K HK => ?_
                  rw [vj] at HK
                  clear vj
                  go_wp2_with (fail)
                  exact HK.out _ _ ⟨rfl, HB.out⟩
                | 30, hio =>
                  simp only [List.getElem?_toArray, List.getElem?_cons_succ, List.getElem?_cons_zero, Option.some.injEq] at hio
                  subst hio
                  have t25 : T.getD 25 undef = .bool false := (TS.out 25 12 _ (by decide) (by decide) (PRE.out ⟨12, .data⟩ (by simp) rfl) V12.out).1
                  have t42 : T.getD 42 undef = .bool false := (TS.out 42 29 _ (by decide) (by decide) (PRE.out ⟨29, .data⟩ (by simp) rfl) V29.out).1
                  have vj := V30.out
                  refine wpOp_by rfl fun K HK => ?_
                  rw [vj] at HK
                  clear vj
                  go_wp2_with (fail)
                  exact HK.out _ _ ⟨rfl, HB.out⟩
                | k + 31, hio => simp at hio
              case hendD =>
                intro W1 hB
                rw [show tabT _ (ownR 13 31) V (Array.replicate _ true) = #[.slice (some ⟨g, o, none⟩) n cap, undef, u2, .int .i64 (i : Int), .slice (some ⟨g, o, none⟩) n cap, .int .i64 (n : Int), .bool (decide ((64 : Int) < (n : Int))), .int .i64 (i : Int), .slice (some ⟨g, o, none⟩) n cap, .int .i64 (n : Int), .bool true, u11, u12, .slice (some ⟨g, o, none⟩) n cap, .int .i64 (i : Int), .pointer (some ⟨g, o + i * 18, none⟩), .pointer (some ⟨g, o + i * 18 + 2, none⟩), .bool false, .bool false, .slice (some ⟨g, o, none⟩) n cap, .int .i64 (i : Int), .pointer (some ⟨g, o + i * 18, none⟩), .bool true, .bool false, .bool false, .bool false, .int .i64 (i : Int), .bool true, .bool true, .slice (some ⟨g, o, none⟩) n cap, .int .i64 (i : Int), .int .i64 ((i : Int) - 1), .pointer (some ⟨g, o + (i - 1) * 18, none⟩), .pointer (some ⟨g, o + (i - 1) * 18, none⟩), .agg #[.int .i32 p0, .int .i32 q0], .slice (some ⟨g, o, none⟩) n cap, .int .i64 (i : Int), .pointer (some ⟨g, o + i * 18, none⟩), .pointer (some ⟨g, o + i * 18, none⟩), .agg #[.int .i32 p, .int .i32 q], .bool true, .bool false, .bool false, .bool false] from HCONC.out]
                clear HCONC V0 V1 V2 V3 V4 V5 V6 V7 V8 V9 V10 V11 V12 V13 V14 V15 V16 V17 V18 V19 V20 V21 V22 V23 V24 V25 V26 V27 V28 V29 V30
                have HB1 := Lib.hid (HB.out.trans (hB.mono HB.out.size))
                clear hB
                have hres : okB f i = true := by rw [OKI.out]; simp
                have HRES := Lib.hid (okB_next HA.out hres)
                clear hres
                go_wp2
                go_roundw
                case rel => exact ⟨i + 1, HI.out, by go_num, HB1.out, HRES.out⟩
                case measure => have := HI.out; simp [intOf]; omega
            | false =>
              obtain ⟨V, v0, v1, v2, v3, v4, v5, v6, v7, v8, v9, v10, v11, v12, v13, v14, v15, v16, v17, v18, v19, v20, v21, v22, v23, v24, v25, v26, v27, v28, v29, v30⟩ : ∃ V : Nat → Value, V 0 = .slice (some ⟨g, o, none⟩) n cap ∧ V 1 = .int .i64 (i : Int) ∧ V 2 = .pointer (some ⟨g, o + i * 18, none⟩) ∧ V 3 = .pointer (some ⟨g, o + i * 18 + 2, none⟩) ∧ V 4 = .bool false ∧ V 5 = .bool false ∧ V 6 = .slice (some ⟨g, o, none⟩) n cap ∧ V 7 = .int .i64 (i : Int) ∧ V 8 = .pointer (some ⟨g, o + i * 18, none⟩) ∧ V 9 = .bool true ∧ V 10 = .bool false ∧ V 11 = .bool false ∧ V 12 = .bool false ∧ V 13 = .int .i64 (i : Int) ∧ V 14 = .bool true ∧ V 15 = .bool true ∧ V 16 = .slice (some ⟨g, o, none⟩) n cap ∧ V 17 = .int .i64 (i : Int) ∧ V 18 = .int .i64 ((i : Int) - 1) ∧ V 19 = .pointer (some ⟨g, o + (i - 1) * 18, none⟩) ∧ V 20 = .pointer (some ⟨g, o + (i - 1) * 18, none⟩) ∧ V 21 = .agg #[.int .i32 p0, .int .i32 q0] ∧ V 22 = .slice (some ⟨g, o, none⟩) n cap ∧ V 23 = .int .i64 (i : Int) ∧ V 24 = .pointer (some ⟨g, o + i * 18, none⟩) ∧ V 25 = .pointer (some ⟨g, o + i * 18, none⟩) ∧ V 26 = .agg #[.int .i32 p, .int .i32 q] ∧ V 27 = .bool false ∧ V 28 = .bool true ∧ V 29 = .bool true ∧ V 30 = .bool true := ⟨fun s0 => match s0 with | 0 => .slice (some ⟨g, o, none⟩) n cap | 1 => .int .i64 (i : Int) | 2 => .pointer (some ⟨g, o + i * 18, none⟩) | 3 => .pointer (some ⟨g, o + i * 18 + 2, none⟩) | 4 => .bool false | 5 => .bool false | 6 => .slice (some ⟨g, o, none⟩) n cap | 7 => .int .i64 (i : Int) | 8 => .pointer (some ⟨g, o + i * 18, none⟩) | 9 => .bool true | 10 => .bool false | 11 => .bool false | 12 => .bool false | 13 => .int .i64 (i : Int) | 14 => .bool true | 15 => .bool true | 16 => .slice (some ⟨g, o, none⟩) n cap | 17 => .int .i64 (i : Int) | 18 => .int .i64 ((i : Int) - 1) | 19 => .pointer (some ⟨g, o + (i - 1) * 18, none⟩) | 20 => .pointer (some ⟨g, o + (i - 1) * 18, none⟩) | 21 => .agg #[.int .i32 p0, .int .i32 q0] | 22 => .slice (some ⟨g, o, none⟩) n cap | 23 => .int .i64 (i : Int) | 24 => .pointer (some ⟨g, o + i * 18, none⟩) | 25 => .pointer (some ⟨g, o + i * 18, none⟩) | 26 => .agg #[.int .i32 p, .int .i32 q] | 27 => .bool false | 28 => .bool true | 29 => .bool true | 30 => .bool true | _ => undef, rfl, rfl, rfl, rfl, rfl, rfl, rfl, rfl, rfl, rfl, rfl, rfl, rfl, rfl, rfl, rfl, rfl, rfl, rfl, rfl, rfl, rfl, rfl, rfl, rfl, rfl, rfl, rfl, rfl, rfl, rfl⟩
              have hconc : tabT #[.slice (some ⟨g, o, none⟩) n cap, undef, u2, .int .i64 (i : Int), .slice (some ⟨g, o, none⟩) n cap, .int .i64 (n : Int), .bool (decide ((64 : Int) < (n : Int))), .int .i64 (i : Int), .slice (some ⟨g, o, none⟩) n cap, .int .i64 (n : Int), .bool true, u11, u12, u13, u14, u15, u16, u17, u18, u19, u20, u21, u22, u23, u24, u25, u26, u27, u28, u29, u30, u31, u32, u33, u34, u35, u36, u37, u38, u39, u40, u41, u42, u43] (ownR 13 31) V (Array.replicate 31 true) = #[.slice (some ⟨g, o, none⟩) n cap, undef, u2, .int .i64 (i : Int), .slice (some ⟨g, o, none⟩) n cap, .int .i64 (n : Int), .bool (decide ((64 : Int) < (n : Int))), .int .i64 (i : Int), .slice (some ⟨g, o, none⟩) n cap, .int .i64 (n : Int), .bool true, u11, u12, .slice (some ⟨g, o, none⟩) n cap, .int .i64 (i : Int), .pointer (some ⟨g, o + i * 18, none⟩), .pointer (some ⟨g, o + i * 18 + 2, none⟩), .bool false, .bool false, .slice (some ⟨g, o, none⟩) n cap, .int .i64 (i : Int), .pointer (some ⟨g, o + i * 18, none⟩), .bool true, .bool false, .bool false, .bool false, .int .i64 (i : Int), .bool true, .bool true, .slice (some ⟨g, o, none⟩) n cap, .int .i64 (i : Int), .int .i64 ((i : Int) - 1), .pointer (some ⟨g, o + (i - 1) * 18, none⟩), .pointer (some ⟨g, o + (i - 1) * 18, none⟩), .agg #[.int .i32 p0, .int .i32 q0], .slice (some ⟨g, o, none⟩) n cap, .int .i64 (i : Int), .pointer (some ⟨g, o + i * 18, none⟩), .pointer (some ⟨g, o + i * 18, none⟩), .agg #[.int .i32 p, .int .i32 q], .bool false, .bool true, .bool true, .bool true] := by simp [tabT, ownR, v0, v1, v2, v3, v4, v5, v6, v7, v8, v9, v10, v11, v12, v13, v14, v15, v16, v17, v18, v19, v20, v21, v22, v23, v24, v25, v26, v27, v28, v29, v30]
              have V0 := Lib.hid v0
              have V1 := Lib.hid v1
              have V2 := Lib.hid v2
              have V3 := Lib.hid v3
              have V4 := Lib.hid v4
              have V5 := Lib.hid v5
              have V6 := Lib.hid v6
              have V7 := Lib.hid v7
              have V8 := Lib.hid v8
              have V9 := Lib.hid v9
              have V10 := Lib.hid v10
              have V11 := Lib.hid v11
              have V12 := Lib.hid v12
              have V13 := Lib.hid v13
              have V14 := Lib.hid v14
              have V15 := Lib.hid v15
              have V16 := Lib.hid v16
              have V17 := Lib.hid v17
              have V18 := Lib.hid v18
              have V19 := Lib.hid v19
              have V20 := Lib.hid v20
              have V21 := Lib.hid v21
              have V22 := Lib.hid v22
              have V23 := Lib.hid v23
              have V24 := Lib.hid v24
              have V25 := Lib.hid v25
              have V26 := Lib.hid v26
              have V27 := Lib.hid v27
              have V28 := Lib.hid v28
              have V29 := Lib.hid v29
              have V30 := Lib.hid v30
              have HCONC := Lib.hid hconc
              clear hconc v0 v1 v2 v3 v4 v5 v6 v7 v8 v9 v10 v11 v12 v13 v14 v15 v16 v17 v18 v19 v20 v21 v22 v23 v24 v25 v26 v27 v28 v29 v30
              refine wp_region_table (by kernel_rfl) (by kernel_rfl) 31 rfl V (ownR 13 31) (fun i => i + 13) (fun i hi => ownR_hit (show i < 31 from hi)) (fun s i hs => (show i < 31 from ownR_lt hs)) ?hstepE ?hendE
              case hstepE =>
                intro oi oo listed T W hio hB hpre hts htn
                have HB := Lib.hid hB
                have PRE := Lib.hid hpre
                have TS : Hid (∀ (s j : Nat) (v : Value), s < 44 → (ownR 13 31) s = some j → listed.getD j false = true → V j = v → T.getD s undef = v ∧ T[s]? = some v) := Lib.hid hts
                have R0 : Hid (T.getD 0 undef = .slice (some ⟨g, o, none⟩) n cap) := Lib.hid (htn 0 (by decide))
                have R3 : Hid (T.getD 3 undef = .int .i64 (i : Int)) := Lib.hid (htn 3 (by decide))
                clear hB hpre hts htn HCONC
                match oi, hio with
                | 0, hio =>
                  clear hio
                  have t0 : T.getD 0 undef = .slice (some ⟨g, o, none⟩) n cap := R0.out
                  have vj := V0.out
                  refine wpOp_by rfl fun K HK => ?_
                  rw [vj] at HK
                  clear vj
                  go_wp2_with (fail)
                  exact HK.out _ _ ⟨rfl, HB.out⟩
                | 1, hio =>
                  clear hio
                  have t3 : T.getD 3 undef = .int .i64 (i : Int) := R3.out
                  have vj := V1.out
                  refine wpOp_by rfl fun K HK => ?_
                  rw [vj] at HK
                  clear vj
                  go_wp2_with (fail)
                  exact HK.out _ _ ⟨rfl, HB.out⟩
                | 2, hio =>
                  simp only [List.getElem?_toArray, List.getElem?_cons_succ, List.getElem?_cons_zero, Option.some.injEq] at hio
                  subst hio
                  have t13 : T.getD 13 undef = .slice (some ⟨g, o, none⟩) n cap := (TS.out 13 0 _ (by decide) (by decide) (PRE.out ⟨0, .data⟩ (by simp) rfl) V0.out).1
                  have t14 : T.getD 14 undef = .int .i64 (i : Int) := (TS.out 14 1 _ (by decide) (by decide) (PRE.out ⟨1, .data⟩ (by simp) rfl) V1.out).1
                  have vj := V2.out
                  refine wpOp_by rfl fun K HK => ?_
                  rw [vj] at HK
                  clear vj
                  go_wp2_with (fail)
                  exact HK.out _ _ ⟨rfl, HB.out⟩
                | 3, hio =>
                  simp only [List.getElem?_toArray, List.getElem?_cons_succ, List.getElem?_cons_zero, Option.some.injEq] at hio
                  subst hio
                  have t15 : T.getD 15 undef = .pointer (some ⟨g, o + i * 18, none⟩) := (TS.out 15 2 _ (by decide) (by decide) (PRE.out ⟨2, .data⟩ (by simp) rfl) V2.out).1
                  have vj := V3.out
                  refine wpOp_by rfl fun K HK => ?_
                  rw [vj] at HK
                  clear vj
                  go_wp2_with (fail)
                  exact HK.out _ _ ⟨rfl, HB.out⟩
                | 4, hio =>
                  simp only [List.getElem?_toArray, List.getElem?_cons_succ, List.getElem?_cons_zero, Option.some.injEq] at hio
                  subst hio
                  have t16 : T.getD 16 undef = .pointer (some ⟨g, o + i * 18 + 2, none⟩) := (TS.out 16 3 _ (by decide) (by decide) (PRE.out ⟨3, .data⟩ (by simp) rfl) V3.out).1
                  have vj := V4.out
                  refine wpOp_by rfl fun K HK => ?_
                  rw [vj] at HK
                  clear vj
                  go_wp2_with fail
                  refine (EMP.out W HB.out).mono ?_
                  rintro e W' ⟨rfl, hb⟩
                  go_wp2
                  exact HK.out _ _ ⟨rfl, HB.out.trans (hb.mono HB.out.size)⟩
                | 5, hio =>
                  simp only [List.getElem?_toArray, List.getElem?_cons_succ, List.getElem?_cons_zero, Option.some.injEq] at hio
                  subst hio
                  have t17 : T.getD 17 undef = .bool false := (TS.out 17 4 _ (by decide) (by decide) (PRE.out ⟨4, .data⟩ (by simp) rfl) V4.out).1
                  have vj := V5.out
                  refine wpOp_by rfl fun K HK => ?_
                  rw [vj] at HK
                  clear vj
                  go_wp2_with (fail)
                  exact HK.out _ _ ⟨rfl, HB.out⟩
                | 6, hio =>
                  simp only [List.getElem?_toArray, List.getElem?_cons_succ, List.getElem?_cons_zero, Option.some.injEq] at hio
                  subst hio
                  have g18 : T[18]? = some (.bool false) := (TS.out 18 5 _ (by decide) (by decide) (PRE.out ⟨5, .guard⟩ (by simp) rfl) V5.out).2
                  have t0 : T.getD 0 undef = .slice (some ⟨g, o, none⟩) n cap := R0.out
                  have vj := V6.out
                  refine wpOp_by rfl fun K HK => ?_
                  rw [vj] at HK
                  clear vj
                  go_wp2_with (fail)
                  exact HK.out _ _ ⟨rfl, HB.out⟩
                | 7, hio =>
                  simp only [List.getElem?_toArray, List.getElem?_cons_succ, List.getElem?_cons_zero, Option.some.injEq] at hio
                  subst hio
                  have g18 : T[18]? = some (.bool false) := (TS.out 18 5 _ (by decide) (by decide) (PRE.out ⟨5, .guard⟩ (by simp) rfl) V5.out).2
                  have t3 : T.getD 3 undef = .int .i64 (i : Int) := R3.out
                  have vj := V7.out
                  refine wpOp_by rfl fun K HK => ?_
                  rw [vj] at HK
                  clear vj
                  go_wp2_with (fail)
                  exact HK.out _ _ ⟨rfl, HB.out⟩
                | 8, hio =>
                  simp only [List.getElem?_toArray, List.getElem?_cons_succ, List.getElem?_cons_zero, Option.some.injEq] at hio
                  subst hio
                  have t19 : T.getD 19 undef = .slice (some ⟨g, o, none⟩) n cap := (TS.out 19 6 _ (by decide) (by decide) (PRE.out ⟨6, .data⟩ (by simp) rfl) V6.out).1
                  have t20 : T.getD 20 undef = .int .i64 (i : Int) := (TS.out 20 7 _ (by decide) (by decide) (PRE.out ⟨7, .data⟩ (by simp) rfl) V7.out).1
                  have g18 : T[18]? = some (.bool false) := (TS.out 18 5 _ (by decide) (by decide) (PRE.out ⟨5, .guard⟩ (by simp) rfl) V5.out).2
                  have vj := V8.out
                  refine wpOp_by rfl fun K HK => ?_
                  rw [vj] at HK
                  clear vj
                  go_wp2_with (fail)
                  exact HK.out _ _ ⟨rfl, HB.out⟩
                | 9, hio =>
                  simp only [List.getElem?_toArray, List.getElem?_cons_succ, List.getElem?_cons_zero, Option.some.injEq] at hio
                  subst hio
                  have t21 : T.getD 21 undef = .pointer (some ⟨g, o + i * 18, none⟩) := (TS.out 21 8 _ (by decide) (by decide) (PRE.out ⟨8, .data⟩ (by simp) rfl) V8.out).1
                  have g18 : T[18]? = some (.bool false) := (TS.out 18 5 _ (by decide) (by decide) (PRE.out ⟨5, .guard⟩ (by simp) rfl) V5.out).2
                  have vj := V9.out
                  refine wpOp_by rfl fun K HK => ?_
                  rw [vj] at HK
                  clear vj
                  go_wp2_with fail
                  refine (FIT.out W HB.out).mono ?_
                  rintro e W' ⟨rfl, hb⟩
                  go_wp2
                  exact HK.out _ _ ⟨rfl, HB.out.trans (hb.mono HB.out.size)⟩
                | 10, hio =>
                  simp only [List.getElem?_toArray, List.getElem?_cons_succ, List.getElem?_cons_zero, Option.some.injEq] at hio
                  subst hio
                  have t22 : T.getD 22 undef = .bool true := (TS.out 22 9 _ (by decide) (by decide) (PRE.out ⟨9, .data⟩ (by simp) rfl) V9.out).1
                  have g18 : T[18]? = some (.bool false) := (TS.out 18 5 _ (by decide) (by decide) (PRE.out ⟨5, .guard⟩ (by simp) rfl) V5.out).2
                  have vj := V10.out
                  refine wpOp_by rfl fun K HK => ?_
                  rw [vj] at HK
                  clear vj
                  go_wp2_with (fail)
                  exact HK.out _ _ ⟨rfl, HB.out⟩
                | 11, hio =>
                  simp only [List.getElem?_toArray, List.getElem?_cons_succ, List.getElem?_cons_zero, Option.some.injEq] at hio
                  subst hio
                  have t18 : T.getD 18 undef = .bool false := (TS.out 18 5 _ (by decide) (by decide) (PRE.out ⟨5, .data⟩ (by simp) rfl) V5.out).1
                  have t23 : T.getD 23 undef = .bool false := (TS.out 23 10 _ (by decide) (by decide) (PRE.out ⟨10, .data⟩ (by simp) rfl) V10.out).1
                  have vj := V11.out
                  refine wpOp_by rfl fun K HK => ?_
                  rw [vj] at HK
                  clear vj
                  go_wp2_with (fail)
                  exact HK.out _ _ ⟨rfl, HB.out⟩
                | 12, hio =>
                  simp only [List.getElem?_toArray, List.getElem?_cons_succ, List.getElem?_cons_zero, Option.some.injEq] at hio
                  subst hio
                  have t24 : T.getD 24 undef = .bool false := (TS.out 24 11 _ (by decide) (by decide) (PRE.out ⟨11, .data⟩ (by simp) rfl) V11.out).1
                  have vj := V12.out
                  refine wpOp_by rfl fun K HK => ?_
                  rw [vj] at HK
                  clear vj
                  go_wp2_with (fail)
                  exact HK.out _ _ ⟨rfl, HB.out⟩
                | 13, hio =>
                  simp only [List.getElem?_toArray, List.getElem?_cons_succ, List.getElem?_cons_zero, Option.some.injEq] at hio
                  subst hio
                  have g25 : T[25]? = some (.bool false) := (TS.out 25 12 _ (by decide) (by decide) (PRE.out ⟨12, .guard⟩ (by simp) rfl) V12.out).2
                  have t3 : T.getD 3 undef = .int .i64 (i : Int) := R3.out
                  have vj := V13.out
                  refine wpOp_by rfl fun K HK => ?_
                  rw [vj] at HK
                  clear vj
                  go_wp2_with (fail)
                  exact HK.out _ _ ⟨rfl, HB.out⟩
                | 14, hio =>
                  simp only [List.getElem?_toArray, List.getElem?_cons_succ, List.getElem?_cons_zero, Option.some.injEq] at hio
                  subst hio
                  have t26 : T.getD 26 undef = .int .i64 (i : Int) := (TS.out 26 13 _ (by decide) (by decide) (PRE.out ⟨13, .data⟩ (by simp) rfl) V13.out).1
                  have g25 : T[25]? = some (.bool false) := (TS.out 25 12 _ (by decide) (by decide) (PRE.out ⟨12, .guard⟩ (by simp) rfl) V12.out).2
                  have vj := V14.out
                  refine wpOp_by rfl fun K HK => ?_
                  rw [vj] at HK
                  clear vj
                  go_wp2_with (fail)
                  exact HK.out _ _ ⟨rfl, HB.out⟩
                | 15, hio =>
                  simp only [List.getElem?_toArray, List.getElem?_cons_succ, List.getElem?_cons_zero, Option.some.injEq] at hio
                  subst hio
                  have t27 : T.getD 27 undef = .bool true := (TS.out 27 14 _ (by decide) (by decide) (PRE.out ⟨14, .data⟩ (by simp) rfl) V14.out).1
                  have g25 : T[25]? = some (.bool false) := (TS.out 25 12 _ (by decide) (by decide) (PRE.out ⟨12, .guard⟩ (by simp) rfl) V12.out).2
                  have vj := V15.out
                  refine wpOp_by rfl fun K HK => ?_
                  rw [vj] at HK
                  clear vj
                  go_wp2_with (fail)
                  exact HK.out _ _ ⟨rfl, HB.out⟩
                | 16, hio =>
                  simp only [List.getElem?_toArray, List.getElem?_cons_succ, List.getElem?_cons_zero, Option.some.injEq] at hio
                  subst hio
                  have g28 : T[28]? = some (.bool true) := (TS.out 28 15 _ (by decide) (by decide) (PRE.out ⟨15, .guard⟩ (by simp) rfl) V15.out).2
                  have t0 : T.getD 0 undef = .slice (some ⟨g, o, none⟩) n cap := R0.out
                  have vj := V16.out
                  refine wpOp_by rfl fun K HK => ?_
                  rw [vj] at HK
                  clear vj
                  go_wp2_with (fail)
                  exact HK.out _ _ ⟨rfl, HB.out⟩
                | 17, hio =>
                  simp only [List.getElem?_toArray, List.getElem?_cons_succ, List.getElem?_cons_zero, Option.some.injEq] at hio
                  subst hio
                  have g28 : T[28]? = some (.bool true) := (TS.out 28 15 _ (by decide) (by decide) (PRE.out ⟨15, .guard⟩ (by simp) rfl) V15.out).2
                  have t3 : T.getD 3 undef = .int .i64 (i : Int) := R3.out
                  have vj := V17.out
                  refine wpOp_by rfl fun K HK => ?_
                  rw [vj] at HK
                  clear vj
                  go_wp2_with (fail)
                  exact HK.out _ _ ⟨rfl, HB.out⟩
                | 18, hio =>
                  simp only [List.getElem?_toArray, List.getElem?_cons_succ, List.getElem?_cons_zero, Option.some.injEq] at hio
                  subst hio
                  have t30 : T.getD 30 undef = .int .i64 (i : Int) := (TS.out 30 17 _ (by decide) (by decide) (PRE.out ⟨17, .data⟩ (by simp) rfl) V17.out).1
                  have g28 : T[28]? = some (.bool true) := (TS.out 28 15 _ (by decide) (by decide) (PRE.out ⟨15, .guard⟩ (by simp) rfl) V15.out).2
                  have vj := V18.out
                  refine wpOp_by rfl fun K HK => ?_
                  rw [vj] at HK
                  clear vj
                  go_wp2_with (fail)
                  exact HK.out _ _ ⟨rfl, HB.out⟩
                | 19, hio =>
                  simp only [List.getElem?_toArray, List.getElem?_cons_succ, List.getElem?_cons_zero, Option.some.injEq] at hio
                  subst hio
                  have t29 : T.getD 29 undef = .slice (some ⟨g, o, none⟩) n cap := (TS.out 29 16 _ (by decide) (by decide) (PRE.out ⟨16, .data⟩ (by simp) rfl) V16.out).1
                  have t31 : T.getD 31 undef = .int .i64 ((i : Int) - 1) := (TS.out 31 18 _ (by decide) (by decide) (PRE.out ⟨18, .data⟩ (by simp) rfl) V18.out).1
                  have g28 : T[28]? = some (.bool true) := (TS.out 28 15 _ (by decide) (by decide) (PRE.out ⟨15, .guard⟩ (by simp) rfl) V15.out).2
                  have vj := V19.out
                  refine wpOp_by rfl fun K HK => ?_
                  rw [vj] at HK
                  clear vj
                  go_wp2_with (fail)
                  exact HK.out _ _ ⟨rfl, HB.out⟩
                | 20, hio =>
                  simp only [List.getElem?_toArray, List.getElem?_cons_succ, List.getElem?_cons_zero, Option.some.injEq] at hio
                  subst hio
                  have t32 : T.getD 32 undef = .pointer (some ⟨g, o + (i - 1) * 18, none⟩) := (TS.out 32 19 _ (by decide) (by decide) (PRE.out ⟨19, .data⟩ (by simp) rfl) V19.out).1
                  have g28 : T[28]? = some (.bool true) := (TS.out 28 15 _ (by decide) (by decide) (PRE.out ⟨15, .guard⟩ (by simp) rfl) V15.out).2
                  have vj := V20.out
                  refine wpOp_by rfl fun K HK => ?_
                  rw [vj] at HK
                  clear vj
                  go_wp2_with (fail)
                  exact HK.out _ _ ⟨rfl, HB.out⟩
                | 21, hio =>
                  simp only [List.getElem?_toArray, List.getElem?_cons_succ, List.getElem?_cons_zero, Option.some.injEq] at hio
                  subst hio
                  have t33 : T.getD 33 undef = .pointer (some ⟨g, o + (i - 1) * 18, none⟩) := (TS.out 33 20 _ (by decide) (by decide) (PRE.out ⟨20, .data⟩ (by simp) rfl) V20.out).1
                  have g28 : T[28]? = some (.bool true) := (TS.out 28 15 _ (by decide) (by decide) (PRE.out ⟨15, .guard⟩ (by simp) rfl) V15.out).2
                  have d0 : W.cell? ⟨g, o + (i - 1) * 18, none⟩ = some (.int .i32 p0) := LC0.out W HB.out 0 _ rfl
                  have d1 : W.cell? ⟨g, o + (i - 1) * 18 + 1, none⟩ = some (.int .i32 q0) := LC0.out W HB.out 1 _ rfl
                  have vj := V21.out
                  refine wpOp_by rfl fun K HK => ?_
                  rw [vj] at HK
                  clear vj
                  go_wp2_with (fail)
                  exact HK.out _ _ ⟨rfl, HB.out⟩
                | 22, hio =>
                  simp only [List.getElem?_toArray, List.getElem?_cons_succ, List.getElem?_cons_zero, Option.some.injEq] at hio
                  subst hio
                  have g28 : T[28]? = some (.bool true) := (TS.out 28 15 _ (by decide) (by decide) (PRE.out ⟨15, .guard⟩ (by simp) rfl) V15.out).2
                  have t0 : T.getD 0 undef = .slice (some ⟨g, o, none⟩) n cap := R0.out
                  have vj := V22.out
                  refine wpOp_by rfl fun K HK => ?_
                  rw [vj] at HK
                  clear vj
                  go_wp2_with (fail)
                  exact HK.out _ _ ⟨rfl, HB.out⟩
                | 23, hio =>
                  simp only [List.getElem?_toArray, List.getElem?_cons_succ, List.getElem?_cons_zero, Option.some.injEq] at hio
                  subst hio
                  have g28 : T[28]? = some (.bool true) := (TS.out 28 15 _ (by decide) (by decide) (PRE.out ⟨15, .guard⟩ (by simp) rfl) V15.out).2
                  have t3 : T.getD 3 undef = .int .i64 (i : Int) := R3.out
                  have vj := V23.out
                  refine wpOp_by rfl fun K HK => ?_
                  rw [vj] at HK
                  clear vj
                  go_wp2_with (fail)
                  exact HK.out _ _ ⟨rfl, HB.out⟩
                | 24, hio =>
                  simp only [List.getElem?_toArray, List.getElem?_cons_succ, List.getElem?_cons_zero, Option.some.injEq] at hio
                  subst hio
                  have t35 : T.getD 35 undef = .slice (some ⟨g, o, none⟩) n cap := (TS.out 35 22 _ (by decide) (by decide) (PRE.out ⟨22, .data⟩ (by simp) rfl) V22.out).1
                  have t36 : T.getD 36 undef = .int .i64 (i : Int) := (TS.out 36 23 _ (by decide) (by decide) (PRE.out ⟨23, .data⟩ (by simp) rfl) V23.out).1
                  have g28 : T[28]? = some (.bool true) := (TS.out 28 15 _ (by decide) (by decide) (PRE.out ⟨15, .guard⟩ (by simp) rfl) V15.out).2
                  have vj := V24.out
                  refine wpOp_by rfl fun K HK => ?_
                  rw [vj] at HK
                  clear vj
                  go_wp2_with (fail)
                  exact HK.out _ _ ⟨rfl, HB.out⟩
                | 25, hio =>
                  simp only [List.getElem?_toArray, List.getElem?_cons_succ, List.getElem?_cons_zero, Option.some.injEq] at hio
                  subst hio
                  have t37 : T.getD 37 undef = .pointer (some ⟨g, o + i * 18, none⟩) := (TS.out 37 24 _ (by decide) (by decide) (PRE.out ⟨24, .data⟩ (by simp) rfl) V24.out).1
                  have g28 : T[28]? = some (.bool true) := (TS.out 28 15 _ (by decide) (by decide) (PRE.out ⟨15, .guard⟩ (by simp) rfl) V15.out).2
                  have vj := V25.out
                  refine wpOp_by rfl fun K HK => ?_
                  rw [vj] at HK
                  clear vj
                  go_wp2_with (fail)
                  exact HK.out _ _ ⟨rfl, HB.out⟩
                | 26, hio =>
                  simp only [List.getElem?_toArray, List.getElem?_cons_succ, List.getElem?_cons_zero, Option.some.injEq] at hio
                  subst hio
                  have t38 : T.getD 38 undef = .pointer (some ⟨g, o + i * 18, none⟩) := (TS.out 38 25 _ (by decide) (by decide) (PRE.out ⟨25, .data⟩ (by simp) rfl) V25.out).1
                  have g28 : T[28]? = some (.bool true) := (TS.out 28 15 _ (by decide) (by decide) (PRE.out ⟨15, .guard⟩ (by simp) rfl) V15.out).2
                  have d0 : W.cell? ⟨g, o + i * 18, none⟩ = some (.int .i32 p) := LCO.out W HB.out 0 _ rfl
                  have d1 : W.cell? ⟨g, o + i * 18 + 1, none⟩ = some (.int .i32 q) := LCO.out W HB.out 1 _ rfl
                  have vj := V26.out
                  refine wpOp_by rfl fun K HK => ?_
                  rw [vj] at HK
                  clear vj
                  go_wp2_with (fail)
                  exact HK.out _ _ ⟨rfl, HB.out⟩
                | 27, hio =>
                  simp only [List.getElem?_toArray, List.getElem?_cons_succ, List.getElem?_cons_zero, Option.some.injEq] at hio
                  subst hio
                  have t34 : T.getD 34 undef = .agg #[.int .i32 p0, .int .i32 q0] := (TS.out 34 21 _ (by decide) (by decide) (PRE.out ⟨21, .data⟩ (by simp) rfl) V21.out).1
                  have t39 : T.getD 39 undef = .agg #[.int .i32 p, .int .i32 q] := (TS.out 39 26 _ (by decide) (by decide) (PRE.out ⟨26, .data⟩ (by simp) rfl) V26.out).1
                  have g28 : T[28]? = some (.bool true) := (TS.out 28 15 _ (by decide) (by decide) (PRE.out ⟨15, .guard⟩ (by simp) rfl) V15.out).2
                  have vj := V27.out
                  refine wpOp_by rfl fun K HK => ?_
                  rw [vj] at HK
                  clear vj
                  go_wp2_with fail
                  refine (BEF.out W).mono ?_
                  rintro e W' ⟨rfl, hb⟩
                  go_wp2
                  exact HK.out _ _ ⟨rfl, HB.out.trans (hb.mono HB.out.size)⟩
                | 28, hio =>
                  simp only [List.getElem?_toArray, List.getElem?_cons_succ, List.getElem?_cons_zero, Option.some.injEq] at hio
                  subst hio
                  have t40 : T.getD 40 undef = .bool false := (TS.out 40 27 _ (by decide) (by decide) (PRE.out ⟨27, .data⟩ (by simp) rfl) V27.out).1
                  have g28 : T[28]? = some (.bool true) := (TS.out 28 15 _ (by decide) (by decide) (PRE.out ⟨15, .guard⟩ (by simp) rfl) V15.out).2
                  have vj := V28.out
                  refine wpOp_by rfl fun K HK => ?_
                  rw [vj] at HK
                  clear vj
                  go_wp2_with (fail)
                  exact HK.out _ _ ⟨rfl, HB.out⟩
                | 29, hio =>
                  simp only [List.getElem?_toArray, List.getElem?_cons_succ, List.getElem?_cons_zero, Option.some.injEq] at hio
                  subst hio
                  have t28 : T.getD 28 undef = .bool true := (TS.out 28 15 _ (by decide) (by decide) (PRE.out ⟨15, .data⟩ (by simp) rfl) V15.out).1
                  have t41 : T.getD 41 undef = .bool true := (TS.out 41 28 _ (by decide) (by decide) (PRE.out ⟨28, .data⟩ (by simp) rfl) V28.out).1
                  have g25 : T[25]? = some (.bool false) := (TS.out 25 12 _ (by decide) (by decide) (PRE.out ⟨12, .guard⟩ (by simp) rfl) V12.out).2
                  have vj := V29.out
                  refine wpOp_by rfl fun K HK => ?_
                  rw [vj] at HK
                  clear vj
                  go_wp2_with (fail)
                  exact HK.out _ _ ⟨rfl, HB.out⟩
                | 30, hio =>
                  simp only [List.getElem?_toArray, List.getElem?_cons_succ, List.getElem?_cons_zero, Option.some.injEq] at hio
                  subst hio
                  have t25 : T.getD 25 undef = .bool false := (TS.out 25 12 _ (by decide) (by decide) (PRE.out ⟨12, .data⟩ (by simp) rfl) V12.out).1
                  have t42 : T.getD 42 undef = .bool true := (TS.out 42 29 _ (by decide) (by decide) (PRE.out ⟨29, .data⟩ (by simp) rfl) V29.out).1
                  have vj := V30.out
                  refine wpOp_by rfl fun K HK => ?_
                  rw [vj] at HK
                  clear vj
                  go_wp2_with (fail)
                  exact HK.out _ _ ⟨rfl, HB.out⟩
                | k + 31, hio => simp at hio
              case hendE =>
                intro W1 hB
                rw [show tabT _ (ownR 13 31) V (Array.replicate _ true) = #[.slice (some ⟨g, o, none⟩) n cap, undef, u2, .int .i64 (i : Int), .slice (some ⟨g, o, none⟩) n cap, .int .i64 (n : Int), .bool (decide ((64 : Int) < (n : Int))), .int .i64 (i : Int), .slice (some ⟨g, o, none⟩) n cap, .int .i64 (n : Int), .bool true, u11, u12, .slice (some ⟨g, o, none⟩) n cap, .int .i64 (i : Int), .pointer (some ⟨g, o + i * 18, none⟩), .pointer (some ⟨g, o + i * 18 + 2, none⟩), .bool false, .bool false, .slice (some ⟨g, o, none⟩) n cap, .int .i64 (i : Int), .pointer (some ⟨g, o + i * 18, none⟩), .bool true, .bool false, .bool false, .bool false, .int .i64 (i : Int), .bool true, .bool true, .slice (some ⟨g, o, none⟩) n cap, .int .i64 (i : Int), .int .i64 ((i : Int) - 1), .pointer (some ⟨g, o + (i - 1) * 18, none⟩), .pointer (some ⟨g, o + (i - 1) * 18, none⟩), .agg #[.int .i32 p0, .int .i32 q0], .slice (some ⟨g, o, none⟩) n cap, .int .i64 (i : Int), .pointer (some ⟨g, o + i * 18, none⟩), .pointer (some ⟨g, o + i * 18, none⟩), .agg #[.int .i32 p, .int .i32 q], .bool false, .bool true, .bool true, .bool true] from HCONC.out]
                clear HCONC V0 V1 V2 V3 V4 V5 V6 V7 V8 V9 V10 V11 V12 V13 V14 V15 V16 V17 V18 V19 V20 V21 V22 V23 V24 V25 V26 V27 V28 V29 V30
                have HB1 := Lib.hid (HB.out.trans (hB.mono HB.out.size))
                clear hB
                have hres : okB f i = false := by rw [OKI.out]; simp [HZ0.out]
                have HRES := Lib.hid (okB_false HI.out hres)
                clear hres
                go_wp2
                go_ret
                rw [HRES.out]
                exact ⟨rfl, HB1.out⟩
    · obtain rfl : i = n := by omega
      go_wp2
      go_ret
      rw [HA.out]
      exact ⟨rfl, HB.out⟩
end Go.Proofs.Ythfmkejdpflpcaa
