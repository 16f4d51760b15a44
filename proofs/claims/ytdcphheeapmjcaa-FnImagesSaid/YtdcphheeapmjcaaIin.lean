/-
  CONTRACT: imagesIn of the program: what comes in a range over it.
-/
import Derived.Test.YtdcphheeapmjcaaImp
import Derived.Test.YtdcphheeapmjcaaWap
import Derived.Test.YtdcphheeapmjcaaIsv
import Derived.Test.YtdcphheeapmjcaaIrd
namespace Go.Proofs.Ytdcphheeapmjcaa
open Go.ChangeShapes Go.WideShapes Go.ChangeAt Go.RowKit Go.Shelf
open Wd
attribute [local go_sem] Oper.semAt_some
theorem imgL_C (L : List (List UInt8)) (c : UInt8) : imgL L (lnum c).toNat = imgC L c := rfl
theorem lnum_range {c : UInt8} (h : isL c = true) : 0 ≤ lnum c ∧ lnum c < 8 := by
  obtain ⟨j, hj, e | e⟩ := lnum_two h <;> omega
/-- the table, as it is read -/
def TabR (n₀ : Nat) (W : World) (T : Nat) (L : List (List UInt8)) : Prop := T < n₀ ∧ ∀ j, j < 8 → ∃ v, W.cell? ⟨T, j, none⟩ = some v ∧ LRow n₀ W v (imgL L j)
theorem TabR.below {n₀ : Nat} {W W' : World} {T : Nat} {L : List (List UInt8)} (hb : Below n₀ W W') (h : TabR n₀ W T L) : TabR n₀ W' T L := by
  refine ⟨h.1, fun j hj => ?_⟩
  obtain ⟨v, h1, h2⟩ := h.2 j hj
  exact ⟨v, (hb.cell (p := ⟨T, j, none⟩) h.1).trans h1, h2.below hb⟩
theorem TabR.up {n₀ n₁ : Nat} {W : World} {T : Nat} {L : List (List UInt8)} (hn : n₀ ≤ n₁) (h : TabR n₀ W T L) : TabR n₁ W T L := by
  refine ⟨Nat.lt_of_lt_of_le h.1 hn, fun j hj => ?_⟩
  obtain ⟨v, h1, h2⟩ := h.2 j hj
  exact ⟨v, h1, h2.up hn⟩
theorem TabAt.tabR {w : World} {T : Nat} {L : List (List UInt8)} (h : TabAt w T L 8) : TabR w.heap.size w T L := by
  obtain ⟨A, h1, h2, h3⟩ := h
  refine ⟨(Array.getElem?_eq_some_iff.1 h1).1, fun j hj => ?_⟩
  obtain ⟨v, e1, e2⟩ := h3 j hj
  exact ⟨v, (Lib.cell_of_heap h1 j).trans e1, e2.lrow⟩
theorem img1_in (F : Fence) (n : Nat) (h : F.fn 99) (hro : F.round = none) (c : UInt8) (hc : isL c = true) (T : Nat) (v : Value) (w : World) (hcell : w.cell? ⟨T, (lnum c).toNat, none⟩ = some v) :
    CallsIn F n Try.prog 99 #[.int .u8 (lnum c), .pointer (some ⟨T, 0, none⟩)] w fun e w' => e = .returned v ∧ w' = w := by
  obtain ⟨h1, h2⟩ := lnum_range hc
  obtain ⟨x, hx, hx8⟩ : ∃ x : Nat, lnum c = (x : Int) ∧ x < 8 := ⟨(lnum c).toNat, by omega, by omega⟩
  rw [hx] at hcell ⊢
  rw [Int.toNat_natCast] at hcell
  have p1 : (0 : Int) ≤ (x : Int) := by omega
  have p2 : (x : Int) < 8 := by omega
  refine callsIn_of_wp Try.func99 rfl h ?_ hro
  simp only [Try.ntmps99, List.size_toArray, List.length_cons, List.length_nil, Nat.reduceAdd, Nat.reduceSub, Array.replicate_succ, Array.replicate_zero, List.push_toArray, List.append_toArray, List.nil_append, List.cons_append]
  gi_wp2
  go_ret
  exact ⟨rfl, rfl⟩
theorem take_len_lt {L : List (List UInt8)} {l : List UInt8} {k i : Nat} (hk : k < l.length) (hi : i < (imgC L l[k]).length) (pre : List Lt) (hp : vals pre = apL L (l.take k) ++ (imgC L l[k]).take i) : pre.length < (apL L l).length := by
  have e1 : pre.length = (apL L (l.take k)).length + i := by
    rw [← vals_len, hp, List.length_append, List.length_take]
    omega
  have e2 : apL L l = apL L (l.take k) ++ (imgC L l[k] ++ apL L (l.drop (k + 1))) := by
    have e3 : l = l.take k ++ (l[k] :: l.drop (k + 1)) := by rw [← List.drop_eq_getElem_cons hk, List.take_append_drop]
    have e4 : apL L (l.take k ++ (l[k] :: l.drop (k + 1))) = apL L (l.take k) ++ (imgC L l[k] ++ apL L (l.drop (k + 1))) := by
      unfold apL
      rw [List.flatMap_append, List.flatMap_cons]
    exact (congrArg (apL L) e3).trans e4
  rw [e1, e2, List.length_append, List.length_append]
  omega
theorem LRow.at {n₀ : Nat} {W : World} {a : Option Addr} {n cap : Nat} {l : List UInt8} (h : LRow n₀ W (.slice a n cap) l) {i : Nat} (hi : i < l.length) : ∃ b off, a = some ⟨b, off, none⟩ ∧ b < n₀ ∧ W.cell? ⟨b, off + i, none⟩ = some (.int .u8 (lnum l[i])) := by
  rcases h with ⟨e, rfl⟩ | ⟨b, off, cap', e, hb, hc⟩
  · simp at hi
  · injection e with e1 e2 e3
    exact ⟨b, off, e1, hb, hc i hi⟩
set_option maxRecDepth 100000 in
set_option maxHeartbeats 4000000 in
theorem imgs_in (F : Fence) (n : Nat) (h7 : F.fn 101) (h9 : F.fn 99) (hro : F.round = none) (hn : 1 ≤ n) (ll Bs Bf n₀ T b off cap : Nat) (L : List (List UInt8)) (hI : imgB L = true) (l : List UInt8) (hw : wordB l = true) (hb : b < n₀) (hf : Bf < n₀) (J Jx : List Lt → World → Prop)
    (hY : ∀ pre x W, J pre W → pre.length < (apL L l).length → YieldAt F (n - 1) Try.prog ll #[.int .u8 (lnum x.1)] W fun e W' =>
      (e = .returned (.bool true) ∧ J (pre ++ [x]) W' ∧ Below n₀ W W') ∨ (e = .returned (.bool false) ∧ Jx (pre ++ [x]) W'))
    (W : World) (hBs : W.cell? ⟨Bs, 0, none⟩ = some (.slice (some ⟨b, off, none⟩) l.length cap)) (hBf : W.cell? ⟨Bf, 0, none⟩ = some (.func (.func 99) #[] #[.pointer (some ⟨T, 0, none⟩)])) (hT : TabR n₀ W T L) (hc : ∀ j (hj : j < l.length), W.cell? ⟨b, off + j, none⟩ = some (.int .u8 (lnum l[j]))) (h0 : J [] W) :
    CallsIn F n Try.prog 101 #[.func (.yield ll) #[] #[], .pointer (some ⟨Bs, 0, none⟩), .pointer (some ⟨Bf, 0, none⟩)] W fun e W' => (∃ v, e = .returned v) ∧
      ((∃ ys, vals ys = apL L l ∧ J ys W') ∨ (∃ pre, Jx pre W')) := by
  have hlen : (l.length : Int) ≤ 40 := by have := wordB_len hw; omega
  have WL := Lib.hid (wordB_lets hw)
  have IB := Lib.hid hI
  have HT := Lib.hid hT
  have HC := Lib.hid hc
  clear hI hw hT hc
  refine callsIn_of_wp Try.func101 rfl h7 ?_ hro
  simp only [Try.ntmps101, List.size_toArray, List.length_cons, List.length_nil, Nat.reduceAdd, Nat.reduceSub, Array.replicate_succ, Array.replicate_zero, List.push_toArray, List.append_toArray, List.nil_append, List.cons_append]
  gi_wp2
  gi_loopw [10] (fun i wr => ∃ k : Nat, k ≤ l.length ∧ i = .int .i64 k ∧ (∃ pre, vals pre = apL L (l.take k) ∧ J pre wr) ∧ Below n₀ W wr)
    (fun i _ => l.length - (intOf i).toNat)
  case atStart => exact ⟨0, Nat.zero_le _, rfl, ⟨[], rfl, h0⟩, Below.refl _ _⟩
  case round =>
    obtain ⟨k, hk, rfl, ⟨pre, hp, hJ⟩, hB⟩ := hrel
    have HB := Lib.hid hB
    clear hB
    by_cases hlt : k < l.length
    · have hcx : wr.cell? ⟨b, off + k, none⟩ = some (.int .u8 (lnum l[k])) := (HB.out.cell (p := ⟨b, off + k, none⟩) hb).trans (HC.out k hlt)
      have hcf : wr.cell? ⟨Bf, 0, none⟩ = some (.func (.func 99) #[] #[.pointer (some ⟨T, 0, none⟩)]) := (HB.out.cell (p := ⟨Bf, 0, none⟩) hf).trans hBf
      have hcL : isL l[k] = true := WL.out _ (List.getElem_mem hlt)
      obtain ⟨r1, r2⟩ := lnum_range hcL
      obtain ⟨v, hv0, hR⟩ := HT.out.2 (lnum l[k]).toNat (by omega)
      have hv : wr.cell? ⟨T, (lnum l[k]).toNat, none⟩ = some v := (HB.out.cell (p := ⟨T, (lnum l[k]).toNat, none⟩) HT.out.1).trans hv0
      clear hv0
      rw [imgL_C] at hR
      have IM := Lib.hid (img1_in F (n - 1) h9 hro l[k] hcL T v wr hv)
      have LC := Lib.hid (imgC_len IB.out hcL)
      have LL := Lib.hid (imgC_lets IB.out hcL)
      have TK := Lib.hid (fun (i : Nat) (hi : i < (imgC L l[k]).length) (pre : List Lt) (hp : vals pre = apL L (l.take k) ++ (imgC L l[k]).take i) => take_len_lt hlt hi pre hp)
      have EN : Hid (apL L (l.take k) ++ imgC L l[k] = apL L (l.take (k + 1))) := Lib.hid (by rw [← apL_snoc, take_snoc l k hlt])
      have HK := Lib.hid hlt
      obtain ⟨a1, cap1, rfl⟩ := hR.len
      have HR := Lib.hid hR
      have HP := Lib.hid hp
      have HJ := Lib.hid hJ
      have P1 : Hid (∀ m pre (x : Lt) (hm : m < (imgC L l[k]).length), vals pre = apL L (l.take k) ++ (imgC L l[k]).take m → x.1 = (imgC L l[k])[m] → vals (pre ++ [x]) = apL L (l.take k) ++ (imgC L l[k]).take (m + 1)) := Lib.hid fun m pre x hm h1 h2 => by
        rw [vals_snoc, h1, h2, List.append_assoc, take_snoc _ _ hm]
      clear hR hp hJ hv
      generalize hN : (apL L l).length = N at *
      generalize hq1' : apL L (l.take (k + 1)) = q1 at *
      have hq1 := Lib.hid hq1'
      clear hq1'
      generalize hq0 : apL L (l.take k) = q0 at *
      generalize imgC L l[k] = ic at *
      generalize l[k] = c at *
      have hic : (ic.length : Int) ≤ 40 := by have := LC.out; omega
      clear hcL r1 r2 hN hq0
      gi_wp2_with (gi_at_call 99; refine IM.out.mono ?_; rintro e w' ⟨rfl, rfl⟩)
      gi_loopw [18] (fun i w2 => ∃ m : Nat, m ≤ ic.length ∧ i = .int .i64 m ∧ (∃ pre, vals pre = q0 ++ ic.take m ∧ J pre w2) ∧ Below n₀ W w2)
        (fun i _ => ic.length - (intOf i).toNat)
      case atStart => exact ⟨0, Nat.zero_le _, rfl, ⟨pre, by rw [HP.out]; simp, HJ.out⟩, HB.out⟩
      case round =>
        obtain ⟨m, hm, rfl, ⟨pr2, hp2, hJ2⟩, hB2⟩ := hrel
        have HB2 := Lib.hid hB2
        clear hB2 IM
        by_cases hl2 : m < ic.length
        · obtain ⟨b2, off2, rfl, hb2, hc2⟩ := (HR.out.below HB2.out).at hl2
          have hL2 : isL ic[m] = true := LL.out _ (List.getElem_mem hl2)
          obtain ⟨fn, tmps, assign, body, hy, hYR⟩ := hY pr2 ⟨ic[m], hL2⟩ wr hJ2 (TK.out m hl2 pr2 hp2)
          have NP := Lib.hid (P1.out m pr2 ⟨ic[m], hL2⟩ hl2 hp2 rfl)
          have HM := Lib.hid hl2
          clear hp2 hJ2
          gi_wp2
          refine hYR.mono ?_
          rintro e W3 (⟨rfl, hJ3, hk3⟩ | ⟨rfl, hJx3⟩)
          · have NJ : Hid (∃ pre, vals pre = q0 ++ ic.take (m + 1) ∧ J pre W3) := Lib.hid ⟨_, NP.out, hJ3⟩
            have HB3 := Lib.hid (HB2.out.trans hk3)
            clear hJ3 hk3
            gi_wp2
            go_roundw
            case rel => exact ⟨m + 1, HM.out, by go_num, NJ.out, HB3.out⟩
            case measure => have := HM.out; simp [intOf]; omega
          · have NJ : Hid (∃ pre, Jx pre W3) := Lib.hid ⟨_, hJx3⟩
            clear hJx3
            gi_wp2
            refine bodyPost_ret (results_none rfl _ _ _) rfl ?_
            exact ⟨⟨_, rfl⟩, .inr NJ.out⟩
        · obtain rfl : m = ic.length := by omega
          rw [List.take_length, EN.out] at hp2
          have NJ : Hid (∃ pre, vals pre = q1 ∧ J pre wr) := Lib.hid ⟨_, hp2, hJ2⟩
          clear hp2 hJ2 hl2
          gi_wp2
          go_roundw
          case rel => exact ⟨k + 1, HK.out, by go_num, by rw [hq1.out]; exact NJ.out, HB2.out⟩
          case measure => have := HK.out; simp [intOf]; omega
    · obtain rfl : k = l.length := by omega
      rw [List.take_length] at hp
      have HP := Lib.hid hp
      have HJ := Lib.hid hJ
      clear hp hJ
      gi_wp2
      go_end0
      exact ⟨⟨_, rfl⟩, .inl ⟨_, HP.out, HJ.out⟩⟩
end Go.Proofs.Ytdcphheeapmjcaa
