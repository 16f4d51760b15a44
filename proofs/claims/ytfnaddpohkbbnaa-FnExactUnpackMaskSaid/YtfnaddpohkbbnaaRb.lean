/-
  CONTRACT: slices.Repeat at one truth value.
-/
import Derived.Test.YtfnaddpohkbbnaaOr
import Derived.Test.YtfnaddpohkbbnaaShM
import Derived.Laws.CopyOwn
namespace Go.Proofs.Ytfnaddpohkbbnaa
open Go.ChangeShapes Go.WideShapes Go.ChangeAt Go.RowKit
/-- k values b, and false behind them, t in all -/
def rpt (b : Bool) (k t : Nat) : List Value := List.replicate k (.bool b) ++ List.replicate (t - k) (.bool false)
theorem rpt_len (b : Bool) {k t : Nat} (h : k ≤ t) : (rpt b k t).length = t := by simp [rpt]; omega
theorem rpt_zero (b : Bool) (t : Nat) : rpt b 0 t = List.replicate t (.bool false) := by simp [rpt]
theorem rpt_all (b : Bool) (t : Nat) : rpt b t t = List.replicate t (.bool b) := by simp [rpt]
theorem rpt_splice (b : Bool) {k c t : Nat} (h : k + c ≤ t) : splice (rpt b k t) k (List.replicate c (.bool b)) = rpt b (k + c) t := by
  unfold splice rpt
  rw [List.take_left' (by simp), List.length_replicate, ← List.drop_drop, List.drop_left' (by simp), List.drop_replicate, ← List.append_assoc, List.replicate_append_replicate, Nat.sub_sub]
theorem rpt_one (b : Bool) (k t : Nat) : ∀ v ∈ rpt b k t, v.oneCell' = true := by
  intro v hv
  rcases List.mem_append.1 hv with h | h <;> rw [(List.mem_replicate.1 h).2] <;> rfl
theorem rep_oneB (b : Bool) (c : Nat) : ∀ v ∈ List.replicate c (Value.bool b), v.oneCell' = true := by
  intro v hv; rw [(List.mem_replicate.1 hv).2]; rfl
theorem addr_offB (g off j : Nat) : (⟨g, off, none⟩ : Addr).add j = ⟨g, off + j, none⟩ := by cases j <;> simp [Addr.add]
theorem madeB (n : Nat) : madeCells #[.bool false] n = (rpt true 0 n).toArray := by
  rw [rpt_zero]
  apply Array.ext_getElem?
  intro i
  by_cases hi : i < n
  · simp [madeCells, hi, Nat.mod_one]
  · rw [Array.getElem?_eq_none (by simp [madeCells]; omega), Array.getElem?_eq_none (by simp; omega)]
theorem rpt_zero_any (b c : Bool) (t : Nat) : rpt b 0 t = rpt c 0 t := by rw [rpt_zero, rpt_zero]
theorem make_falses (b : Bool) (n : Nat) (h : n ≤ 1048576) (w : World) : (Instr.makeSlice BS (.int .i64 (n : Int)) (.int .i64 (n : Int))).run Try.prog w = .ok (.slice (some ⟨w.heap.size, 0, none⟩) n n) (w.alloc (.cells (rpt b 0 n).toArray 4)) := by
  rw [rpt_zero_any b true, ← madeB]
  exact run_make_row' BS 4 (.bool false) 1 Try.underlying68 info_bool rfl .i64 .i64 n (by omega) (by omega) w
theorem slice_fromB (g k p : Nat) (hp : p < k) (hk : k ≤ 4000000) (w : World) : (Instr.slice BS (.slice (some ⟨g, 0, none⟩) k k) (some (.int .i64 (p : Int))) none none).run Try.prog w = .ok (.slice (some ⟨g, p, none⟩) (k - p) (k - p)) w := by
  have hs : ∀ w, (sizeOf (Try.prog.elem BS)).run Try.prog w = .ok 1 w := fun w => by kernel_rfl
  rw [run_slice_l (P := Try.prog) (w := w) BS (some ⟨g, 0, none⟩) k k (by kernel_rfl) .i64 (p : Int) (by omega) (by omega), hs]
  simp only [Result.andThen_ok, sliced, Int.toNat_natCast]
  simp [show ¬ k = p by omega, addr_offB]
theorem slice_toB (g k cap p : Nat) (hp : p ≤ k) (hk : k ≤ 4000000) (hc : k ≤ cap) (w : World) : (Instr.slice BS (.slice (some ⟨g, 0, none⟩) k cap) none (some (.int .i64 (p : Int))) none).run Try.prog w = .ok (.slice (some ⟨g, 0, none⟩) p cap) w := by
  have hs : ∀ w, (sizeOf (Try.prog.elem BS)).run Try.prog w = .ok 1 w := fun w => by kernel_rfl
  rw [run_slice_h (P := Try.prog) (w := w) BS (some ⟨g, 0, none⟩) k cap (by kernel_rfl) .i64 (p : Int) (by omega) (by omega), hs]
  simp [Result.andThen_ok, sliced, addr_offB]
theorem mulB_any (b : Nat) (hb : b ≤ 4000000) (w : World) :
    Calls Try.prog 100 #[.int .u64 1, .int .u64 (b : Int)] w fun e w' => e = .returned (.tuple #[.int .u64 0, .int .u64 (b : Int)]) ∧ w = w' := by
  refine (Try.bits_Mul 1 b (by omega) (by omega) w).mono ?_
  rintro e w' ⟨rfl, rfl⟩
  rw [Nat.one_mul, Nat.div_eq_of_lt (by omega), Nat.mod_eq_of_lt (by omega)]
  exact ⟨rfl, rfl⟩
def RbPost (b : Bool) (n : Nat) (w : World) (e : Ending) (w' : World) : Prop := ∃ g, e = .returned (.slice (some ⟨g, 0, none⟩) n n) ∧ w.heap.size ≤ g ∧ w'.heap[g]? = some (.cells (List.replicate n (.bool b)).toArray 4 (0, 0)) ∧ Below w.heap.size w w'
set_option maxRecDepth 100000 in
set_option maxHeartbeats 4000000 in
theorem brepeat_any (b : Bool) (g cap n : Nat) (hn : n ≤ 1600) (w : World) (hg : g < w.heap.size) (hc : w.cell? ⟨g, 0, none⟩ = some (.bool b)) :
    Calls Try.prog 62 #[.slice (some ⟨g, 0, none⟩) 1 cap, .int .i64 (n : Int)] w (RbPost b n w) := by
  unfold RbPost
  have hmu := Lib.hid (mulB_any n (by omega))
  have hn' : (n : Int) ≤ 1600 := by omega
  have hmk := make_falses b n (by omega)
  have A0 : Below w.heap.size w (w.alloc (.cells (rpt b 0 n).toArray 4)) := (Below.refl _ w).alloc (Nat.le_refl _) _
  have H0 : (w.alloc (.cells (rpt b 0 n).toArray 4)).heap[w.heap.size]? = some (.cells (rpt b 0 n).toArray 4 (0, 0)) := World.alloc_heap_new w _
  have SRC : Hid (∀ j v, (List.replicate 1 (Value.bool b))[j]? = some v → (w.alloc (.cells (rpt b 0 n).toArray 4)).cell? ((⟨g, 0, none⟩ : Addr).add j) = some v) := Lib.hid (by
    intro j v hj
    match j, hj with
    | 0, hj =>
      rw [addr_offB]
      exact ((A0.cell (p := ⟨g, 0, none⟩) hg).trans hc).trans hj)
  have ONE := Lib.hid (fun c => rep_oneB b c)
  have SP0 : Hid (∀ c, c ≤ n → splice (rpt b 0 n) 0 (List.replicate c (.bool b)) = rpt b c n) := Lib.hid (fun c h => by have := rpt_splice b (k := 0) (c := c) (t := n) (by omega); rwa [Nat.zero_add] at this)
  have RL := Lib.hid (fun k (h : k ≤ n) => rpt_len b h)
  have RA := Lib.hid (rpt_all b n)
  have A := Lib.hid A0
  have H := Lib.hid H0
  clear A0 H0 hg hc
  by_cases h0 : n = 0
  · subst h0
    have hmk0 : ∀ w : World, (Instr.makeSlice BS (.int .i64 0) (.int .i64 0)).run Try.prog w = .ok (.slice (some ⟨w.heap.size, 0, none⟩) 0 0) (w.alloc (.cells (rpt b 0 0).toArray 4)) := hmk
    have hmu0 : Hid (∀ w, Calls Try.prog 100 #[.int .u64 1, .int .u64 0] w fun e w' => e = .returned (.tuple #[.int .u64 0, .int .u64 0]) ∧ w = w') := hmu
    clear hmk hmu
    go_enter Try.func62, Try.ntmps62
    go_wp2_with (first | (go_at_call 100; refine (hmu0.out _).mono ?_; rintro e w' ⟨rfl, rfl⟩) | (refine wpList_copy_splice rfl (.tmp 31) (.tmp 32) BS BS rfl 4 Try.underlying68 (by kernel_rfl) (some ⟨w.heap.size, 0, none⟩) (some ⟨g, 0, none⟩) 0 0 1 cap rfl rfl w.heap.size 0 (rpt b 0 0) 4 H.out [] (show 0 = min 1 0 by simp) (fun h => absurd h (by simp)) (by simp) (by simp) w.heap.size w A.out (Nat.le_refl _) ?_; intro w2 hg2 hb2; have hg2' := Lib.hid hg2.out; clear hg2))
    go_loopw [8] (fun i wr => i = .int .i64 0 ∧ wr = w2) (fun _ _ => 0)
    case atStart => exact ⟨rfl, rfl⟩
    case round =>
      obtain ⟨rfl, rfl⟩ := hrel
      go_wp2
      go_ret
      exact ⟨_, rfl, Nat.le_refl _, by simpa [splice, rpt] using hg2'.out, hb2⟩
  · have h1 : 1 ≤ n := by omega
    have LM : Hid (1 = min 1 n) := Lib.hid (by omega)
    have t1 : decide ((9223372036854775807 : Int) < (n : Int)) = false := by simp; omega
    clear h0
    go_enter Try.func62, Try.ntmps62
    go_wp2_with (first | (go_at_call 100; refine (hmu.out _).mono ?_; rintro e w' ⟨rfl, rfl⟩) | (refine wpList_copy_splice rfl (.tmp 31) (.tmp 32) BS BS rfl 4 Try.underlying68 (by kernel_rfl) (some ⟨w.heap.size, 0, none⟩) (some ⟨g, 0, none⟩) n n 1 cap rfl rfl w.heap.size 0 (rpt b 0 n) 4 H.out (List.replicate 1 (.bool b)) (by rw [List.length_replicate]; exact LM.out) (fun _ => ⟨rfl, _, rfl, SRC.out⟩) (by rw [RL.out 0 (Nat.zero_le _), List.length_replicate]; omega) (ONE.out 1) w.heap.size w A.out (Nat.le_refl _) ?_; intro w2 hg2 hb2; have hg2' := Lib.hid hg2.out; clear hg2))
    have G0 : Hid (w2.heap[w.heap.size]? = some (.cells (rpt b 1 n).toArray 4 (0, 0))) := Lib.hid (by rw [← SP0.out 1 h1]; exact hg2'.out)
    clear hg2'
    go_loopw [8] (fun i wr => ∃ k : Nat, i = .int .i64 (k : Int) ∧ 0 < k ∧ k ≤ n ∧ wr.heap[w.heap.size]? = some (.cells (rpt b k n).toArray 4 (0, 0)) ∧ Below w.heap.size w wr) (fun i _ => n - (intOf i).toNat)
    case atStart => exact ⟨1, rfl, by omega, h1, G0.out, hb2⟩
    case round =>
      obtain ⟨k, rfl, hk0, hkt, hgr, hbr⟩ := hrel
      by_cases hlt : k < n
      · have t2 : decide (k < n) = true := by simpa using hlt
        obtain ⟨c, hc⟩ : ∃ c, min k (n - k) = c := ⟨_, rfl⟩
        have hck : c ≤ k := by omega
        have hct : k + c ≤ n := by omega
        have hc0 : 0 < c := by omega
        have hk' : (k : Int) ≤ 1600 := by omega
        have hc' : (c : Int) ≤ 1600 := by omega
        have SP : Hid (splice (rpt b k n) k (List.replicate c (.bool b)) = rpt b (k + c) n) := Lib.hid (rpt_splice b hct)
        have SRC2 : Hid (∀ j v, (List.replicate c (Value.bool b))[j]? = some v → wr.drew.cell? ((⟨w.heap.size, 0, none⟩ : Addr).add j) = some v) := Lib.hid (by
          intro j v hj
          have hjc : j < c := by
            rcases Nat.lt_or_ge j c with h | h
            · exact h
            · rw [List.getElem?_eq_none (by simpa using h)] at hj; cases hj
          rw [addr_offB, Nat.zero_add]
          have e : wr.cell? ⟨w.heap.size, j, none⟩ = (rpt b k n).toArray[j]? := Lib.cell_of_heap hgr j
          show wr.cell? ⟨w.heap.size, j, none⟩ = _
          rw [e, List.getElem?_toArray, ← hj]
          unfold rpt
          rw [List.getElem?_append_left (by simp; omega), List.getElem?_replicate, List.getElem?_replicate, if_pos (by omega), if_pos hjc])
        have HC : Hid (c = min k (n - k)) := Lib.hid hc.symm
        have GR : Hid (wr.drew.heap[w.heap.size]? = some (.cells (rpt b k n).toArray 4 (0, 0))) := Lib.hid hgr
        have BR : Hid (Below w.heap.size w wr.drew) := Lib.hid (hbr.trans ⟨rfl, rfl, rfl, Nat.le_refl _, fun _ _ => rfl⟩)
        have HK := Lib.hid hlt
        have HCT := Lib.hid hct
        have LN : Hid ((List.replicate c (Value.bool b)).length = c) := Lib.hid (by simp)
        have LT2 : Hid ((rpt b k n).length = n) := Lib.hid (RL.out k hkt)
        have hs1 := slice_fromB w.heap.size n k hlt (by omega)
        have hs2 := slice_toB w.heap.size n n k (by omega) (by omega) (by omega)
        clear hgr hbr hc hck hct hlt hkt
        go_wp2
        go_region_law (refine step_copy_splice rfl (.tmp 41) (.tmp 44) BS BS rfl 4 Try.underlying68 (by kernel_rfl) (some ⟨w.heap.size, k, none⟩) (some ⟨w.heap.size, 0, none⟩) (n - k) (n - k) k n (by simp [go_sem]) (by simp [go_sem]) w.heap.size k (rpt b k n) 4 GR.out (List.replicate c (.bool b)) (by rw [LN.out]; exact HC.out) (fun _ => ⟨rfl, _, rfl, SRC2.out⟩) (by rw [LN.out, LT2.out]; exact HCT.out) (ONE.out _) w.heap.size w BR.out (Nat.le_refl _) ?_; intro w3 hg3 hb3; rw [LN.out])
        all_goals
          have hg4 := Lib.hid hg3.out
          have hb4 := Lib.hid hb3
          clear hg3 hb3
          simp only [List.getElem_toArray, List.getElem_cons_zero, List.getElem_cons_succ, Act.put]
          simp [go_sem]
          rw [show IntKind.i64.wrap ((k : Int) + (c : Int)) = (k : Int) + (c : Int) by rw [IntKind.wrap_i64]; omega]
          go_wp2
          go_roundw
          case rel => exact ⟨k + c, by go_num, by omega, HCT.out, by rw [← SP.out]; exact hg4.out, hb4.out⟩
          case measure => have := HK.out; simp [intOf]; omega
      · obtain rfl : k = n := by omega
        have GR : Hid (wr.heap[w.heap.size]? = some (.cells (List.replicate k (.bool b)).toArray 4 (0, 0))) := Lib.hid (by rw [← RA.out]; exact hgr)
        have BR := Lib.hid hbr
        clear hgr hbr
        go_wp2
        go_ret
        exact ⟨_, rfl, Nat.le_refl _, GR.out, BR.out⟩
end Go.Proofs.Ytfnaddpohkbbnaa
