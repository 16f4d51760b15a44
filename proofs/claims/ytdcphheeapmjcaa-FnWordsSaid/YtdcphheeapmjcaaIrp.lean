/-
  CONTRACTS: slices.Repeat at a row of letters.
-/
import Derived.Test.YtdcphheeapmjcaaIjr
import Derived.Test.YtdcphheeapmjcaaShM
import Derived.Laws.CopyOwn
namespace Go.Proofs.Ytdcphheeapmjcaa
open Go.ChangeShapes Go.WideShapes Go.ChangeAt Go.RowKit
open Wd
/-- T begins with k letters, those of l over and over -/
def Over (l : List UInt8) (k : Nat) (T : List UInt8) : Prop := ∀ j, j < k → T[j]? = l[j % l.length]?
theorem rep_at (l : List UInt8) (n j : Nat) (h : j < n * l.length) : (rep l n)[j]? = l[j % l.length]? := by
  have hl : 0 < l.length := by
    rcases Nat.eq_zero_or_pos l.length with h0 | h0
    · rw [h0] at h; omega
    · exact h0
  induction n with
  | zero => omega
  | succ n ih =>
    show (rep l n ++ l)[j]? = _
    by_cases hj : j < n * l.length
    · rw [List.getElem?_append_left (by rw [rep_length]; exact hj)]; exact ih hj
    · rw [List.getElem?_append_right (by rw [rep_length]; omega), rep_length]
      rw [Nat.succ_mul] at h
      congr 1
      have e : j = (j - n * l.length) + n * l.length := by omega
      rw [show j % l.length = (j - n * l.length) % l.length by conv => lhs; rw [e, Nat.add_mul_mod_self_right]]
      rw [Nat.mod_eq_of_lt (by omega)]
theorem over_all {l T : List UInt8} {n : Nat} (h : Over l (n * l.length) T) (hT : T.length = n * l.length) : T = rep l n := by
  apply List.ext_getElem?
  intro j
  by_cases hj : j < n * l.length
  · rw [h j hj, rep_at l n j hj]
  · rw [List.getElem?_eq_none (by omega), List.getElem?_eq_none (by rw [rep_length]; omega)]
/-- the first letters laid behind them once more -/
def dbl (T : List UInt8) (k c : Nat) : List UInt8 := T.take k ++ (T.take c ++ T.drop (k + c))
theorem dbl_length {T : List UInt8} {k c : Nat} (hc : c ≤ k) (h : k + c ≤ T.length) : (dbl T k c).length = T.length := by simp [dbl]; omega
theorem over_dbl {l T : List UInt8} {k c : Nat} (h : Over l k T) (hk : k % l.length = 0) (hc : c ≤ k) (hT : k + c ≤ T.length) : Over l (k + c) (dbl T k c) := by
  intro j hj
  unfold dbl
  by_cases h1 : j < k
  · rw [List.getElem?_append_left (by simp; omega), List.getElem?_take_of_lt h1]; exact h j h1
  · rw [List.getElem?_append_right (by simp; omega), List.length_take, Nat.min_eq_left (by omega), List.getElem?_append_left (by simp; omega), List.getElem?_take_of_lt (by omega), h (j - k) (by omega)]
    congr 1
    have e : j = (j - k) + k := by omega
    conv => rhs; rw [e, Nat.add_mod, hk, Nat.add_zero, Nat.mod_mod]
theorem splice_numC (T : List UInt8) (k c : Nat) (hc : c ≤ k) (h : k + c ≤ T.length) : splice (numC T) k (numC (T.take c)) = numC (dbl T k c) := by
  unfold splice dbl
  rw [numC_len, List.length_take, Nat.min_eq_left (by omega)]
  simp [numC, List.map_take, List.map_drop]
theorem splice_first (T l : List UInt8) (h : l.length ≤ T.length) : splice (numC T) 0 (numC l) = numC (l ++ T.drop l.length) := by
  unfold splice
  rw [numC_len, List.take_zero, List.nil_append, Nat.zero_add]
  simp [numC, List.map_drop]
theorem madeL (n : Nat) : madeCells #[.int .u8 0] n = (numC (List.replicate n 97)).toArray := by
  apply Array.ext_getElem?
  intro i
  by_cases hi : i < n
  · simp [madeCells, hi, Nat.mod_one, numC, show lnum 97 = 0 from rfl]
  · rw [Array.getElem?_eq_none (by simp [madeCells]; omega), Array.getElem?_eq_none (by simp [numC]; omega)]
theorem make_zeros (n : Nat) (h : n ≤ 1048576) (w : World) : (Instr.makeSlice 71 (.int .i64 (n : Int)) (.int .i64 (n : Int))).run Try.prog w = .ok (.slice (some ⟨w.heap.size, 0, none⟩) n n) (w.alloc (.cells (numC (List.replicate n 97)).toArray 84)) := by
  rw [← madeL]
  exact run_make_row' 71 84 (.int .u8 0) 1 Try.underlying71 info_let rfl .i64 .i64 n (by omega) (by omega) w
theorem slice_fromL (g k p : Nat) (hp : p < k) (hk : k ≤ 4000000) (w : World) : (Instr.slice 71 (.slice (some ⟨g, 0, none⟩) k k) (some (.int .i64 (p : Int))) none none).run Try.prog w = .ok (.slice (some ⟨g, p, none⟩) (k - p) (k - p)) w := by
  have hs : ∀ w, (sizeOf (Try.prog.elem 71)).run Try.prog w = .ok 1 w := fun w => by kernel_rfl
  rw [run_slice_l (P := Try.prog) (w := w) 71 (some ⟨g, 0, none⟩) k k (by kernel_rfl) .i64 (p : Int) (by omega) (by omega), hs]
  simp only [Result.andThen_ok, sliced, Int.toNat_natCast]
  simp [show ¬ k = p by omega, addr_off]
theorem own_cells (l : List UInt8) (h : l.length ≤ 1048576) (base g : Nat) (hb : base ≤ g) (w : World) (hg : w.heap[g]? = some (.cells (numC l).toArray 84 (0, 0))) : OwnL base (.slice (some ⟨g, 0, none⟩) l.length l.length) l w :=
  ⟨by rw [numC_len, Nat.mul_one], .inr ⟨g, l.length, (numC l).toArray, rfl, hb, hg, Nat.le_refl _, by unfold maxLen; omega, by simp [numC_len], by rw [Nat.mul_one]; exact List.take_of_length_le (by rw [numC_len]; exact Nat.le_refl _)⟩⟩
theorem mul_any (a b : Nat) (h : a * b ≤ 4000000) (ha : a ≤ 4000000) (hb : b ≤ 4000000) (w : World) :
    Calls Try.prog 107 #[.int .u64 (a : Int), .int .u64 (b : Int)] w fun e w' => e = .returned (.tuple #[.int .u64 0, .int .u64 ((a * b : Nat) : Int)]) ∧ w = w' := by
  refine (Try.bits_Mul a b (by omega) (by omega) w).mono ?_
  rintro e w' ⟨rfl, rfl⟩
  rw [Nat.div_eq_of_lt (by omega), Nat.mod_eq_of_lt (by omega)]
  exact ⟨rfl, rfl⟩
set_option maxRecDepth 100000 in
set_option maxHeartbeats 4000000 in
theorem lrepeat_any (v : Value) (l : List UInt8) (hm : l.length ≤ 40) (x : Int) (n : Nat) (hx : x = (n : Int)) (hn : n ≤ 40) (w : World) (hI : LRow w.heap.size w v l) :
    Calls Try.prog 81 #[v, .int .i64 x] w (LetPost (rep l n) w) := by
  subst hx
  obtain ⟨a0, cap0, rfl⟩ := hI.len
  have hT : l.length * n ≤ 1600 := Nat.mul_le_mul hm hn
  have hmu := Lib.hid (mul_any l.length n (by omega) (by omega) (by omega))
  obtain ⟨t, ht⟩ : ∃ t, l.length * n = t := ⟨_, rfl⟩
  have HT := Lib.hid ht
  rw [ht] at hmu hT
  have hT' : (t : Int) ≤ 1600 := by omega
  have hl' : (l.length : Int) ≤ 40 := by omega
  have hn' : (n : Int) ≤ 40 := by omega
  have hmk := make_zeros t (by omega)
  have HI := Lib.hid hI
  have A0 : Below w.heap.size w (w.alloc (.cells (numC (List.replicate t 97)).toArray 84)) := (Below.refl _ w).alloc (Nat.le_refl _) _
  have H0 : (w.alloc (.cells (numC (List.replicate t 97)).toArray 84)).heap[w.heap.size]? = some (.cells (numC (List.replicate t 97)).toArray 84 (0, 0)) := World.alloc_heap_new w _
  by_cases h0 : t = 0
  · have HR : Hid (rep l n = []) := Lib.hid (List.eq_nil_of_length_eq_zero (by rw [rep_length, Nat.mul_comm, ht, h0]))
    subst h0
    have hmk0 : ∀ w : World, (Instr.makeSlice 71 (.int .i64 0) (.int .i64 0)).run Try.prog w = .ok (.slice (some ⟨w.heap.size, 0, none⟩) 0 0) (w.alloc (.cells (numC []).toArray 84)) := hmk
    clear hmk
    have P : Hid (∀ w', Below w.heap.size w w' → w'.heap[w.heap.size]? = some (.cells (numC []).toArray 84 (0, 0)) → LetPost (rep l n) w (.returned (.slice (some ⟨w.heap.size, 0, none⟩) 0 0)) w') := Lib.hid (by
      intro w' B h
      rw [HR.out]
      exact ⟨_, rfl, own_cells [] (by simp) _ _ (Nat.le_refl _) w' h, B⟩)
    have A : Hid (Below w.heap.size w (w.alloc (.cells (numC []).toArray 84))) := Lib.hid A0
    have H : Hid ((w.alloc (.cells (numC []).toArray 84)).heap[w.heap.size]? = some (.cells (numC []).toArray 84 (0, 0))) := Lib.hid H0
    clear ht hI HI A0 H0
    go_enter Try.func81, Try.ntmps81
    go_wp2_with (first | (go_at_call 107; refine (hmu.out _).mono ?_; rintro e w' ⟨rfl, rfl⟩) | (refine wpList_copy_splice rfl (.tmp 31) (.tmp 32) 71 71 rfl 84 Try.underlying71 (by kernel_rfl) (some ⟨w.heap.size, 0, none⟩) a0 0 0 l.length cap0 rfl rfl w.heap.size 0 (numC []) 84 H.out [] (show 0 = min l.length 0 by simp) (fun h => absurd h (by simp)) (by simp) (by simp) w.heap.size w A.out (Nat.le_refl _) ?_; intro w2 hg2 hb2; have hg2' := Lib.hid hg2.out; clear hg2))
    go_loopw [8] (fun i wr => i = .int .i64 0 ∧ wr = w2) (fun _ _ => 0)
    case atStart => exact ⟨rfl, rfl⟩
    case round =>
      obtain ⟨rfl, rfl⟩ := hrel
      go_wp2
      go_ret
      exact P.out _ hb2 (by simpa [splice, numC] using hg2'.out)
  · have hlt : l.length ≤ t := by
      rcases Nat.eq_zero_or_pos n with h | h
      · rw [h] at ht; omega
      · rw [← ht]; exact Nat.le_mul_of_pos_right _ h
    have hl0 : 0 < l.length := by
      rcases Nat.eq_zero_or_pos l.length with h | h
      · rw [h] at ht; omega
      · exact h
    obtain ⟨b, off, rfl, hbw, hcs⟩ : ∃ b off, a0 = some ⟨b, off, none⟩ ∧ b < w.heap.size ∧ ∀ j (hj : j < l.length), w.cell? ⟨b, off + j, none⟩ = some (.int .u8 (lnum (l[j]'hj))) := by
      rcases hI with ⟨h, h'⟩ | ⟨b, o, c, h, hb, hc⟩
      · subst h'; simp at hl0
      · cases h; exact ⟨b, o, rfl, hb, hc⟩
    have P : Hid (∀ w' T, Below w.heap.size w w' → T.length = t → Over l t T → w'.heap[w.heap.size]? = some (.cells (numC T).toArray 84 (0, 0)) → LetPost (rep l n) w (.returned (.slice (some ⟨w.heap.size, 0, none⟩) t t)) w') := Lib.hid (by
      intro w' T B hT hO h
      have e : T = rep l n := over_all (by rw [Nat.mul_comm, ht]; exact hO) (by rw [Nat.mul_comm, ht]; exact hT)
      rw [← e]
      have := own_cells T (by omega) _ _ (Nat.le_refl _) w' h
      rw [hT] at this
      exact ⟨_, rfl, this, B⟩)
    have TM : Hid (t % l.length = 0) := Lib.hid (by rw [← ht]; exact Nat.mul_mod_right _ _)
    have SRC : Hid (∀ j v, (numC l)[j]? = some v → (w.alloc (.cells (numC (List.replicate t 97)).toArray 84)).cell? ((⟨b, off, none⟩ : Addr).add j) = some v) := Lib.hid (by
      intro j v hj
      obtain ⟨hj', rfl⟩ := numC_get hj
      rw [addr_off]
      exact (A0.cell (p := ⟨b, off + j, none⟩) hbw).trans (hcs j hj'))
    have A := Lib.hid A0
    have H := Lib.hid H0
    have HLT := Lib.hid hlt
    have ONE : Hid (∀ T : List UInt8, ∀ v ∈ numC T, v.oneCell' = true) := Lib.hid (by
      intro T v hv
      obtain ⟨_, _, rfl⟩ := List.mem_map.1 hv
      rfl)
    have t1 : decide ((9223372036854775807 : Int) < (t : Int)) = false := by simp; omega
    clear ht hI HI A0 H0 hlt
    go_enter Try.func81, Try.ntmps81
    go_wp2_with (first | (go_at_call 107; refine (hmu.out _).mono ?_; rintro e w' ⟨rfl, rfl⟩) | (refine wpList_copy_splice rfl (.tmp 31) (.tmp 32) 71 71 rfl 84 Try.underlying71 (by kernel_rfl) (some ⟨w.heap.size, 0, none⟩) (some ⟨b, off, none⟩) t t l.length cap0 rfl rfl w.heap.size 0 (numC (List.replicate t 97)) 84 H.out (numC l) (show (numC l).length = min l.length t by rw [numC_len, Nat.min_eq_left HLT.out]) (fun _ => ⟨rfl, _, rfl, SRC.out⟩) (by rw [numC_len, numC_len, List.length_replicate]; have := HLT.out; omega) (ONE.out l) w.heap.size w A.out (Nat.le_refl _) ?_; intro w2 hg2 hb2; have hg2' := Lib.hid hg2.out; clear hg2))
    have G0 : Hid (w2.heap[w.heap.size]? = some (.cells (numC (l ++ (List.replicate t 97).drop l.length)).toArray 84 (0, 0))) := Lib.hid (by rw [← splice_first _ _ (by rw [List.length_replicate]; exact HLT.out)]; exact hg2'.out)
    have GL : goInt ((numC l).length : Int) = .int .i64 (l.length : Int) := by rw [numC_len]; rfl
    clear hg2'
    go_loopw [8] (fun i wr => ∃ (k : Nat) (T : List UInt8), i = .int .i64 (k : Int) ∧ 0 < k ∧ k ≤ t ∧ T.length = t ∧ k % l.length = 0 ∧ Over l k T ∧ wr.heap[w.heap.size]? = some (.cells (numC T).toArray 84 (0, 0)) ∧ Below w.heap.size w wr) (fun i _ => t - (intOf i).toNat)
    case atStart =>
      refine ⟨l.length, _, GL, hl0, HLT.out, by have := HLT.out; simp; omega, Nat.mod_self _, ?_, G0.out, hb2⟩
      intro j hj
      rw [List.getElem?_append_left hj, Nat.mod_eq_of_lt hj]
    case round =>
      obtain ⟨k, T, rfl, hk0, hkt, hTl, hkm, hov, hgr, hbr⟩ := hrel
      by_cases hlt : k < t
      · have t2 : decide (k < t) = true := by simpa using hlt
        obtain ⟨c, hc⟩ : ∃ c, min k (t - k) = c := ⟨_, rfl⟩
        have hck : c ≤ k := by omega
        have hct : k + c ≤ t := by omega
        have hc0 : 0 < c := by omega
        have hk' : (k : Int) ≤ 1600 := by omega
        have hc' : (c : Int) ≤ 1600 := by omega
        have K2 : Hid ((k + c) % l.length = 0) := Lib.hid (by
          have h2 : c = k ∨ k + c = t := by omega
          rcases h2 with h2 | h2
          · rw [h2, Nat.add_mod, hkm]; simp
          · rw [h2]; exact TM.out)
        have OV : Hid (Over l (k + c) (dbl T k c)) := Lib.hid (over_dbl hov hkm hck (by omega))
        have DL : Hid ((dbl T k c).length = t) := Lib.hid (by rw [dbl_length hck (by omega)]; exact hTl)
        have SP : Hid (splice (numC T) k (numC (T.take c)) = numC (dbl T k c)) := Lib.hid (splice_numC T k c hck (by omega))
        have SRC2 : Hid (∀ j v, (numC (T.take c))[j]? = some v → wr.drew.cell? ((⟨w.heap.size, 0, none⟩ : Addr).add j) = some v) := Lib.hid (by
          intro j v hj
          obtain ⟨hj', rfl⟩ := numC_get hj
          rw [addr_off, Nat.zero_add]
          have e : wr.cell? ⟨w.heap.size, j, none⟩ = (numC T).toArray[j]? := Lib.cell_of_heap hgr j
          show wr.cell? ⟨w.heap.size, j, none⟩ = _
          rw [e, List.getElem?_toArray, numC_at T j (by simp at hj'; omega)]
          simp)
        have LN : Hid ((numC (T.take c)).length = c) := Lib.hid (by rw [numC_len, List.length_take]; omega)
        have LT2 : Hid ((numC T).length = t) := Lib.hid (by rw [numC_len]; exact hTl)
        have HC : Hid (c = min k (t - k)) := Lib.hid hc.symm
        have GR : Hid (wr.drew.heap[w.heap.size]? = some (.cells (numC T).toArray 84 (0, 0))) := Lib.hid hgr
        have BR : Hid (Below w.heap.size w wr.drew) := Lib.hid (below_drewN hbr 1)
        have HK := Lib.hid hlt
        have HCT := Lib.hid hct
        have hs1 := slice_fromL w.heap.size t k hlt (by omega)
        have hs2 := slice_toL w.heap.size t t k (by omega) (by omega) (by omega)
        clear hov hgr hbr hTl hkm hc hck hct hlt hkt
        go_wp2
        go_region_law (refine step_copy_splice rfl (.tmp 41) (.tmp 44) 71 71 rfl 84 Try.underlying71 (by kernel_rfl) (some ⟨w.heap.size, k, none⟩) (some ⟨w.heap.size, 0, none⟩) (t - k) (t - k) k t (by simp [go_sem]) (by simp [go_sem]) w.heap.size k (numC T) 84 GR.out (numC (T.take c)) (by rw [LN.out]; exact HC.out) (fun _ => ⟨rfl, _, rfl, SRC2.out⟩) (by rw [LN.out, LT2.out]; exact HCT.out) (ONE.out _) w.heap.size w BR.out (Nat.le_refl _) ?_; intro w3 hg3 hb3; rw [LN.out])
        all_goals
          have hg4 := Lib.hid hg3.out
          have hb4 := Lib.hid hb3
          clear hg3 hb3
          simp only [List.getElem_toArray, List.getElem_cons_zero, List.getElem_cons_succ, Act.put]
          simp [go_sem]
          rw [show IntKind.i64.wrap ((k : Int) + (c : Int)) = (k : Int) + (c : Int) by rw [IntKind.wrap_i64]; omega]
          go_wp2
          go_roundw
          case rel => exact ⟨k + c, dbl T k c, by go_num, by omega, HCT.out, DL.out, K2.out, OV.out, by rw [← SP.out]; exact hg4.out, hb4.out⟩
          case measure => have := HK.out; simp [intOf]; omega
      · obtain rfl : k = t := by omega
        have OV := Lib.hid hov
        have GR := Lib.hid hgr
        have BR := Lib.hid hbr
        have TL := Lib.hid hTl
        clear hov hgr hbr hTl hkm
        go_wp2
        go_ret
        exact P.out _ T BR.out TL.out OV.out GR.out
end Go.Proofs.Ytdcphheeapmjcaa
