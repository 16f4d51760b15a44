/-
  CONTRACTS: SignOfDot of the program.
-/
import Derived.Test.YtgjejolfkfpobaaSgh
import Derived.Laws.Rows
import Derived.Laws.Tables
import Derived.Laws.CopyOwn
namespace Go.Proofs.Ytgjejolfkfpobaa
open Go.ChangeShapes Go.WideShapes Go.ChangeAt Go.RowKit Go.Deep
open Fl
theorem sumC_zero : #[Value.int .u64 0, .int .u64 0, .int .u64 0, .int .u64 0, .int .u64 0, .int .u64 0, .int .u64 0, .int .u64 0, .int .u64 0, .int .u64 0, .int .u64 0, .int .u64 0, .int .u64 0, .int .u64 0, .int .u64 0, .int .u64 0, .int .u64 0, .int .u64 0, .int .u64 0, .int .u64 0, .int .u64 0, .int .u64 0, .int .u64 0, .int .u64 0, .bool false, .bool false, .bool false] = sumC zf (false, false, false) := by
  unfold sumC
  rw [← limbC_zero]
  rfl
theorem sumC_size (f : Nat → Nat) (o : Bool × Bool × Bool) : (sumC f o).size = 27 := by simp [sumC, limbC_size]
theorem sum_info (f : Nat → Nat) (o : Bool × Bool × Bool) : (Try.prog.info? 89).map (·.size) = some (sumC f o).size := by rw [sumC_size]; kernel_rfl
theorem sumC_cells (f : Nat → Nat) (o : Bool × Bool × Bool) : (sumC f o).all (·.oneCell') = true := by
  unfold sumC
  rw [Array.all_append]
  have h : (limbC f).all (·.oneCell') = true := by
    rw [Array.all_eq_true]
    intro i hi
    have h24 : i < 24 := by rw [limbC_size] at hi; exact hi
    have h := limbC_get f i h24
    rw [Array.getElem?_eq_getElem hi] at h
    rw [Option.some.inj h]; rfl
  rw [h]
  obtain ⟨a, b, c⟩ := o
  cases a <;> cases b <;> cases c <;> simp [Value.oneCell']
def DotPost (len : Nat) (bs cs : List Nat) (w : World) (e : Ending) (w' : World) : Prop := ∃ f, e = .returned (.agg (sumC f (false, false, false))) ∧ Sum2 bs cs len f ∧ Below w.heap.size w w'
theorem two_sums (w : World) (o1 o2 : Obj) : ((w.alloc o1).alloc o2).heap[w.heap.size]? = some o1 ∧ ((w.alloc o1).alloc o2).heap[w.heap.size + 1]? = some o2 ∧ ((w.alloc o1).alloc o2).heap.size = w.heap.size + 2 := by
  have h : ((w.alloc o1).alloc o2).heap = (w.heap.push o1).push o2 := rfl
  rw [h]
  refine ⟨?_, ?_, by simp⟩
  · rw [Array.getElem?_push, Array.getElem?_push, if_neg (by simp), if_pos rfl]
  · rw [Array.getElem?_push, if_pos (by simp)]
set_option maxHeartbeats 4000000 in
set_option maxRecDepth 20000 in
theorem dotSum_any (x y len : Nat) (bs cs : List Nat) (w : World) (hl : len ≤ 256) (hb : AllFin bs len) (hc : AllFin cs len) (hx : NumRow w x len bs) (hy : NumRow w y len cs) :
    Calls Try.prog 68 #[.slice (some ⟨x, 0, none⟩) len len, .slice (some ⟨y, 0, none⟩) len len] w (DotPost len bs cs w) := by
  have HB := Lib.hid hb
  have HC := Lib.hid hc
  have HX := Lib.hid hx
  have HY := Lib.hid hy
  have HZ := Lib.hid sumC_zero
  have hl' : (len : Int) ≤ 256 := by omega
  clear hb hc hx hy
  go_enter Try.func68, Try.ntmps68
  go_wp2
  rw [HZ.out]
  obtain ⟨t1, t2, t3⟩ := two_sums w (.cells (sumC zf (false, false, false)) 89) (.cells (sumC zf (false, false, false)) 89)
  have S1 : Hid (ImplAcc (w.heap.size + 1) bs cs 0 ((w.alloc (.cells (sumC zf (false, false, false)) 89)).alloc (.cells (sumC zf (false, false, false)) 89))) := Lib.hid ⟨by rw [t3]; omega, zf, Sum2.zero bs cs, t2⟩
  have R0 : Hid (((w.alloc (.cells (sumC zf (false, false, false)) 89)).alloc (.cells (sumC zf (false, false, false)) 89)).heap[w.heap.size]? = some (.cells (sumC zf (false, false, false)) 89 (0, 0))) := Lib.hid t1
  have B0 : Hid (Below w.heap.size w ((w.alloc (.cells (sumC zf (false, false, false)) 89)).alloc (.cells (sumC zf (false, false, false)) 89))) := Lib.hid (((Below.refl _ _).alloc (Nat.le_refl _) _).alloc (by simp) _)
  have Z0 : Hid (((w.alloc (.cells (sumC zf (false, false, false)) 89)).alloc (.cells (sumC zf (false, false, false)) 89)).heap.size = w.heap.size + 2) := Lib.hid t3
  clear t1 t2 t3
  generalize hw0 : (w.alloc (.cells (sumC zf (false, false, false)) 89)).alloc (.cells (sumC zf (false, false, false)) 89) = w0 at S1 R0 B0 Z0 ⊢
  clear hw0
  go_loopw [10] (fun i wr => ∃ k : Nat, k ≤ len ∧ i = .int .i64 k ∧ ImplAcc (w.heap.size + 1) bs cs k wr ∧ Only (w.heap.size + 1) w0 wr) (fun i _ => len - (intOf i).toNat)
  case atStart => exact ⟨0, Nat.zero_le _, rfl, S1.out, Only.refl _ _⟩
  case round =>
    obtain ⟨k, hk, rfl, hS, hO⟩ := hrel
    have S2 := Lib.hid hS
    have O2 := Lib.hid hO
    have B2 : Hid (Below w.heap.size w wr) := Lib.hid (B0.out.trans (hO.below (by omega) (by rw [Z0.out]; omega)))
    clear hS hO S1
    by_cases hlt : k < len
    · have g1 : wr.cell? ⟨x, k, none⟩ = some (.float .f32 (bs[k]?.getD 0)) := (HX.out.below B2.out HX.out.1).2.2 k hlt
      have g2 : wr.cell? ⟨y, k, none⟩ = some (.float .f32 (cs[k]?.getD 0)) := (HY.out.below B2.out HY.out.1).2.2 k hlt
      have t1 : decide ((k : Int) < (len : Int)) = true := by simp; omega
      have W1 : Hid (W32 (bs[k]?.getD 0)) := Lib.hid (HX.out.2.1 k hlt)
      have W2 : Hid (W32 (cs[k]?.getD 0)) := Lib.hid (HY.out.2.1 k hlt)
      go_wp2_with fail
      refine (addProduct_any (w.heap.size + 1) len k bs cs _ HB.out HC.out hlt W1.out W2.out S2.out).mono ?_
      rintro e w3 ⟨rfl, hS, hO⟩
      have S4 := Lib.hid hS
      have O4 := Lib.hid (O2.out.trans hO)
      clear hS hO
      go_wp2
      go_roundw
      case rel => exact ⟨k + 1, by omega, by go_num, S4.out, O4.out⟩
      case measure => simp [intOf]; omega
    · obtain rfl : k = len := by omega
      have t1 : decide (k < k) = false := by simp
      obtain ⟨hlt, f, hsum, hat⟩ := S2.out
      have R : Hid (Sum2 bs cs k f) := Lib.hid hsum
      have A1 : Hid (wr.heap[w.heap.size + 1]? = some (.cells (sumC f (false, false, false)) 89 (0, 0))) := Lib.hid hat
      have A0 : Hid (wr.heap[w.heap.size]? = some (.cells (sumC zf (false, false, false)) 89 (0, 0))) := Lib.hid (by
        rw [O2.out.block _ (by rw [Z0.out]; omega) (by intro e; have := Option.some.inj e; omega)]; exact R0.out)
      clear hsum hat hlt hk
      go_wp2_with (first | (refine wpList_load_row rfl 89 _ rfl (w.heap.size + 1) rfl 89 _ _ _ A1.out Try.underlying89 rfl (sum_info _ _) ?_) | (refine wpList_store_row rfl 89 _ _ rfl w.heap.size (sumC f (false, false, false)) rfl rfl 89 _ A0.out (sum_info _ _) (by rw [sumC_size, sumC_size]) (sumC_cells _ _) ?_))
      refine bodyPost_ret (v := .agg (sumC f (false, false, false))) ?_ rfl ⟨f, rfl, R.out, ?_⟩
      · exact results_cell_row Try.results68 _ _ w.heap.size _ _ _ _ rfl (setRow_heap _ _ _ _ _ _ A0.out) Try.underlying89 rfl (sum_info _ _)
      · exact below_setRow B2.out (Nat.le_refl _) _
theorem two_codes {len : Nat} (hl : len ≤ 256) (x y : Nat) (w : World) : Calls Try.prog 65 #[.slice (some ⟨x, 0, none⟩) len len, .slice (some ⟨y, 0, none⟩) len len] w fun e w' => e = .returned (.int .i64 0) ∧ w = w' := by
  have h := pairCode_any x y len len w (by omega) (by omega)
  rw [show (if 256 < len ∨ 256 < len then (3 : Int) else if len = len then 0 else 2) = 0 from twoCode_ok hl] at h
  exact h
set_option maxHeartbeats 4000000 in
set_option maxRecDepth 20000 in
theorem implSg_fin (x y len : Nat) (bs cs : List Nat) (w : World) (hl : len ≤ 256) (hx : NumRow w x len bs) (hy : NumRow w y len cs) (hf : BothFin bs cs len) :
    Calls Try.prog 30 #[.slice (some ⟨x, 0, none⟩) len len, .slice (some ⟨y, 0, none⟩) len len] w (SgPost (sgn len bs cs) (sgc len bs cs) w) := by
  have HX := Lib.hid hx
  have HY := Lib.hid hy
  have HF := Lib.hid hf
  have HZ := Lib.hid sumC_zero
  have A1 : Hid (if true = true then AllFin bs len else ¬ AllFin bs len) := Lib.hid hf.1
  have A2 : Hid (if true = true then AllFin cs len else ¬ AllFin cs len) := Lib.hid hf.2
  clear hx hy hf
  go_enter Try.func30, Try.ntmps30
  go_wp2_with fail
  refine (two_codes hl x y _).mono ?_
  rintro e w' ⟨rfl, rfl⟩
  go_wp2_with fail
  refine (areAll_any x len bs true _ (by omega) HX.out A1.out).mono ?_
  rintro e w' ⟨rfl, rfl⟩
  go_wp2_with fail
  refine (areAll_any y len cs true _ (by omega) HY.out A2.out).mono ?_
  rintro e w' ⟨rfl, rfl⟩
  go_wp2_with fail
  refine (dotSum_any x y len bs cs _ hl HF.out.1 HF.out.2 HX.out HY.out).mono ?_
  rintro e w1 ⟨f, rfl, hs, hb⟩
  have S1 := Lib.hid hs
  have B1 := Lib.hid hb
  have A0 : Hid ((w1.alloc (.cells #[Value.int .u64 0, .int .u64 0, .int .u64 0, .int .u64 0, .int .u64 0, .int .u64 0, .int .u64 0, .int .u64 0, .int .u64 0, .int .u64 0, .int .u64 0, .int .u64 0, .int .u64 0, .int .u64 0, .int .u64 0, .int .u64 0, .int .u64 0, .int .u64 0, .int .u64 0, .int .u64 0, .int .u64 0, .int .u64 0, .int .u64 0, .int .u64 0, .bool false, .bool false, .bool false] 89)).heap[w1.heap.size]? = some (.cells #[Value.int .u64 0, .int .u64 0, .int .u64 0, .int .u64 0, .int .u64 0, .int .u64 0, .int .u64 0, .int .u64 0, .int .u64 0, .int .u64 0, .int .u64 0, .int .u64 0, .int .u64 0, .int .u64 0, .int .u64 0, .int .u64 0, .int .u64 0, .int .u64 0, .int .u64 0, .int .u64 0, .int .u64 0, .int .u64 0, .int .u64 0, .int .u64 0, .bool false, .bool false, .bool false] 89 (0, 0))) := Lib.hid (by simp only [World.alloc]; exact Array.getElem?_push_size)
  have R0 : Hid (((w1.alloc (.cells #[Value.int .u64 0, .int .u64 0, .int .u64 0, .int .u64 0, .int .u64 0, .int .u64 0, .int .u64 0, .int .u64 0, .int .u64 0, .int .u64 0, .int .u64 0, .int .u64 0, .int .u64 0, .int .u64 0, .int .u64 0, .int .u64 0, .int .u64 0, .int .u64 0, .int .u64 0, .int .u64 0, .int .u64 0, .int .u64 0, .int .u64 0, .int .u64 0, .bool false, .bool false, .bool false] 89)).setRow w1.heap.size (sumC f (false, false, false))).heap[w1.heap.size]? = some (.cells (sumC f (false, false, false)) 89 (0, 0))) := Lib.hid (setRow_heap _ _ _ _ _ _ A0.out)
  have B2 : Hid (Below w.heap.size w ((w1.alloc (.cells #[Value.int .u64 0, .int .u64 0, .int .u64 0, .int .u64 0, .int .u64 0, .int .u64 0, .int .u64 0, .int .u64 0, .int .u64 0, .int .u64 0, .int .u64 0, .int .u64 0, .int .u64 0, .int .u64 0, .int .u64 0, .int .u64 0, .int .u64 0, .int .u64 0, .int .u64 0, .int .u64 0, .int .u64 0, .int .u64 0, .int .u64 0, .int .u64 0, .bool false, .bool false, .bool false] 89)).setRow w1.heap.size (sumC f (false, false, false)))) := Lib.hid (below_setRow (B1.out.alloc B1.out.size _) B1.out.size _)
  have L2 : Hid (w1.heap.size < ((w1.alloc (.cells #[Value.int .u64 0, .int .u64 0, .int .u64 0, .int .u64 0, .int .u64 0, .int .u64 0, .int .u64 0, .int .u64 0, .int .u64 0, .int .u64 0, .int .u64 0, .int .u64 0, .int .u64 0, .int .u64 0, .int .u64 0, .int .u64 0, .int .u64 0, .int .u64 0, .int .u64 0, .int .u64 0, .int .u64 0, .int .u64 0, .int .u64 0, .int .u64 0, .bool false, .bool false, .bool false] 89)).setRow w1.heap.size (sumC f (false, false, false))).heap.size) := Lib.hid ((Array.getElem?_eq_some_iff.1 R0.out).1)
  clear hs hb
  go_wp2_with (refine wpList_store_row rfl 89 _ _ rfl w1.heap.size (sumC f (false, false, false)) rfl rfl 89 _ A0.out (sum_info _ _) (by rw [sumC_size]; rfl) (sumC_cells _ _) ?_)
  generalize ((w1.alloc (.cells #[Value.int .u64 0, .int .u64 0, .int .u64 0, .int .u64 0, .int .u64 0, .int .u64 0, .int .u64 0, .int .u64 0, .int .u64 0, .int .u64 0, .int .u64 0, .int .u64 0, .int .u64 0, .int .u64 0, .int .u64 0, .int .u64 0, .int .u64 0, .int .u64 0, .int .u64 0, .int .u64 0, .int .u64 0, .int .u64 0, .int .u64 0, .int .u64 0, .bool false, .bool false, .bool false] 89)).setRow w1.heap.size (sumC f (false, false, false))) = w2 at R0 B2 L2 ⊢
  have IA : Hid (ImplAcc w1.heap.size bs cs len w2) := Lib.hid ⟨L2.out, f, S1.out, R0.out⟩
  clear A0 R0 L2 S1
  refine (implSign_any w1.heap.size len bs cs _ HF.out.1 HF.out.2 hl IA.out).mono ?_
  rintro e w3 ⟨rfl, hb3⟩
  have R : Hid (SgPost (sgn len bs cs) (sgc len bs cs) w (.returned (.tuple #[.int .i64 (sg (PS true bs cs len) (PS false bs cs len)), .int .i64 0])) w3) := Lib.hid ⟨by rw [sgn_ok HF.out, sgc_ok HF.out], B2.out.trans (hb3.mono B2.out.size)⟩
  clear hb3
  go_wp2
  go_ret2
  exact R.out
theorem implSg_odd (x y len : Nat) (bs cs : List Nat) (w : World) (hl : len ≤ 256) (hx : NumRow w x len bs) (hy : NumRow w y len cs) (hf : ¬ BothFin bs cs len) :
    Calls Try.prog 30 #[.slice (some ⟨x, 0, none⟩) len len, .slice (some ⟨y, 0, none⟩) len len] w (SgPost (sgn len bs cs) (sgc len bs cs) w) := by
  have HX := Lib.hid hx
  have HY := Lib.hid hy
  rw [sgn_no hf, sgc_no hf]
  by_cases h1 : AllFin bs len
  · have A1 : Hid (if true = true then AllFin bs len else ¬ AllFin bs len) := Lib.hid h1
    have A2 : Hid (if false = true then AllFin cs len else ¬ AllFin cs len) := Lib.hid (show ¬ AllFin cs len from fun h2 => hf ⟨h1, h2⟩)
    clear hx hy hf h1
    go_enter Try.func30, Try.ntmps30
    go_wp2_with fail
    refine (two_codes hl x y _).mono ?_
    rintro e w' ⟨rfl, rfl⟩
    go_wp2_with fail
    refine (areAll_any x len bs true _ (by omega) HX.out A1.out).mono ?_
    rintro e w' ⟨rfl, rfl⟩
    go_wp2_with fail
    refine (areAll_any y len cs false _ (by omega) HY.out A2.out).mono ?_
    rintro e w' ⟨rfl, rfl⟩
    go_wp2
    go_ret2
    exact ⟨rfl, Below.refl _ _⟩
  · have A1 : Hid (if false = true then AllFin bs len else ¬ AllFin bs len) := Lib.hid h1
    clear hx hy hf h1
    go_enter Try.func30, Try.ntmps30
    go_wp2_with fail
    refine (two_codes hl x y _).mono ?_
    rintro e w' ⟨rfl, rfl⟩
    go_wp2_with fail
    refine (areAll_any x len bs false _ (by omega) HX.out A1.out).mono ?_
    rintro e w' ⟨rfl, rfl⟩
    go_wp2
    go_ret2
    exact ⟨rfl, Below.refl _ _⟩
/-- what both answer -/
def ansN (lx ly : Nat) (bs cs : List Nat) : Int := if twoCode lx ly = 0 then sgn lx bs cs else 0
def ansC (lx ly : Nat) (bs cs : List Nat) : Int := if twoCode lx ly = 0 then sgc lx bs cs else twoCode lx ly
theorem twoCode_zero {lx ly : Nat} (h : twoCode lx ly = 0) : lx = ly ∧ lx ≤ 256 := by
  unfold twoCode at h
  split at h
  · omega
  · split at h <;> omega
theorem specSg_any (x y lx ly : Nat) (bs cs : List Nat) (w : World) (h1 : lx ≤ 1048576) (h2 : ly ≤ 1048576) (hx : NumRow w x lx bs) (hy : NumRow w y ly cs) :
    Calls Try.prog 28 #[.slice (some ⟨x, 0, none⟩) lx lx, .slice (some ⟨y, 0, none⟩) ly ly] w (SgPost (ansN lx ly bs cs) (ansC lx ly bs cs) w) := by
  unfold ansN ansC
  by_cases h : twoCode lx ly = 0
  · rw [if_pos h, if_pos h]
    obtain ⟨rfl, hl⟩ := twoCode_zero h
    exact specSg_ok x y lx bs cs w hl hx hy
  · rw [if_neg h, if_neg h]
    exact specSg_bad x y lx ly w h1 h2 h
theorem implSg_any (x y lx ly : Nat) (bs cs : List Nat) (w : World) (h1 : lx ≤ 1048576) (h2 : ly ≤ 1048576) (hx : NumRow w x lx bs) (hy : NumRow w y ly cs) :
    Calls Try.prog 30 #[.slice (some ⟨x, 0, none⟩) lx lx, .slice (some ⟨y, 0, none⟩) ly ly] w (SgPost (ansN lx ly bs cs) (ansC lx ly bs cs) w) := by
  unfold ansN ansC
  by_cases h : twoCode lx ly = 0
  · rw [if_pos h, if_pos h]
    obtain ⟨rfl, hl⟩ := twoCode_zero h
    by_cases hf : BothFin bs cs lx
    · exact implSg_fin x y lx bs cs w hl hx hy hf
    · exact implSg_odd x y lx bs cs w hl hx hy hf
  · rw [if_neg h, if_neg h]
    exact implSg_bad x y lx ly w h1 h2 h
end Go.Proofs.Ytgjejolfkfpobaa
