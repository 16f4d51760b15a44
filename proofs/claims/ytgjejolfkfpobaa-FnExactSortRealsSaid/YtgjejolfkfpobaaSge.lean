/-
  CONTRACTS: the specification's sign of a sum of products.
-/
import Derived.Test.YtgjejolfkfpobaaSgd
import Derived.Test.YtgjejolfkfpobaaDot
import Derived.RegionTactic
import Derived.ChangeAlike
import Derived.StillTailTactics
namespace Go.Proofs.Ytgjejolfkfpobaa
open Go.ChangeShapes Go.WideShapes Go.ChangeAt Go.RowKit Go.Deep
open Fl
theorem made_zero64 : madeCells #[.int .u64 0] 24 = limbC zf := by
  apply Array.ext_getElem?
  intro i
  by_cases hi : i < 24
  · rw [limbC_get _ _ hi]
    simp [madeCells, hi, Nat.mod_one]; rfl
  · rw [Array.getElem?_eq_none (by simp [madeCells]; omega), Array.getElem?_eq_none (by rw [limbC_size]; omega)]
theorem info_u64 : (Try.prog.info? 83).map (fun i => (i.zero, i.size, i.bytes)) = some (some (.int .u64 0), 1, 8) := by kernel_rfl
theorem make_u64 (w : World) : (Instr.makeSlice 135 (.int .i64 24) (.int .i64 24)).run Try.prog w = .ok (.slice (some ⟨w.heap.size, 0, none⟩) 24 24) (w.alloc (.cells (limbC zf) 83)) := by
  rw [← made_zero64]
  exact run_make_row' 135 83 (.int .u64 0) 8 Try.underlying135 info_u64 rfl .i64 .i64 24 (by omega) (by omega) w
def BeginPost (bs cs : List Nat) (w : World) (e : Ending) (w' : World) : Prop := ∃ be bp bm, e = .returned (.pointer (some ⟨be, 0, none⟩)) ∧ SpecAcc w.heap.size be bp bm bs cs 0 w' ∧ Below w.heap.size w w'
theorem three_blocks (w : World) (o1 o2 o3 : Obj) : ((((w.alloc o1).alloc o2).alloc o3).drew).heap[w.heap.size]? = some o1 ∧ ((((w.alloc o1).alloc o2).alloc o3).drew).heap[w.heap.size + 1]? = some o2 ∧ ((((w.alloc o1).alloc o2).alloc o3).drew).heap[w.heap.size + 1 + 1]? = some o3 ∧ Below w.heap.size w (((w.alloc o1).alloc o2).alloc o3).drew := by
  have h : ((((w.alloc o1).alloc o2).alloc o3).drew).heap = ((w.heap.push o1).push o2).push o3 := rfl
  refine ⟨?_, ?_, ?_, ?_⟩
  · rw [h, Array.getElem?_push, Array.getElem?_push, Array.getElem?_push]
    rw [if_neg (by simp; omega), if_neg (by simp), if_pos rfl]
  · rw [h, Array.getElem?_push, Array.getElem?_push]
    rw [if_neg (by simp), if_pos (by simp)]
  · rw [h, Array.getElem?_push]
    rw [if_pos (by simp)]
  · exact ((((Below.refl _ _).alloc (Nat.le_refl _) _).alloc (by simp) _).alloc (by simp; omega) _).drew
theorem acc_zero {B be bp bm : Nat} {bs cs : List Nat} {w : World} (h1 : B ≤ be) (h2 : B ≤ bp) (h3 : B ≤ bm) (hr : w.heap[be]? = some (.cells #[.slice (some ⟨bp, 0, none⟩) 24 24, .slice (some ⟨bm, 0, none⟩) 24 24] 137 (0, 0)))
    (hp : LimbAt w bp zf) (hm : LimbAt w bm zf) (n1 : bp ≠ bm) (n2 : be ≠ bp) (n3 : be ≠ bm) : SpecAcc B be bp bm bs cs 0 w :=
  ⟨h1, h2, h3, zf, zf, ⟨hr, hp, hm, n1, n2, n3⟩, fun _ => B32_pos, fun _ => B32_pos, pw_zero 24, pw_zero 24⟩
theorem begin_any (bs cs : List Nat) (w : World) : Calls Try.prog 91 #[] w (BeginPost bs cs w) := by
  have hmk := make_u64
  go_enter Try.func91, Try.ntmps91
  go_wp2
  go_region
  all_goals
    go_wp2
    clear hmk
  · obtain ⟨h1, h2, h3, h4⟩ := three_blocks w (.cells (limbC zf) 83) (.cells (limbC zf) 83) (.cells #[.slice (some ⟨w.heap.size, 0, none⟩) 24 24, .slice (some ⟨w.heap.size + 1, 0, none⟩) 24 24] 137)
    have R : Hid (BeginPost bs cs w (.returned (.pointer (some ⟨w.heap.size + 1 + 1, 0, none⟩))) _) := Lib.hid ⟨_, w.heap.size, w.heap.size + 1, rfl, acc_zero (by omega) (by omega) (by omega) h3 h1 h2 (by omega) (by omega) (by omega), h4⟩
    clear h1 h2 h3 h4
    go_ret
    exact R.out
  · obtain ⟨h1, h2, h3, h4⟩ := three_blocks w (.cells (limbC zf) 83) (.cells (limbC zf) 83) (.cells #[.slice (some ⟨w.heap.size + 1, 0, none⟩) 24 24, .slice (some ⟨w.heap.size, 0, none⟩) 24 24] 137)
    have R : Hid (BeginPost bs cs w (.returned (.pointer (some ⟨w.heap.size + 1 + 1, 0, none⟩))) _) := Lib.hid ⟨_, w.heap.size + 1, w.heap.size, rfl, acc_zero (by omega) (by omega) (by omega) h3 h2 h1 (by omega) (by omega) (by omega), h4⟩
    clear h1 h2 h3 h4
    go_ret
    exact R.out
theorem specSign_any (B be bp bm k : Nat) (bs cs : List Nat) (w : World) (hS : SpecAcc B be bp bm bs cs k w) :
    Calls Try.prog 93 #[.pointer (some ⟨be, 0, none⟩)] w fun e w' => e = .returned (.int .i64 (sg (PS true bs cs k) (PS false bs cs k))) ∧ DrewSame w w' := by
  obtain ⟨q1, q2, q3, g, h, hE, hg, hh, hp, hm⟩ := hS
  have c0 : w.cell? ⟨be, 0, none⟩ = some (.slice (some ⟨bp, 0, none⟩) 24 24) := by simp [World.cell?, hE.row]
  have c1 : w.cell? ⟨be, 1, none⟩ = some (.slice (some ⟨bm, 0, none⟩) 24 24) := by simp [World.cell?, hE.row]
  have HC : Hid (∀ w1, DrewSame w w1 → Calls Try.prog 124 #[.slice (some ⟨bp, 0, none⟩) 24 24, .slice (some ⟨bm, 0, none⟩) 24 24] w1 fun e w' => e = .returned (.int .i64 (sg (pw g 24) (pw h 24))) ∧ ∃ n, w' = w1.drewN n) := Lib.hid fun w1 hd => by
    obtain ⟨n, rfl⟩ := hd
    exact compare_any bp bm g h _ hg hh hE.plus hE.minus
  have P := Lib.hid hp
  have M := Lib.hid hm
  clear hE hg hh hp hm q1 q2 q3
  go_enter Try.func93, Try.ntmps93
  go_wp2
  go_quiet ((go_at_call 124; exact Calls.quiet_of (HC.out _ ⟨_, rfl⟩)))
  go_wp2
  go_ret
  exact ⟨ret_int (by rw [P.out, M.out]), nq, rfl⟩
theorem SpecAcc.drewS {B be bp bm k : Nat} {bs cs : List Nat} {w w1 : World} (h : SpecAcc B be bp bm bs cs k w) (d : DrewSame w w1) : SpecAcc B be bp bm bs cs k w1 := by
  obtain ⟨n, rfl⟩ := d
  obtain ⟨q1, q2, q3, g, h, hE, r⟩ := h
  exact ⟨q1, q2, q3, g, h, ⟨hE.row, hE.plus, hE.minus, hE.pm, hE.ep, hE.em⟩, r⟩
/-- the cells of a list of numbers in a block -/
def NumRow (w : World) (x len : Nat) (bs : List Nat) : Prop := x < w.heap.size ∧ (∀ i, i < len → W32 (bs[i]?.getD 0)) ∧ ∀ i, i < len → w.cell? ⟨x, i, none⟩ = some (.float .f32 (bs[i]?.getD 0))
theorem NumRow.below {w w1 : World} {x len B : Nat} {bs : List Nat} (h : NumRow w x len bs) (hB : Below B w w1) (hx : x < B) : NumRow w1 x len bs := by
  obtain ⟨h1, h2, h3⟩ := h
  exact ⟨Nat.lt_of_lt_of_le h1 hB.size, h2, fun i hi => by rw [hB.cell (p := ⟨x, i, none⟩) hx]; exact h3 i hi⟩
def SignPost (len : Nat) (bs cs : List Nat) (w : World) (e : Ending) (w' : World) : Prop := e = .returned (.int .i64 (sg (PS true bs cs len) (PS false bs cs len))) ∧ Below w.heap.size w w'
set_option maxHeartbeats 4000000 in
set_option maxRecDepth 20000 in
theorem l01Sign_any (x y len : Nat) (bs cs : List Nat) (w : World) (hl : len ≤ 256) (hb : AllFin bs len) (hc : AllFin cs len) (hx : NumRow w x len bs) (hy : NumRow w y len cs) :
    Calls Try.prog 64 #[.slice (some ⟨x, 0, none⟩) len len, .slice (some ⟨y, 0, none⟩) len len] w (SignPost len bs cs w) := by
  have HB := Lib.hid hb
  have HC := Lib.hid hc
  have HX := Lib.hid hx
  have HY := Lib.hid hy
  have hl' : (len : Int) ≤ 256 := by omega
  clear hb hc hx hy
  go_enter Try.func64, Try.ntmps64
  go_wp2_with fail
  refine (begin_any bs cs _).mono ?_
  rintro e w1 ⟨be, bp, bm, rfl, hS, hB⟩
  have S1 := Lib.hid hS
  have B1 := Lib.hid hB
  clear hS hB
  go_wp2
  go_loopw [6] (fun i wr => ∃ k : Nat, k ≤ len ∧ i = .int .i64 k ∧ SpecAcc w.heap.size be bp bm bs cs k wr ∧ Below w.heap.size w wr) (fun i _ => len - (intOf i).toNat)
  case atStart => exact ⟨0, Nat.zero_le _, rfl, S1.out, B1.out⟩
  case round =>
    obtain ⟨k, hk, rfl, hS, hB⟩ := hrel
    have S2 := Lib.hid hS
    have B2 := Lib.hid hB
    clear hS hB S1 B1
    by_cases hlt : k < len
    · have g1 : wr.cell? ⟨x, k, none⟩ = some (.float .f32 (bs[k]?.getD 0)) := (HX.out.below B2.out HX.out.1).2.2 k hlt
      have g2 : wr.cell? ⟨y, k, none⟩ = some (.float .f32 (cs[k]?.getD 0)) := (HY.out.below B2.out HY.out.1).2.2 k hlt
      have t1 : decide ((k : Int) < (len : Int)) = true := by simp; omega
      go_wp2
      go_still_tail 9, (by kernel_rfl)
      change wpList _ _ _ _ _ wr.drew
      have S3 : Hid (SpecAcc w.heap.size be bp bm bs cs k wr.drew) := Lib.hid (S2.out.drewS ⟨1, rfl⟩)
      have B3 : Hid (Below w.heap.size w wr.drew) := Lib.hid B2.out.drew
      have W1 : Hid (W32 (bs[k]?.getD 0)) := Lib.hid (HX.out.2.1 k hlt)
      have W2 : Hid (W32 (cs[k]?.getD 0)) := Lib.hid (HY.out.2.1 k hlt)
      clear g1 g2 S2 B2 t1
      generalize wr.drew = w2 at S3 B3 ⊢
      go_wp2_with fail
      refine (add_any w.heap.size be bp bm len k bs cs _ HB.out HC.out hl hlt W1.out W2.out S3.out).mono ?_
      rintro e w3 ⟨rfl, hS, hB⟩
      have S4 := Lib.hid hS
      have B4 := Lib.hid (B3.out.trans hB)
      clear hS hB S3 B3
      go_wp2
      go_roundw
      case rel => exact ⟨k + 1, by omega, by go_num, S4.out, B4.out⟩
      case measure => simp [intOf]; omega
    · obtain rfl : k = len := by omega
      have t1 : decide (k < k) = false := by simp
      go_wp2_with fail
      refine (specSign_any _ be bp bm k bs cs _ S2.out).mono ?_
      rintro e w3 ⟨rfl, hd⟩
      have R : Hid (SignPost k bs cs w (.returned (.int .i64 (sg (PS true bs cs k) (PS false bs cs k)))) w3) := Lib.hid ⟨rfl, B2.out.trans hd.below⟩
      clear hd
      go_wp2
      go_ret
      exact R.out
end Go.Proofs.Ytgjejolfkfpobaa
