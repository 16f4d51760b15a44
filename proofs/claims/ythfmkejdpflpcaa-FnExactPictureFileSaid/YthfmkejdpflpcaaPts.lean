/-
  SLICES OF PAIRS OF NUMBERS: built by append; how the laws look at them.
-/
import Derived.Test.YthfmkejdpflpcaaGpc
import Derived.WalkKit
import Derived.ProofKit
import Derived.OpenShut
import Derived.WalkLawsBesides
import Derived.Outline
import Derived.OwnWalk
import Derived.LoopTactic
import Derived.Laws.Rows
import Derived.Laws.Tables
import Derived.Laws.CopyOwn
import Derived.Deep.RegionHeld3
import Derived.StillTailTactics
import Derived.Deep.QuietTactic
import Derived.BigQuiet
import Derived.WalkSmall
import Derived.Lib.Hide
namespace Go.Proofs.Ythfmkejdpflpcaa
open Go.ChangeShapes Go.WideShapes Go.ChangeAt Go.RowKit
theorem own_alloc {w : World} {base : Nat} {e : TypeId} {size : Nat} {v : Value} {n : Nat} {xs : List Value} (h : w.ownsRow base e size v n xs) (o : Obj) : (w.alloc o).ownsRow base e size v n xs := by
  refine h.kept (World.grownBy_alloc w o none) ?_
  cases hv : v.ownBlock with
  | none => exact .inl rfl
  | some k => exact .inr (by simp)
def two (p q : Int) : List Value := [.int .i32 p, .int .i32 q]
theorem two_at (w : World) (p q : Int) (t : TypeId) : ∀ j u, (two p q)[j]? = some u → (w.alloc (.cells #[.int .i32 p, .int .i32 q] t)).cell? ((⟨w.heap.size, 0, none⟩ : Addr).add j) = some u := by
  intro j u h
  have e : (⟨w.heap.size, 0, none⟩ : Addr).add j = ⟨w.heap.size, j, none⟩ := by rw [Go.WideShapes.add_plain, Nat.zero_add]
  rw [e, World.cell?_alloc_new]
  match j, h with
  | 0, h => exact h
  | 1, h => exact h
  | k + 2, h => simp [two] at h
theorem two_one (p q : Int) : ∀ u ∈ two p q, u.oneCell' = true := by
  intro u hu
  simp [two] at hu
  rcases hu with rfl | rfl <;> rfl
theorem belowN {B n : Nat} {a w : World} (h : Below B a w) : Below B a (w.drewN n) := ⟨h.os, h.tape, h.output, h.size, h.block⟩
/-- A CELL IS APPENDED to a slice of the call's own. -/
theorem wpList_append_pt {ops : Array Oper} {rest : List Oper} {o : Oper} {a : Act} {Q : Exit → Act → World → Prop} (hgd : o.guard = none) (s x : Operand)
    (ho : o.op = .call { callee := .builtin .append, args := #[s, x], argTypes := #[22, 22] })
    (base : Nat) (w0 W : World) (v : Value) (n : Nat) (xs : List Value) (p q : Int) (hs : a.eval s = v) (m : Nat) (hm : W.heap.size = m) (hx : a.eval x = .slice (some ⟨m, 0, none⟩) 1 1)
    (H : Hid (W.ownsRow base 45 2 v n xs)) (HB : Hid (Below base w0 W)) (hb : base ≤ w0.heap.size) (hn : n ≤ 1000000)
    (h : ∀ v' w', Hid (w'.ownsRow base 45 2 v' (n + 1) (xs ++ two p q)) → Hid (Below base w0 w') → wpList Try.prog ops Q rest (a.put o.dst v') w') :
    wpList Try.prog ops Q (o :: rest) a (W.alloc (.cells #[.int .i32 p, .int .i32 q] 45)) := by
  have hsz := HB.out.size
  subst hm
  refine wpList_append_own _ hgd s x 22 ho base 45 Try.t45 (.agg #[.int .i32 0, .int .i32 0]) 2 8 Try.underlying22 (by kernel_rfl) (by kernel_rfl) (by kernel_rfl) (by kernel_rfl) (by kernel_rfl) (by decide) v n xs hs (own_alloc H.out _) ⟨W.heap.size, 0, none⟩ 1 1 (two p q) hx rfl (two_at _ _ _ _) (two_one p q) (by unfold maxLen; omega) (by omega) (by simp; omega) ?_
  intro v' w' h1 h2 _
  exact h v' w' h1 ((HB.out.alloc (by omega) _).grown h2 (by simp; omega) (fun k hk => (H.out.lt k hk).1))
theorem toPt_any (a b : Int) (w : World) :
    Calls Try.prog 55 #[.agg #[.int .i32 a, .int .i32 b]] w fun e w' => e = .returned (.agg #[.int .i32 a, .int .i32 b]) ∧ Below w.heap.size w w' := by
  go_enter Try.func55, Try.ntmps55
  go_wp2
  refine wp_loop_rounds 3 ?_
  iterate 3
    rw [rounds_succ]
    go_wp2
  refine bodyPost_ret (v := .agg #[.int .i32 a, .int .i32 b]) (by simp [results, Try.results55, go_sem]) rfl ⟨rfl, ?_⟩
  exact (((Below.refl _ _).alloc (Nat.le_refl _) _).alloc (by simp) _).alloc (by simp; omega) _
theorem eqPt_same (a b : Int) (w : World) :
    Calls Try.prog 60 #[.agg #[.int .i32 a, .int .i32 b], .agg #[.int .i32 a, .int .i32 b]] w fun e w' => e = .returned (.bool true) ∧ Below w.heap.size w w' := by
  go_enter Try.func60, Try.ntmps60
  go_wp2
  refine wp_loop_rounds 3 ?_
  rw [rounds_succ]
  go_wp2
  go_quiet (fail)
  go_wp2
  rw [rounds_succ]
  go_wp2
  go_quiet (fail)
  go_wp2
  rw [rounds_succ]
  go_wp2
  go_ret
  exact ⟨rfl, by repeat (first | exact Below.refl _ _ | apply belowN | refine Below.alloc ?_ (by first | exact Nat.le_refl _ | (simp; done) | (simp; omega)) _)⟩
set_option maxHeartbeats 1000000 in
theorem eqPtS_any (x y n c1 c2 : Nat) (f : Nat → Int) (w : World) (hn : n ≤ 1000000)
    (hx : ∀ j, j < 2 * n → w.cell? ⟨x, j, none⟩ = some (.int .i32 (f j))) (hy : ∀ j, j < 2 * n → w.cell? ⟨y, j, none⟩ = some (.int .i32 (f j))) :
    Calls Try.prog 19 #[.slice (some ⟨x, 0, none⟩) n c1, .slice (some ⟨y, 0, none⟩) n c2] w fun e w' => e = .returned (.bool true) ∧ Below w.heap.size w w' := by
  have HX := Lib.hid hx
  have HY := Lib.hid hy
  clear hx hy
  have hn' : (n : Int) ≤ 1000000 := by omega
  go_enter Try.func19, Try.ntmps19
  go_wp2
  go_loopw [5] (fun i wr => ∃ k : Nat, k ≤ n ∧ i = .int .i64 k ∧ Below w.heap.size w wr) (fun i _ => n - (intOf i).toNat)
  case atStart => exact ⟨0, Nat.zero_le _, rfl, Below.refl _ _⟩
  case round =>
    obtain ⟨k, hk, rfl, hb⟩ := hrel
    by_cases hlt : k < n
    · have hxl := World.block_lt_of_cell? _ _ (HX.out (2 * k) (by omega))
      have hyl := World.block_lt_of_cell? _ _ (HY.out (2 * k) (by omega))
      have hS : ∀ W, Below w.heap.size w W → Below w.heap.size w W ∧ W.cell? ⟨x, k * 2, none⟩ = some (.int .i32 (f (2 * k))) ∧ W.cell? ⟨x, k * 2 + 1, none⟩ = some (.int .i32 (f (2 * k + 1))) ∧ W.cell? ⟨y, k * 2, none⟩ = some (.int .i32 (f (2 * k))) ∧ W.cell? ⟨y, k * 2 + 1, none⟩ = some (.int .i32 (f (2 * k + 1))) := fun W hW => by
        refine ⟨hW, ?_, ?_, ?_, ?_⟩
        · rw [hW.cell (p := ⟨x, k * 2, none⟩) hxl, Nat.mul_comm]; exact HX.out _ (by omega)
        · rw [hW.cell (p := ⟨x, k * 2 + 1, none⟩) hxl, Nat.mul_comm]; exact HX.out _ (by omega)
        · rw [hW.cell (p := ⟨y, k * 2, none⟩) hyl, Nat.mul_comm]; exact HY.out _ (by omega)
        · rw [hW.cell (p := ⟨y, k * 2 + 1, none⟩) hyl, Nat.mul_comm]; exact HY.out _ (by omega)
      have HS := Lib.hid hS
      have HB := Lib.hid hb
      clear hS hb hxl hyl
      go_wp2
      go_region_held3 (fun w' => Below w.heap.size w w' ∧ w'.cell? ⟨x, k * 2, none⟩ = some (.int .i32 (f (2 * k))) ∧ w'.cell? ⟨x, k * 2 + 1, none⟩ = some (.int .i32 (f (2 * k + 1))) ∧ w'.cell? ⟨y, k * 2, none⟩ = some (.int .i32 (f (2 * k))) ∧ w'.cell? ⟨y, k * 2 + 1, none⟩ = some (.int .i32 (f (2 * k + 1))))
        (first | exact HS.out _ HB.out.drew | exact HS.out _ (HB.out.drew.trans (Below.mono (by assumption) HB.out.size)))
        (first | (go_at_call 60; refine (eqPt_same _ _ _).mono ?_; rintro e w' ⟨rfl, hb⟩))
      rename_i hH
      have HB' := Lib.hid hH.1
      clear hH hb HB
      go_wp2
      go_roundw
      case rel => exact ⟨k + 1, by omega, by go_num, HB'.out⟩
      case measure => simp [intOf]; omega
    · obtain rfl : k = n := by omega
      have HB := Lib.hid hb
      clear hb
      go_wp2
      go_ret
      exact ⟨rfl, HB.out⟩
/-- nothing but one block has turned -/
def Onl (g : Nat) (w w' : World) : Prop := w'.os = w.os ∧ w'.tape = w.tape ∧ w'.output = w.output ∧ w'.heap.size = w.heap.size ∧ ∀ k, k ≠ g → w'.heap[k]? = w.heap[k]?
theorem Onl.refl (g : Nat) (w : World) : Onl g w w := ⟨rfl, rfl, rfl, rfl, fun _ _ => rfl⟩
theorem Onl.put {g i : Nat} {w w' : World} {v : Value} (h : Onl g w w') : Onl g w (w'.setCell ⟨g, i, none⟩ v) :=
  ⟨h.1, h.2.1, h.2.2.1, by simp [h.2.2.2.1], fun k hk => by rw [← h.2.2.2.2 k hk]; exact Below.heap_setCell _ _ _ k hk⟩
theorem Onl.below {g B : Nat} {w w' : World} (h : Onl g w w') (hB : B ≤ g) : Below B w w' := ⟨h.1, h.2.1, h.2.2.1, by rw [h.2.2.2.1]; exact Nat.le_refl _, fun k hk => h.2.2.2.2 k (by omega)⟩
/-- the first m of N numbers of a block are marks; all N can be written -/
def Mk (g N m : Nat) (w : World) : Prop := (∀ j, j < m → w.cell? ⟨g, j, none⟩ = some (.int .i32 ((1 + j : Nat) : Int))) ∧ ∀ j, j < N → (∃ x, w.cell? ⟨g, j, none⟩ = some (.int .i32 x)) ∧ w.frozen? ⟨g, j, none⟩ = false
theorem cell_set {w : World} {g i j : Nat} {v u : Value} (h : w.cell? ⟨g, j, none⟩ = some u) : (w.setCell ⟨g, i, none⟩ v).cell? ⟨g, j, none⟩ = some (if i = j then v else u) := by
  unfold World.cell? at h ⊢
  simp only [World.setCell, Array.getElem?_modify, ↓reduceIte]
  cases hh : w.heap[g]? with
  | none => simp [hh] at h
  | some o =>
    rw [hh] at h
    cases o with
    | cells c t fr =>
      simp only [Option.map_some] at h ⊢
      have hlt : j < c.size := by
        simp at h
        exact (Array.getElem?_eq_some_iff.1 h).1
      by_cases hij : i = j
      · subst hij; simp [Array.getElem?_setIfInBounds, hlt]
      · simp at h; simp [Array.getElem?_setIfInBounds, hij, h]
    | _ => simp at h
theorem Mk.put {g N m : Nat} {w : World} (h : Mk g N m w) (hm : m < N) : Mk g N (m + 1) (w.setCell ⟨g, m, none⟩ (.int .i32 ((1 + m : Nat) : Int))) := by
  refine ⟨fun j hj => ?_, fun j hj => ⟨?_, ?_⟩⟩
  · obtain ⟨x, hx⟩ := (h.2 j (by omega)).1
    rw [cell_set hx]
    by_cases e : m = j
    · subst e; simp
    · rw [if_neg e, ← hx]; exact h.1 j (by omega)
  · obtain ⟨x, hx⟩ := (h.2 j hj).1
    rw [cell_set hx]
    by_cases e : m = j
    · exact ⟨_, by rw [if_pos e]⟩
    · exact ⟨x, by rw [if_neg e]⟩
  · rw [World.frozen?_setCell]; exact (h.2 j hj).2
set_option maxHeartbeats 1000000 in
theorem markPtS_any (g cap n : Nat) (hn : n ≤ 1000000) (w : World) (ho : Mk g (2 * n) 0 w) :
    Calls Try.prog 20 #[.slice (some ⟨g, 0, none⟩) n cap, .int .i64 1] w fun e w' => e = .returned (.int .i64 ((1 + 2 * n : Nat) : Int)) ∧ Mk g (2 * n) (2 * n) w' ∧ Onl g w w' := by
  have HO := Lib.hid ho
  have hn' : (n : Int) ≤ 1000000 := by omega
  clear ho
  go_enter Try.func20, Try.ntmps20
  go_wp2
  go_loopw [1, 5] (fun q i wr => ∃ k : Nat, k ≤ n ∧ i = .int .i64 k ∧ q = .int .i64 ((1 + 2 * k : Nat) : Int) ∧ Mk g (2 * n) (2 * k) wr ∧ Onl g w wr) (fun _ i _ => n - (intOf i).toNat)
  case atStart => exact ⟨0, Nat.zero_le _, rfl, rfl, HO.out, Onl.refl _ _⟩
  case round =>
    obtain ⟨k, hk, rfl, rfl, hm, hb⟩ := hrel
    have HM := Lib.hid hm
    have HB := Lib.hid hb
    clear hm hb
    by_cases hlt : k < n
    · have hlt' : (k : Int) < n := by omega
      go_wp2

      go_loopw [1, 6] (fun q i wr' => ∃ j : Nat, j ≤ 2 ∧ i = .int .i64 j ∧ q = .int .i64 ((1 + (2 * k + j) : Nat) : Int) ∧ Mk g (2 * n) (2 * k + j) wr' ∧ Onl g w wr') (fun _ i _ => 2 - (intOf i).toNat)
      case atStart => exact ⟨0, Nat.zero_le _, rfl, rfl, HM.out, HB.out⟩
      case round =>
        obtain ⟨j, hj, rfl, rfl, hm, hb⟩ := hrel
        have HM2 := Lib.hid hm
        have HB2 := Lib.hid hb
        clear hm hb
        by_cases hj2 : j < 2
        · obtain ⟨x, hx⟩ := (HM2.out.2 (2 * k + j) (by omega)).1
          have hf := (HM2.out.2 (2 * k + j) (by omega)).2
          have e : 2 * k + j = k * 2 + j := by omega
          rw [e] at hx hf
          clear e
          have HP : Hid (Mk g (2 * n) (2 * k + (j + 1)) (wr.setCell ⟨g, k * 2 + j, none⟩ (.int .i32 (1 + (2 * (k : Int) + (j : Int)))))) := Lib.hid (by
            have h := HM2.out.put (by omega)
            rw [show k * 2 + j = 2 * k + j from by omega, show (1 + (2 * (k : Int) + (j : Int))) = ((1 + (2 * k + j) : Nat) : Int) from by omega]
            exact h)
          go_wp2
          go_roundw
          case rel => exact ⟨j + 1, by omega, by go_num, by go_num, HP.out, HB2.out.put⟩
          case measure => simp [intOf]; omega
        · obtain rfl : j = 2 := by omega
          go_wp2
          go_roundw
          case rel => exact ⟨k + 1, by omega, by go_num, by go_num, HM2.out, HB2.out⟩
          case measure => simp [intOf]; omega
    · obtain rfl : k = n := by omega
      go_wp2
      go_ret
      exact ⟨by rfl, HM.out, HB.out⟩
set_option maxHeartbeats 1000000 in
theorem heldPtS_any (g cap n : Nat) (hn : n ≤ 1000000) (w : World) (ho : ∀ j, j < 2 * n → w.cell? ⟨g, j, none⟩ = some (.int .i32 ((1 + j : Nat) : Int))) :
    Calls Try.prog 27 #[.slice (some ⟨g, 0, none⟩) n cap, .int .i64 1] w fun e w' => e = .returned (.int .i64 ((1 + 2 * n : Nat) : Int)) ∧ ∃ m, w' = w.drewN m := by
  have HO := Lib.hid ho
  have hn' : (n : Int) ≤ 1000000 := by omega
  clear ho
  go_enter Try.func27, Try.ntmps27
  go_wp2
  go_loopw [1, 5] (fun q i wr => ∃ k m : Nat, k ≤ n ∧ i = .int .i64 k ∧ q = .int .i64 ((1 + 2 * k : Nat) : Int) ∧ wr = w.drewN m) (fun _ i _ => n - (intOf i).toNat)
  case atStart => exact ⟨0, 0, Nat.zero_le _, rfl, rfl, rfl⟩
  case round =>
    obtain ⟨k, m, hk, rfl, rfl, e⟩ := hrel
    have HE := Lib.hid e
    clear e
    by_cases hlt : k < n
    · have hlt' : (k : Int) < n := by omega
      go_wp2
      go_loopw [1, 6] (fun q i wr' => ∃ j m : Nat, j ≤ 2 ∧ i = .int .i64 j ∧ q = .int .i64 ((1 + (2 * k + j) : Nat) : Int) ∧ wr' = w.drewN m) (fun _ i _ => 2 - (intOf i).toNat)
      case atStart => exact ⟨0, m, Nat.zero_le _, rfl, rfl, HE.out⟩
      case round =>
        clear HE
        obtain ⟨j, m, hj, rfl, rfl, e⟩ := hrel
        have HE := Lib.hid e
        clear e
        by_cases hj2 : j < 2
        · have hx : wr.cell? ⟨g, k * 2 + j, none⟩ = some (.int .i32 (1 + (2 * (k : Int) + (j : Int)))) := by
            rw [HE.out, show k * 2 + j = 2 * k + j from by omega, show (1 + (2 * (k : Int) + (j : Int))) = ((1 + (2 * k + j) : Nat) : Int) from by omega]
            exact HO.out _ (by omega)
          go_wp2
          go_roundw
          case rel => exact ⟨j + 1, m, by omega, by go_num, by go_num, HE.out⟩
          case measure => simp [intOf]; omega
        · obtain rfl : j = 2 := by omega
          go_wp2
          go_roundw
          case rel => exact ⟨k + 1, m, by omega, by go_num, by go_num, HE.out⟩
          case measure => simp [intOf]; omega
    · obtain rfl : k = n := by omega
      go_wp2
      go_ret
      exact ⟨by rfl, m, HE.out⟩
end Go.Proofs.Ythfmkejdpflpcaa
