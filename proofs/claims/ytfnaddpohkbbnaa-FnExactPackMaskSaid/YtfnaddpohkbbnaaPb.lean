/-
  SLICES OF BYTES, as the laws look at them, nil or not.
-/
import Derived.Test.YtfnaddpohkbbnaaPk
namespace Go.Proofs.Ytfnaddpohkbbnaa
open Go.ChangeShapes Go.WideShapes Go.ChangeAt Go.RowKit
theorem ydrewN {B n : Nat} {a w : World} (h : Below B a w) : Below B a (w.drewN n) := ⟨h.os, h.tape, h.output, h.size, h.block⟩
/-- all cells are bytes -/
def ByteF (n : Nat) (f : Nat → Value) : Prop := ∀ j, j < n → ∃ x, f j = .int .u8 x
def markY : Nat → Value := fun j => .int .u8 (((1 + j : Nat) : Int) % 256)
theorem eqYNone_any (x y : Option Addr) (c1 c2 : Nat) (w : World) :
    Calls Try.prog 21 #[.slice x 0 c1, .slice y 0 c2] w fun e w' => e = .returned (.bool true) ∧ w = w' := by
  go_enter Try.func21, Try.ntmps21
  go_wp2
  refine wp_loop_rounds 1 ?_
  rw [rounds_succ]
  go_wp2
  go_ret
  exact ⟨rfl, rfl⟩
theorem markYNone_any (x : Option Addr) (c : Nat) (w : World) :
    Calls Try.prog 22 #[.slice x 0 c, .int .i64 1] w fun e w' => e = .returned (.int .i64 1) ∧ w = w' := by
  go_enter Try.func22, Try.ntmps22
  go_wp2
  refine wp_loop_rounds 1 ?_
  rw [rounds_succ]
  go_wp2
  go_ret
  exact ⟨rfl, rfl⟩
theorem heldYNone_any (x : Option Addr) (c : Nat) (w : World) :
    Calls Try.prog 23 #[.slice x 0 c, .int .i64 1] w fun e w' => e = .returned (.int .i64 1) ∧ w = w' := by
  go_enter Try.func23, Try.ntmps23
  go_wp2
  refine wp_loop_rounds 1 ?_
  rw [rounds_succ]
  go_wp2
  go_ret
  exact ⟨rfl, rfl⟩
set_option maxHeartbeats 1000000 in
theorem eqYS_any (x y n c1 c2 : Nat) (f : Nat → Int) (w : World) (hn : n ≤ 1000000)
    (hx : ∀ j, j < n → w.cell? ⟨x, j, none⟩ = some (.int .u8 (f j))) (hy : ∀ j, j < n → w.cell? ⟨y, j, none⟩ = some (.int .u8 (f j))) :
    Calls Try.prog 21 #[.slice (some ⟨x, 0, none⟩) n c1, .slice (some ⟨y, 0, none⟩) n c2] w fun e w' => e = .returned (.bool true) ∧ Below w.heap.size w w' := by
  have HX := Lib.hid hx
  have HY := Lib.hid hy
  clear hx hy
  have hn' : (n : Int) ≤ 1000000 := by omega
  go_enter Try.func21, Try.ntmps21
  go_wp2
  go_loopw [5] (fun i wr => ∃ k m : Nat, k ≤ n ∧ i = .int .i64 k ∧ wr = w.drewN m) (fun i _ => n - (intOf i).toNat)
  case atStart => exact ⟨0, 0, Nat.zero_le _, rfl, rfl⟩
  case round =>
    obtain ⟨k, m, hk, rfl, hw⟩ := hrel
    by_cases hlt : k < n
    · have tl : (k : Int) < n := by omega
      have cx : wr.cell? ⟨x, k, none⟩ = some (.int .u8 (f k)) := by rw [hw]; exact HX.out k hlt
      have cy : wr.cell? ⟨y, k, none⟩ = some (.int .u8 (f k)) := by rw [hw]; exact HY.out k hlt
      have HW := Lib.hid hw
      clear hw
      generalize f k = z at cx cy
      go_wp2
      go_quiet (fail)
      go_wp2
      go_roundw
      case rel => exact ⟨k + 1, _, by omega, by go_num, by rw [HW.out, World.drewN_drewN]⟩
      case measure => simp [intOf]; omega
    · obtain rfl : k = n := by omega
      have B : Hid (Below w.heap.size w wr) := Lib.hid (by rw [hw]; exact ydrewN (Below.refl _ _))
      clear hw
      go_wp2
      go_ret
      exact ⟨rfl, B.out⟩
theorem ycell_set {w : World} {g i j : Nat} {v u : Value} (h : w.cell? ⟨g, j, none⟩ = some u) : (w.setCell ⟨g, i, none⟩ v).cell? ⟨g, j, none⟩ = some (if i = j then v else u) := by
  unfold World.cell? at h ⊢
  simp only [World.setCell, Array.getElem?_modify, ↓reduceIte]
  cases hh : w.heap[g]? with
  | none => simp [hh] at h
  | some o =>
    rw [hh] at h
    cases o with
    | cells c t fr =>
      simp only [Option.map_some] at h ⊢
      have hlt : j < c.size := by
        simp at h
        exact (Array.getElem?_eq_some_iff.1 h).1
      by_cases hij : i = j
      · subst hij; simp [Array.getElem?_setIfInBounds, hlt]
      · simp at h; simp [Array.getElem?_setIfInBounds, hij, h]
    | _ => simp at h
def YOnl (g : Nat) (w w' : World) : Prop := w'.os = w.os ∧ w'.tape = w.tape ∧ w'.output = w.output ∧ w'.heap.size = w.heap.size ∧ ∀ k, k ≠ g → w'.heap[k]? = w.heap[k]?
theorem YOnl.refl (g : Nat) (w : World) : YOnl g w w := ⟨rfl, rfl, rfl, rfl, fun _ _ => rfl⟩
theorem YOnl.put {g i : Nat} {w w' : World} {v : Value} (h : YOnl g w w') : YOnl g w (w'.setCell ⟨g, i, none⟩ v) :=
  ⟨h.1, h.2.1, h.2.2.1, by simp [h.2.2.2.1], fun k hk => by rw [← h.2.2.2.2 k hk]; exact Below.heap_setCell _ _ _ k hk⟩
theorem YOnl.below {g B : Nat} {w w' : World} (h : YOnl g w w') (hB : B ≤ g) : Below B w w' := ⟨h.1, h.2.1, h.2.2.1, by rw [h.2.2.2.1]; exact Nat.le_refl _, fun k hk => h.2.2.2.2 k (by omega)⟩
/-- the first m of N cells of a block are marks; all N can be written -/
def YMk (g N m : Nat) (w : World) : Prop := (∀ j, j < m → w.cell? ⟨g, j, none⟩ = some (markY j)) ∧ ∀ j, j < N → (∃ x, w.cell? ⟨g, j, none⟩ = some (.int .u8 x)) ∧ w.frozen? ⟨g, j, none⟩ = false
theorem YMk.put {g N m : Nat} {w : World} (h : YMk g N m w) (hm : m < N) : YMk g N (m + 1) (w.setCell ⟨g, m, none⟩ (markY m)) := by
  refine ⟨fun j hj => ?_, fun j hj => ⟨?_, ?_⟩⟩
  · obtain ⟨x, hx⟩ := (h.2 j (by omega)).1
    rw [ycell_set hx]
    by_cases e : m = j
    · subst e; simp
    · rw [if_neg e, ← hx]; exact h.1 j (by omega)
  · obtain ⟨x, hx⟩ := (h.2 j hj).1
    rw [ycell_set hx]
    by_cases e : m = j
    · exact ⟨_, by rw [if_pos e]; rfl⟩
    · exact ⟨x, by rw [if_neg e]⟩
  · rw [World.frozen?_setCell]; exact (h.2 j hj).2
set_option maxHeartbeats 1000000 in
theorem markYS_any (g cap n : Nat) (hn : n ≤ 1000000) (w : World) (ho : YMk g n 0 w) :
    Calls Try.prog 22 #[.slice (some ⟨g, 0, none⟩) n cap, .int .i64 1] w fun e w' => e = .returned (.int .i64 ((1 + 1 * n : Nat) : Int)) ∧ YMk g n n w' ∧ YOnl g w w' := by
  have HO := Lib.hid ho
  have hn' : (n : Int) ≤ 1000000 := by omega
  clear ho
  go_enter Try.func22, Try.ntmps22
  go_wp2
  go_loopw [1, 5] (fun q i wr => ∃ k : Nat, k ≤ n ∧ i = .int .i64 k ∧ q = .int .i64 ((1 + k : Nat) : Int) ∧ YMk g n k wr ∧ YOnl g w wr) (fun _ i _ => n - (intOf i).toNat)
  case atStart => exact ⟨0, Nat.zero_le _, rfl, rfl, HO.out, YOnl.refl _ _⟩
  case round =>
    obtain ⟨k, hk, rfl, rfl, hm, hb⟩ := hrel
    have HM := Lib.hid hm
    have HB := Lib.hid hb
    clear hm hb
    by_cases hlt : k < n
    · have hlt' : (k : Int) < n := by omega
      obtain ⟨x, hx⟩ := (HM.out.2 k hlt).1
      have hf := (HM.out.2 k hlt).2
      have HP : Hid (YMk g n (k + 1) (wr.setCell ⟨g, k, none⟩ (.int .u8 ((1 + (k : Int)) % 256)))) := Lib.hid (by
        have h := HM.out.put hlt
        rw [show (Value.int .u8 ((1 + (k : Int)) % 256)) = markY k from by unfold markY; push_cast; rfl]
        exact h)
      go_wp2
      go_roundw
      case rel => exact ⟨k + 1, by omega, by go_num, by go_num, HP.out, HB.out.put⟩
      case measure => simp [intOf]; omega
    · obtain rfl : k = n := by omega
      go_wp2
      go_ret
      exact ⟨by simp, HM.out, HB.out⟩
set_option maxHeartbeats 1000000 in
theorem heldYS_any (g cap n : Nat) (hn : n ≤ 1000000) (w : World) (ho : ∀ j, j < n → w.cell? ⟨g, j, none⟩ = some (markY j)) :
    Calls Try.prog 23 #[.slice (some ⟨g, 0, none⟩) n cap, .int .i64 1] w fun e w' => e = .returned (.int .i64 ((1 + 1 * n : Nat) : Int)) ∧ w = w' := by
  have HO := Lib.hid ho
  have hn' : (n : Int) ≤ 1000000 := by omega
  clear ho
  go_enter Try.func23, Try.ntmps23
  go_wp2
  go_loop [1, 5] (fun q i => ∃ k : Nat, k ≤ n ∧ i = .int .i64 k ∧ q = .int .i64 ((1 + k : Nat) : Int)) (fun _ i => n - (intOf i).toNat)
  case atStart => exact ⟨0, Nat.zero_le _, rfl, rfl⟩
  case round =>
    obtain ⟨k, hk, rfl, rfl⟩ := hrel
    by_cases hlt : k < n
    · have hlt' : (k : Int) < n := by omega
      have hx : w.cell? ⟨g, k, none⟩ = some (.int .u8 ((1 + (k : Int)) % 256)) := by
        rw [HO.out k hlt]; unfold markY; push_cast; rfl
      go_wp2
      go_round
      case rel => exact ⟨k + 1, by omega, by go_num, by go_num⟩
      case measure => simp [intOf]; omega
    · obtain rfl : k = n := by omega
      go_wp2
      go_ret
      exact ⟨by simp, rfl⟩
theorem eqY_any {lo hi lo' hi' n : Nat} {v v' : Value} {f f' : Nat → Value} {w : World} (hp : ByteF n f) (hf : ∀ j, j < n → f j = f' j) (hn : n ≤ 1000000) (h : PR 1 lo hi w v n f) (h' : PR 1 lo' hi' w v' n f') :
    Calls Try.prog 21 #[v, v'] w fun e w' => e = .returned (.bool true) ∧ Below w.heap.size w w' := by
  obtain ⟨a, c, rfl, h0⟩ := h
  obtain ⟨a', c', rfl, h0'⟩ := h'
  rcases h0 with rfl | ⟨g, rfl, h1, h2, h3, h4, h5⟩
  · exact (eqYNone_any a a' c c' w).mono fun e w' h => ⟨h.1, by rw [← h.2]; exact Below.refl _ _⟩
  · rcases h0' with rfl | ⟨g', rfl, h1', h2', h3', h4', h5'⟩
    · exact (eqYNone_any _ a' c c' w).mono fun e w' h => ⟨h.1, by rw [← h.2]; exact Below.refl _ _⟩
    · have K : ∀ j, j < n → f j = .int .u8 (match f j with | .int _ x => x | _ => 0) := fun j hj => by
        obtain ⟨x, hx⟩ := hp j hj
        rw [hx]
      exact eqYS_any g g' n c c' (fun j => match f j with | .int _ x => x | _ => 0) w hn (fun j hj => by rw [h4 j (by omega)]; exact congrArg some (K j (by omega))) (fun j hj => by rw [h4' j (by omega), ← hf j (by omega)]; exact congrArg some (K j (by omega)))
theorem markY_any {lo hi n : Nat} {v : Value} {f : Nat → Value} {w : World} (hp : ByteF n f) (hn : n ≤ 1000000) (h : PR 1 lo hi w v n f) (hlo : lo ≤ w.heap.size) :
    Calls Try.prog 22 #[v, .int .i64 1] w fun e w' => e = .returned (.int .i64 ((1 + 1 * n : Nat) : Int)) ∧ PR 1 lo hi w' v n markY ∧ Below lo w w' := by
  obtain ⟨a, c, rfl, h0⟩ := h
  rcases h0 with rfl | ⟨g, rfl, h1, h2, h3, h4, h5⟩
  · exact (markYNone_any a c w).mono fun e w' h => ⟨h.1, ⟨a, c, rfl, .inl rfl⟩, by rw [← h.2]; exact Below.refl _ _⟩
  · refine (markYS_any g c n hn w ⟨fun j hj => absurd hj (by omega), fun j hj => ⟨?_, h5 j (by omega)⟩⟩).mono ?_
    · obtain ⟨x, hx⟩ := hp j (by omega)
      exact ⟨x, by rw [h4 j (by omega), hx]⟩
    · rintro e w' ⟨he, hm, ho⟩
      refine ⟨he, ⟨_, c, rfl, .inr ⟨g, rfl, h1, h2, by rw [ho.2.2.2.1]; exact h3, fun j hj => hm.1 j (by omega), fun j hj => (hm.2 j (by omega)).2⟩⟩, ho.below h1⟩
theorem heldY_any {lo hi n : Nat} {v : Value} {w : World} (hn : n ≤ 1000000) (h : PR 1 lo hi w v n markY) :
    Calls Try.prog 23 #[v, .int .i64 1] w fun e w' => e = .returned (.int .i64 ((1 + 1 * n : Nat) : Int)) ∧ Below w.heap.size w w' := by
  obtain ⟨a, c, rfl, h0⟩ := h
  rcases h0 with rfl | ⟨g, rfl, h1, h2, h3, h4, h5⟩
  · exact (heldYNone_any a c w).mono fun e w' h => ⟨h.1, by rw [← h.2]; exact Below.refl _ _⟩
  · refine (heldYS_any g c n hn w fun j hj => h4 j (by omega)).mono ?_
    rintro e w' ⟨he, rfl⟩
    exact ⟨he, Below.refl _ _⟩
def NPackMask (f : Nat → Int) : Nat := (pkK (bitR f) 256).1.length
def GPackMask (f : Nat → Int) : Nat → Value := listF (bytesN (pkK (bitR f) 256).1)
theorem PackMask_len (f : Nat → Int) : NPackMask f ≤ 1000000 := Nat.le_trans (pkK_bound (bitR f) 256).1 (by omega)
theorem bytesN_byte (l : List Nat) : ByteF l.length (listF (bytesN l)) := fun j hj => by
  unfold listF bytesN
  rw [List.getElem?_map, List.getElem?_eq_getElem hj]
  exact ⟨_, rfl⟩
theorem PackMask_pair (f : Nat → Int) : ByteF (NPackMask f) (GPackMask f) := bytesN_byte _
theorem sPackMask_pr (f : Nat → Int) (hf : MB f) (w : World) : Calls Try.prog 18 #[.agg (M16 f)] w fun e w' => ∃ v, e = .returned v ∧ PR 1 w.heap.size w'.heap.size w' v (NPackMask f) (GPackMask f) ∧ Below w.heap.size w w' :=
  (spack_any f hf w).mono fun _ _ ⟨v, h1, h2, h3⟩ => ⟨v, h1, PR.of_own h2, h3⟩
theorem iPackMask_pr (f : Nat → Int) (hf : MB f) (w : World) : Calls Try.prog 20 #[.agg (M16 f)] w fun e w' => ∃ v, e = .returned v ∧ PR 1 w.heap.size w'.heap.size w' v (NPackMask f) (GPackMask f) ∧ Below w.heap.size w w' :=
  (ipack_any f hf w).mono fun _ _ ⟨v, h1, h2, h3⟩ => ⟨v, h1, PR.of_own h2, h3⟩
end Go.Proofs.Ytfnaddpohkbbnaa
