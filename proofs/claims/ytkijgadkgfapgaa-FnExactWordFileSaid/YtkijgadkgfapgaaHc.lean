/-
  SLICES OF int64, as the laws look at them: compared, marked, held; rows of the call's own.
-/
import Derived.Test.YtkijgadkgfapgaaGd
import Derived.Test.YtkijgadkgfapgaaGe
namespace Go.Proofs.Ytkijgadkgfapgaa
open Go.ChangeShapes Go.WideShapes Go.ChangeAt Go.RowKit Go.Deep
def FL (f : Nat → Int) : Nat → Value := fun j => .int .i64 (f j)
def markL : Nat → Value := fun j => .int .i64 ((1 + j : Nat) : Int)
def LMk (g N m : Nat) (w : World) : Prop := (∀ j, j < m → w.cell? ⟨g, j, none⟩ = some (markL j)) ∧ ∀ j, j < N → (∃ x, w.cell? ⟨g, j, none⟩ = some (.int .i64 x)) ∧ w.frozen? ⟨g, j, none⟩ = false
theorem LMk.put {g N m : Nat} {w : World} (h : LMk g N m w) (hm : m < N) : LMk g N (m + 1) (w.setCell ⟨g, m, none⟩ (markL m)) := by
  refine ⟨fun j hj => ?_, fun j hj => ⟨?_, ?_⟩⟩
  · obtain ⟨x, hx⟩ := (h.2 j (by omega)).1
    rw [fcell_set hx]
    by_cases e : m = j
    · subst e; simp
    · rw [if_neg e, ← hx]; exact h.1 j (by omega)
  · obtain ⟨x, hx⟩ := (h.2 j hj).1
    rw [fcell_set hx]
    by_cases e : m = j
    · exact ⟨_, by rw [if_pos e]; rfl⟩
    · exact ⟨x, by rw [if_neg e]⟩
  · rw [World.frozen?_setCell]; exact (h.2 j hj).2
def LR (B : Nat) (w : World) (a : Option Addr) (n : Nat) (f : Nat → Int) : Prop := n = 0 ∨ ∃ g off, a = some ⟨g, off, none⟩ ∧ g < B ∧ ∀ j, j < n → w.cell? ⟨g, off + j, none⟩ = some (.int .i64 (f j))
theorem LR.below {B B' : Nat} {w w' : World} {a : Option Addr} {n : Nat} {f : Nat → Int} (h : LR B w a n f) (hb : Below B w w') (hB : B ≤ B') : LR B' w' a n f := by
  rcases h with h | ⟨g, off, ha, hg, hc⟩
  · exact .inl h
  · exact .inr ⟨g, off, ha, by omega, fun j hj => (hb.cell (p := ⟨g, off + j, none⟩) hg).trans (hc j hj)⟩
theorem LR.congr {B n : Nat} {w : World} {a : Option Addr} {f g : Nat → Int} (h : LR B w a n f) (e : ∀ j, j < n → f j = g j) : LR B w a n g := by
  rcases h with h | ⟨b, off, ha, hg, hc⟩
  · exact .inl h
  · exact .inr ⟨b, off, ha, hg, fun j hj => by rw [← e j hj]; exact hc j hj⟩
theorem PR.lr {lo hi : Nat} {w : World} {v : Value} {n : Nat} {f : Nat → Int} (h : PR 1 lo hi w v n (FL f)) : ∃ a cap, v = .slice a n cap ∧ LR w.heap.size w a n f := by
  obtain ⟨a, cap, rfl, h0 | ⟨g, rfl, h1, h2, h3, h4, h5⟩⟩ := h
  · exact ⟨a, cap, rfl, .inl h0⟩
  · exact ⟨_, cap, rfl, .inr ⟨g, 0, rfl, by omega, fun j hj => by rw [Nat.zero_add]; exact h4 j (by omega)⟩⟩
set_option maxHeartbeats 2000000 in
theorem eqLS_any (a1 a2 : Option Addr) (n c1 c2 : Nat) (f : Nat → Int) (B : Nat) (w : World) (hB : B ≤ w.heap.size) (hn : n ≤ 1048576) (h1 : LR B w a1 n f) (h2 : LR B w a2 n f) :
    Calls Try.prog 36 #[.slice a1 n c1, .slice a2 n c2] w fun e w' => e = .returned (.bool true) ∧ Below w.heap.size w w' := by
  have HX := Lib.hid h1
  have HY := Lib.hid h2
  clear h1 h2
  have hn' : (n : Int) ≤ 1048576 := by omega
  go_enter Try.func36, Try.ntmps36
  go_wp2
  go_loopw [5] (fun i wr => ∃ k m : Nat, k ≤ n ∧ i = .int .i64 k ∧ wr = w.drewN m) (fun i _ => n - (intOf i).toNat)
  case atStart => exact ⟨0, 0, Nat.zero_le _, rfl, rfl⟩
  case round =>
    obtain ⟨k, m, hk, rfl, hw⟩ := hrel
    by_cases hlt : k < n
    · obtain ⟨g1, o1, rfl, -, hc1⟩ : ∃ g off, a1 = some ⟨g, off, none⟩ ∧ g < B ∧ ∀ j, j < n → w.cell? ⟨g, off + j, none⟩ = some (.int .i64 (f j)) := by
        rcases HX.out with h | h
        · omega
        · exact h
      obtain ⟨g2, o2, rfl, -, hc2⟩ : ∃ g off, a2 = some ⟨g, off, none⟩ ∧ g < B ∧ ∀ j, j < n → w.cell? ⟨g, off + j, none⟩ = some (.int .i64 (f j)) := by
        rcases HY.out with h | h
        · omega
        · exact h
      have tl : (k : Int) < n := by omega
      have cx : wr.cell? ⟨g1, o1 + k, none⟩ = some (.int .i64 (f k)) := by rw [hw]; exact hc1 k hlt
      have cy : wr.cell? ⟨g2, o2 + k, none⟩ = some (.int .i64 (f k)) := by rw [hw]; exact hc2 k hlt
      have HW := Lib.hid hw
      clear hw hc1 hc2
      generalize f k = z at cx cy
      go_wp2
      go_quiet (fail)
      go_wp2
      go_roundw
      case rel => exact ⟨k + 1, _, by omega, by go_num, by rw [HW.out, World.drewN_drewN]⟩
      case measure => simp [intOf]; omega
    · obtain rfl : k = n := by omega
      have B : Hid (Below w.heap.size w wr) := Lib.hid (by rw [hw]; exact fdrewN (Below.refl _ _) _)
      clear hw
      go_wp2
      go_ret
      exact ⟨rfl, B.out⟩
theorem eqL_any {lo hi lo' hi' n : Nat} {v v' : Value} {f g : Nat → Int} {w : World} (hf : ∀ j, j < n → f j = g j) (hn : n ≤ 1048576) (h : PR 1 lo hi w v n (FL f)) (h' : PR 1 lo' hi' w v' n (FL g)) :
    Calls Try.prog 36 #[v, v'] w fun e w' => e = .returned (.bool true) ∧ Below w.heap.size w w' := by
  obtain ⟨a, c, rfl, h0⟩ := h.lr
  obtain ⟨a', c', rfl, h0'⟩ := h'.lr
  exact eqLS_any a a' n c c' g w.heap.size w (Nat.le_refl _) hn (h0.congr hf) h0'
set_option maxHeartbeats 2000000 in
theorem markLS_any (g cap n : Nat) (hn : n ≤ 1048576) (w : World) (ho : LMk g n 0 w) :
    Calls Try.prog 37 #[.slice (some ⟨g, 0, none⟩) n cap, .int .i64 1] w fun e w' => e = .returned (.int .i64 ((1 + n : Nat) : Int)) ∧ LMk g n n w' ∧ FOnl g w w' := by
  have HO := Lib.hid ho
  have hn' : (n : Int) ≤ 1048576 := by omega
  clear ho
  go_enter Try.func37, Try.ntmps37
  go_wp2
  go_loopw [1, 5] (fun q i wr => ∃ k : Nat, k ≤ n ∧ i = .int .i64 k ∧ q = .int .i64 ((1 + k : Nat) : Int) ∧ LMk g n k wr ∧ FOnl g w wr) (fun _ i _ => n - (intOf i).toNat)
  case atStart => exact ⟨0, Nat.zero_le _, rfl, rfl, HO.out, FOnl.refl _ _⟩
  case round =>
    obtain ⟨k, hk, rfl, rfl, hm, hb⟩ := hrel
    have HM := Lib.hid hm
    have HB := Lib.hid hb
    clear hm hb
    by_cases hlt : k < n
    · have hlt' : (k : Int) < n := by omega
      obtain ⟨x, hx⟩ := (HM.out.2 k hlt).1
      have hf := (HM.out.2 k hlt).2
      have HP : Hid (LMk g n (k + 1) (wr.setCell ⟨g, k, none⟩ (.int .i64 (1 + (k : Int))))) := Lib.hid (by
        have h := HM.out.put hlt
        rw [show (Value.int .i64 (1 + (k : Int))) = markL k from by unfold markL; push_cast; rfl]
        exact h)
      go_wp2
      go_roundw
      case rel => exact ⟨k + 1, by omega, by go_num, by go_num, HP.out, HB.out.put⟩
      case measure => simp [intOf]; omega
    · obtain rfl : k = n := by omega
      go_wp2
      go_ret
      exact ⟨by simp, HM.out, HB.out⟩
set_option maxHeartbeats 2000000 in
theorem heldLS_any (g cap n : Nat) (hn : n ≤ 1048576) (w : World) (ho : ∀ j, j < n → w.cell? ⟨g, j, none⟩ = some (markL j)) :
    Calls Try.prog 38 #[.slice (some ⟨g, 0, none⟩) n cap, .int .i64 1] w fun e w' => e = .returned (.int .i64 ((1 + n : Nat) : Int)) ∧ w = w' := by
  have HO := Lib.hid ho
  have hn' : (n : Int) ≤ 1048576 := by omega
  clear ho
  go_enter Try.func38, Try.ntmps38
  go_wp2
  go_loop [1, 5] (fun q i => ∃ k : Nat, k ≤ n ∧ i = .int .i64 k ∧ q = .int .i64 ((1 + k : Nat) : Int)) (fun _ i => n - (intOf i).toNat)
  case atStart => exact ⟨0, Nat.zero_le _, rfl, rfl⟩
  case round =>
    obtain ⟨k, hk, rfl, rfl⟩ := hrel
    by_cases hlt : k < n
    · have hlt' : (k : Int) < n := by omega
      have hx : w.cell? ⟨g, k, none⟩ = some (.int .i64 (1 + (k : Int))) := by
        rw [HO.out k hlt]; unfold markL; push_cast; rfl
      go_wp2
      go_round
      case rel => exact ⟨k + 1, by omega, by go_num, by go_num⟩
      case measure => simp [intOf]; omega
    · obtain rfl : k = n := by omega
      go_wp2
      go_ret
      exact ⟨by simp, rfl⟩
theorem markLNone_any (x : Option Addr) (c : Nat) (w : World) :
    Calls Try.prog 37 #[.slice x 0 c, .int .i64 1] w fun e w' => e = .returned (.int .i64 1) ∧ w = w' := by
  go_enter Try.func37, Try.ntmps37
  go_wp2
  refine wp_loop_rounds 1 ?_
  rw [rounds_succ]
  go_wp2
  go_ret
  exact ⟨rfl, rfl⟩
theorem heldLNone_any (x : Option Addr) (c : Nat) (w : World) :
    Calls Try.prog 38 #[.slice x 0 c, .int .i64 1] w fun e w' => e = .returned (.int .i64 1) ∧ w = w' := by
  go_enter Try.func38, Try.ntmps38
  go_wp2
  refine wp_loop_rounds 1 ?_
  rw [rounds_succ]
  go_wp2
  go_ret
  exact ⟨rfl, rfl⟩
theorem markL_any {lo hi n : Nat} {v : Value} {f : Nat → Int} {w : World} (hn : n ≤ 1048576) (h : PR 1 lo hi w v n (FL f)) :
    Calls Try.prog 37 #[v, .int .i64 1] w fun e w' => e = .returned (.int .i64 ((1 + n : Nat) : Int)) ∧ PR 1 lo hi w' v n markL ∧ OnlIn lo hi w w' := by
  obtain ⟨a, c, rfl, h0⟩ := h
  rcases h0 with rfl | ⟨g, rfl, h1, h2, h3, h4, h5⟩
  · exact (markLNone_any a c w).mono fun e w' h => ⟨h.1, ⟨a, c, rfl, .inl rfl⟩, by rw [← h.2]; exact OnlIn.refl _ _ _⟩
  · refine (markLS_any g c n hn w ⟨fun j hj => absurd hj (by omega), fun j hj => ⟨⟨f j, h4 j (by omega)⟩, h5 j (by omega)⟩⟩).mono ?_
    rintro e w' ⟨he, hm, ho⟩
    exact ⟨he, ⟨_, c, rfl, .inr ⟨g, rfl, h1, h2, by rw [ho.2.2.2.1]; exact h3, fun j hj => hm.1 j (by omega), fun j hj => (hm.2 j (by omega)).2⟩⟩, ho.onl h1 h2⟩
theorem heldL_any {lo hi n : Nat} {v : Value} {w : World} (hn : n ≤ 1048576) (h : PR 1 lo hi w v n markL) :
    Calls Try.prog 38 #[v, .int .i64 1] w fun e w' => e = .returned (.int .i64 ((1 + n : Nat) : Int)) ∧ w = w' := by
  obtain ⟨a, c, rfl, h0⟩ := h
  rcases h0 with rfl | ⟨g, rfl, h1, h2, h3, h4, h5⟩
  · exact (heldLNone_any a c w).mono fun e w' h => ⟨h.1, h.2⟩
  · exact heldLS_any g c n hn w fun j hj => h4 j (by omega)
/-! rows of int64 -/
def rowL (q : Nat → Int) (n : Nat) : List Value := (List.range n).map fun j => .int .i64 (q j)
theorem rowL_len (q : Nat → Int) (n : Nat) : (rowL q n).length = n := by simp [rowL]
theorem rowL_get (q : Nat → Int) (n j : Nat) (h : j < n) : (rowL q n)[j]? = some (.int .i64 (q j)) := by simp [rowL, h]
theorem rowL_one (q : Nat → Int) (n : Nat) : ∀ u ∈ rowL q n, u.oneCell' = true := by
  intro u hu
  simp only [rowL, List.mem_map] at hu
  obtain ⟨j, _, rfl⟩ := hu
  rfl
theorem rowL_snoc {q : Nat → Int} {n : Nat} {x : Int} (h : q n = x) : rowL q n ++ [.int .i64 x] = rowL q (n + 1) := by
  subst h
  unfold rowL
  rw [List.range_succ, List.map_append]
  rfl
def OwnL (base : Nat) (v : Value) (n : Nat) (q : Nat → Int) (w : World) : Prop := w.ownsRow base 2 1 v n (rowL q n)
theorem OwnL.alloc {base : Nat} {v : Value} {n : Nat} {q : Nat → Int} {w : World} (h : OwnL base v n q w) (o : Obj) : OwnL base v n q (w.alloc o) := World.ownsRow.alloc h o
theorem OwnL.nil (base : Nat) (q : Nat → Int) (w : World) : OwnL base (.slice none 0 0) 0 q w := World.ownsRow_nil _ _ _ _
theorem OwnL.made (q : Nat → Int) (w : World) (base : Nat) (hb : base ≤ w.heap.size) : OwnL base (.slice (some ⟨w.heap.size, 0, none⟩) 0 0) 0 q (w.alloc (.cells #[] 2)) :=
  ⟨rfl, .inr ⟨w.heap.size, 0, #[], rfl, hb, heap_alloc_new w _, Nat.le_refl _, Nat.zero_le _, rfl, rfl⟩⟩
theorem OwnL.pr {base : Nat} {v : Value} {n : Nat} {f : Nat → Int} {w : World} (h : OwnL base v n f w) : PR 1 base w.heap.size w v n (FL f) := by
  obtain ⟨a, cap, rfl, h0 | ⟨g, rfl, h1, h2, h3, h4, h5⟩⟩ := PR.of_own h
  · exact ⟨a, cap, rfl, .inl h0⟩
  · refine ⟨_, cap, rfl, .inr ⟨g, rfl, h1, h2, h3, fun j hj => ?_, h5⟩⟩
    rw [h4 j hj]
    unfold listF
    rw [rowL_get _ _ _ (by omega)]
    rfl
theorem info_i64' : (Try.prog.info? 2).map (fun i => (i.zero, i.size, i.bytes)) = some (some (.int .i64 0), 1, 8) := by kernel_rfl
/-- one number appended to a row of the call's own -/
theorem wpList_append_l {ops : Array Oper} {rest : List Oper} {o : Oper} {a : Act} {W : World} {Q : Exit → Act → World → Prop} (hgd : o.guard = none) (s x : Operand)
    (ho : o.op = .call { callee := .builtin .append, args := #[s, x], argTypes := #[56, 56] })
    (base : Nat) (v : Value) (n : Nat) (q : Nat → Int) (hs : a.eval s = v) (hown : OwnL base v n q W) (g c : Nat) (y : Int) (hx : a.eval x = .slice (some ⟨g, 0, none⟩) 1 c)
    (hc : W.cell? ⟨g, 0, none⟩ = some (.int .i64 y)) (hq : q n = y) (hl : n ≤ 10000000) (hbase : base ≤ W.heap.size)
    (w0 : World) (hb : Below base w0 W)
    (h : ∀ v' w', OwnL base v' (n + 1) q w' → Below base w0 w' → W.grownBy w' v.ownBlock → wpList Try.prog ops Q rest (a.put o.dst v') w') : wpList Try.prog ops Q (o :: rest) a W := by
  obtain ⟨i0, hi, hz0, hz1, hz2⟩ := info_parts info_i64'
  refine wpList_append_own W hgd s x 56 ho base 2 i0 (.int .i64 0) 1 8 Try.underlying56 hi hz0 hz1 hz2 rfl (by decide) v n (rowL q n) hs hown ⟨g, 0, none⟩ 1 c [.int .i64 y] hx rfl ?_ (by simp [Value.oneCell']) (by unfold maxLen; omega) (by omega) hbase ?_
  · intro j u hj
    cases j with
    | zero => simp at hj; subst hj; rw [Go.WideShapes.add_plain]; exact hc
    | succ j => simp at hj
  · intro v' w' h1 h2 _
    refine h v' w' ?_ ?_ h2
    · unfold OwnL
      rw [← rowL_snoc hq]
      exact h1
    · exact hb.grown h2 hbase (fun k hk => (World.ownsRow.lt hown k hk).1)
end Go.Proofs.Ytkijgadkgfapgaa
