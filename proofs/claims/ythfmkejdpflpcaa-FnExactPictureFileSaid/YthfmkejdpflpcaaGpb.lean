/-
  SEVERAL TEXTS IN ONE: XGd,XGe,XGk,XFc,XFk,XFi,XFm,XFn,XGa,XGb,XGl,XGf,XGg,XGh
-/
import Derived.Test.YthfmkejdpflpcaaGpa
import Derived.WalkSpells
import Derived.Lib.SliceRun
import Derived.Lib.AppendZerosOnto
import Derived.Deep.Upon
import Derived.Lib.SlBytesConst
/-
  SLICES OF BYTES, as the laws look at them: one that came in, opened; copied, compared, marked, held.
-/
namespace Go.Proofs.Ythfmkejdpflpcaa
open Go.ChangeShapes Go.WideShapes Go.ChangeAt Go.RowKit Go.Deep
/-- a slice of bytes below B -/
def YrR (B : Nat) (w : World) (a : Option Addr) (n : Nat) (f : Nat → Int) : Prop := n = 0 ∨ ∃ g off, a = some ⟨g, off, none⟩ ∧ g < B ∧ ∀ j, j < n → w.cell? ⟨g, off + j, none⟩ = some (.int .u8 (f j))
theorem YrR.below {B B' : Nat} {w w' : World} {a : Option Addr} {n : Nat} {f : Nat → Int} (h : YrR B w a n f) (hb : Below B w w') (hB : B ≤ B') : YrR B' w' a n f := by
  rcases h with h | ⟨g, off, ha, hg, hc⟩
  · exact .inl h
  · exact .inr ⟨g, off, ha, by omega, fun j hj => (hb.cell (p := ⟨g, off + j, none⟩) hg).trans (hc j hj)⟩
theorem YrR.mono' {B B' : Nat} {w : World} {a : Option Addr} {n : Nat} {f : Nat → Int} (h : YrR B w a n f) (hB : B ≤ B') : YrR B' w a n f := by
  rcases h with h | ⟨g, off, ha, hg, hc⟩
  · exact .inl h
  · exact .inr ⟨g, off, ha, by omega, hc⟩
theorem YrR.congr {B n : Nat} {w : World} {a : Option Addr} {f g : Nat → Int} (h : YrR B w a n f) (e : ∀ j, j < n → f j = g j) : YrR B w a n g := by
  rcases h with h | ⟨b, off, ha, hg, hc⟩
  · exact .inl h
  · exact .inr ⟨b, off, ha, hg, fun j hj => by rw [← e j hj]; exact hc j hj⟩
theorem YrR.onl {lo hi B n : Nat} {w w' : World} {a : Option Addr} {f : Nat → Int} (h : OnlIn lo hi w w') (hd : B ≤ lo) (hp : YrR B w a n f) : YrR B w' a n f := hp.below (h.below hd) (Nat.le_refl _)
theorem PR.yr {lo hi : Nat} {w : World} {v : Value} {n : Nat} {f : Nat → Int} (h : PR 1 lo hi w v n (FF f)) : ∃ a cap, v = .slice a n cap ∧ YrR w.heap.size w a n f := by
  obtain ⟨a, cap, rfl, h0 | ⟨g, rfl, h1, h2, h3, h4, h5⟩⟩ := h
  · exact ⟨a, cap, rfl, .inl h0⟩
  · exact ⟨_, cap, rfl, .inr ⟨g, 0, rfl, by omega, fun j hj => by rw [Nat.zero_add]; exact h4 j (by omega)⟩⟩
theorem yrow_of {H : Type} {enc : TypeId × Value → H} {W : World} {a : Option Addr} {len cap : Nat} {d : DataW H} {ps : List MemPlace} {spare : Nat → Bool} {base : Nat} {held : Bool}
    (h : DataW.Trod enc Try.prog W base spare held 95 (.slice a len cap) d ps) : ∃ f, ByF len f ∧ YrR W.heap.size W a len f ∧ len ≤ maxLen := by
  obtain ⟨fuel, hf⟩ := h
  rcases open_slice1 Try.underlying95 (by kernel_rfl) hf with ⟨hcs, _⟩ | ⟨x, l, c, m, n, V, D, Pl, hcs, _, hl, hcm, hm, _, hcell⟩
  · simp [Value.cells] at hcs
    obtain ⟨rfl, rfl, rfl⟩ := hcs
    exact ⟨fun _ => 0, fun j hj => by omega, .inl rfl, Nat.zero_le _⟩
  · simp [Value.cells] at hcs
    obtain ⟨rfl, rfl, rfl⟩ := hcs
    have hlm : len ≤ m := by rw [hm]; split <;> omega
    by_cases h0 : len = 0
    · exact ⟨fun _ => 0, fun j hj => by omega, .inl h0, by omega⟩
    · have hc0 := (hcell 0 (by omega)).1
      obtain ⟨b, off, spot⟩ := x
      have hspot : spot = none := by simpa [Addr.add] using World.cell?_spot hc0
      subst hspot
      have key : ∀ i, i < len → ∃ c : Int, (0 ≤ c ∧ c ≤ 255) ∧ W.cell? ⟨b, off + i, none⟩ = some (.int .u8 c) := fun i hi => by
        obtain ⟨c, c0, e⟩ := trodf_u8 (hcell i (by omega)).2
        refine ⟨c, c0, ?_⟩
        rw [← e, ← Go.WideShapes.add_plain]
        exact (hcell i (by omega)).1
      have hb : b < W.heap.size := by
        obtain ⟨z, _, hc1⟩ := key 0 (by omega)
        unfold World.cell? at hc1
        split at hc1
        · rename_i hb; exact (Array.getElem?_eq_some_iff.1 hb).1
        · cases hc1
      refine ⟨fun j => if hj : j < len then Classical.choose (key j hj) else 0, fun j hj => ?_, .inr ⟨b, off, rfl, hb, fun j hj => ?_⟩, by omega⟩
      · simp only [dif_pos hj]
        exact (Classical.choose_spec (key j hj)).1
      · simp only [dif_pos hj]
        exact (Classical.choose_spec (key j hj)).2
theorem madeU (n : Nat) : madeCells #[.int .u8 0] n = arr .u8 n zI := by
  apply Array.ext_getElem?
  intro i
  by_cases hi : i < n
  · rw [arr_get _ _ _ _ hi]
    simp [madeCells, hi, Nat.mod_one, zI]
  · rw [Array.getElem?_eq_none (by simp [madeCells]; omega), arr_none _ _ _ _ (by omega)]
theorem make_u8' (n : Nat) (h : n ≤ 1048576) (w : World) : (Instr.makeSlice 95 (.int .i64 (n : Int)) (.int .i64 (n : Int))).run Try.prog w = .ok (.slice (some ⟨w.heap.size, 0, none⟩) n n) (w.alloc (.cells (arr .u8 n zI) 5)) := by
  obtain ⟨i, hi, hz, hs, hb⟩ := info_parts info_u8'
  have hr := run_make (P := Try.prog) w 95 5 i _ Try.underlying95 hi hz .i64 .i64 n n (by omega) (Int.le_refl _) (by rw [hb]; omega) (by omega)
  simp only [Int.toNat_natCast, hs, Nat.mul_one] at hr
  rw [← madeU]
  exact hr
end Go.Proofs.Ythfmkejdpflpcaa
/-
  SLICES OF FRAMES THAT A CALL BUILDS ITSELF: append; slices.Clone.
-/
namespace Go.Proofs.Ythfmkejdpflpcaa
open Go.ChangeShapes Go.WideShapes Go.ChangeAt Go.RowKit
/-- v is a slice of the call's own that holds n frames f -/
def OwnFr (base : Nat) (v : Value) (n : Nat) (f : Nat → Int) (w : World) : Prop := w.ownsRow base 104 16 v n (rowU f (n * 16))
theorem OwnFr.alloc {base : Nat} {v : Value} {n : Nat} {f : Nat → Int} {w : World} (h : OwnFr base v n f w) (o : Obj) : OwnFr base v n f (w.alloc o) := World.ownsRow.alloc h o
theorem OwnFr.congr {base : Nat} {v : Value} {n : Nat} {q r : Nat → Int} {w : World} (h : OwnFr base v n q w) (e : ∀ j, j < n * 16 → q j = r j) : OwnFr base v n r w := by
  unfold OwnFr at *
  rw [← rowU_congr e]; exact h
theorem OwnFr.nil (base : Nat) (q : Nat → Int) (w : World) : OwnFr base (.slice none 0 0) 0 q w := World.ownsRow_nil _ _ _ _
theorem OwnFr.made (q : Nat → Int) (w : World) (base : Nat) (hb : base ≤ w.heap.size) : OwnFr base (.slice (some ⟨w.heap.size, 0, none⟩) 0 0) 0 q (w.alloc (.cells #[] 104)) :=
  ⟨rfl, .inr ⟨w.heap.size, 0, #[], rfl, hb, heap_alloc_new w _, Nat.le_refl _, Nat.zero_le _, rfl, rfl⟩⟩
theorem OwnFr.base {base b2 : Nat} {v : Value} {n : Nat} {q : Nat → Int} {w : World} (hb : base ≤ b2) (h : OwnFr b2 v n q w) : OwnFr base v n q w := by
  refine ⟨h.1, ?_⟩
  rcases h.2 with h0 | ⟨g, cap, cur, h1, h2, h3⟩
  · exact .inl h0
  · exact .inr ⟨g, cap, cur, h1, Nat.le_trans hb h2, h3⟩
theorem OwnFr.pr {base : Nat} {v : Value} {n : Nat} {f : Nat → Int} {w : World} (h : OwnFr base v n f w) : PR 16 base w.heap.size w v n (FF f) := by
  obtain ⟨a, cap, rfl, h0 | ⟨g, rfl, h1, h2, h3, h4, h5⟩⟩ := PR.of_own h
  · exact ⟨a, cap, rfl, .inl h0⟩
  · refine ⟨_, cap, rfl, .inr ⟨g, rfl, h1, h2, h3, fun j hj => ?_, h5⟩⟩
    rw [h4 j hj]
    unfold listF
    rw [rowU_get _ _ _ hj]
    rfl
theorem OwnU.pr {base : Nat} {v : Value} {n : Nat} {f : Nat → Int} {w : World} (h : OwnU base v n f w) : PR 1 base w.heap.size w v n (FF f) := by
  obtain ⟨a, cap, rfl, h0 | ⟨g, rfl, h1, h2, h3, h4, h5⟩⟩ := PR.of_own h
  · exact ⟨a, cap, rfl, .inl h0⟩
  · refine ⟨_, cap, rfl, .inr ⟨g, rfl, h1, h2, h3, fun j hj => ?_, h5⟩⟩
    rw [h4 j hj]
    unfold listF
    rw [rowU_get _ _ _ (by omega)]
    rfl
/-- append of frames that lie behind an address -/
theorem wpList_append_fr {ops : Array Oper} {rest : List Oper} {o : Oper} {a : Act} {W : World} {Q : Exit → Act → World → Prop} (hgd : o.guard = none) (s x : Operand)
    (ho : o.op = .call { callee := .builtin .append, args := #[s, x], argTypes := #[51, 51] })
    (base : Nat) (v : Value) (n : Nat) (q : Nat → Int) (hs : a.eval s = v) (hown : OwnFr base v n q W) (g off m c : Nat) (p : Nat → Int) (hx : a.eval x = .slice (some ⟨g, off, none⟩) m c)
    (hc : ∀ j, j < m * 16 → W.cell? ⟨g, off + j, none⟩ = some (.int .u8 (p j))) (hl : n + m ≤ 10000000) (hbase : base ≤ W.heap.size)
    (w0 : World) (hb : Below base w0 W)
    (h : ∀ v' w', OwnFr base v' (n + m) (catU q (n * 16) p) w' → Below base w0 w' → wpList Try.prog ops Q rest (a.put o.dst v') w') : wpList Try.prog ops Q (o :: rest) a W := by
  obtain ⟨i0, hi, hz0, hz1, hz2⟩ := info_parts info_fr
  refine wpList_append_own W hgd s x 51 ho base 104 i0 _ 16 16 Try.underlying51 hi hz0 hz1 hz2 rfl (by decide) v n (rowU q (n * 16)) hs hown ⟨g, off, none⟩ m c (rowU p (m * 16)) hx (by rw [rowU_len]) ?_ (rowU_one p _) (by unfold maxLen; omega) (by omega) hbase ?_
  · intro j u hj
    have hlt : j < m * 16 := by
      rcases Nat.lt_or_ge j (m * 16) with h | h
      · exact h
      · rw [List.getElem?_eq_none (by rw [rowU_len]; exact h)] at hj; cases hj
    rw [rowU_get _ _ _ hlt] at hj
    rw [Go.WideShapes.add_plain, hc j hlt]; exact hj
  · intro v' w' h1 h2 _
    refine h v' w' ?_ ?_
    · unfold OwnFr
      rw [Nat.add_mul, ← rowU_cat]
      exact h1
    · exact hb.grown h2 hbase (fun k hk => (World.ownsRow.lt hown k hk).1)
theorem toF_any {a : Option Addr} {cap n : Nat} {f : Nat → Int} {B : Nat} {w : World} (hB : B ≤ w.heap.size) (h : FrR B w a n f) (hl : n ≤ 1048576) :
    Calls Try.prog 50 #[.slice a n cap] w fun e w' => ∃ v, e = .returned v ∧ PR 16 w.heap.size w'.heap.size w' v n (FF f) ∧ Below w.heap.size w w' :=
  (toFS_any a cap n f B w hB h hl).mono fun e w' ⟨he, _, hb, hs, hr⟩ => ⟨_, he, ⟨_, n, rfl, .inr ⟨w.heap.size, rfl, Nat.le_refl _, hs, Nat.le_refl _, fun j hj => by
    rw [Lib.cell_of_heap hr j, rowFr_get _ _ _ _ (by omega), if_pos (by omega)]; rfl, fun j _ => Lib.frozen_of_heap hr j⟩⟩, hb⟩
end Go.Proofs.Ythfmkejdpflpcaa
/-
  CONTRACTS: slices.Grow at nil and slices.Concat of two slices of bytes.
-/
namespace Go.Proofs.Ythfmkejdpflpcaa
open Go.ChangeShapes Go.WideShapes Go.ChangeAt Go.RowKit
theorem catU_zero (q p : Nat → Int) : catU q 0 p = p := by funext j; unfold catU; rw [if_neg (by omega), Nat.sub_zero]
/-- bytes appended to a row of the call's own, nil or not -/
theorem run_append_y {base : Nat} {w : World} (ty : TypeId) (v : Value) (n : Nat) (q : Nat → Int) (hown : OwnU base v n q w) (a : Option Addr) (m c : Nat) (p : Nat → Int) (hx : YrR w.heap.size w a m p) (hl : n + m ≤ 100000000) (hbase : base ≤ w.heap.size) :
    ∃ v' w', (Builtin.append_ #[95, 95] ty #[v, .slice a m c]).run Try.prog w = .ok v' w' ∧ OwnU base v' (n + m) (catU q n p) w' ∧ w.grownBy w' v.ownBlock := by
  obtain ⟨i0, hi, hz0, hz1, hz2⟩ := info_parts info_u8'
  have key : ∀ ad : Addr, (∀ j u, (rowU p m)[j]? = some u → w.cell? (ad.add j) = some u) → ∃ v' w', (Builtin.append_ #[95, 95] ty #[v, .slice (some ad) m c]).run Try.prog w = .ok v' w' ∧ OwnU base v' (n + m) (catU q n p) w' ∧ w.grownBy w' v.ownBlock := by
    intro ad hc
    obtain ⟨v', w', hrun, r1, r2, -⟩ := run_append_own (P := Try.prog) w base 95 ty 5 i0 (.int .u8 0) 1 1 Try.underlying95 hi hz0 hz1 hz2 rfl (by decide) v n (rowU q n) hown ad m c (rowU p m) (by rw [rowU_len, Nat.mul_one]) hc (rowU_one p m) (by unfold maxLen; omega) (by omega) hbase
    refine ⟨v', w', hrun, ?_, r2⟩
    unfold OwnU
    rw [← rowU_cat]
    exact r1
  rcases hx with rfl | ⟨b, off, rfl, _, hc⟩
  · cases a with
    | some ad => exact key ad (fun j u hj => by rw [rowU_zero] at hj; cases hj)
    | none =>
      have hle : ∃ a c, v = .slice a n c ∧ n ≤ c := by
        rcases hown.2 with ⟨rfl, h0⟩ | ⟨g, cap, cur, rfl, h1, h2, h3, _⟩
        · exact ⟨none, 0, by rw [h0], by omega⟩
        · exact ⟨_, cap, rfl, h3⟩
      obtain ⟨a, c', rfl, hlc⟩ := hle
      refine ⟨_, _, run_append_nothing (P := Try.prog) w 95 95 ty 5 i0 Try.underlying95 hi a n c' hlc (.slice none 0 c) (Src.ofNil (P := Try.prog) w Try.underlying95 c), ?_, ⟨rfl, rfl, rfl, Nat.le_refl _, fun _ _ _ => rfl⟩⟩
      rw [Nat.add_zero]
      exact OwnU.congr hown fun j hj => (catU_lo hj).symm
  · refine key ⟨b, off, none⟩ fun j u hj => ?_
    have hlt : j < m := by
      rcases Nat.lt_or_ge j m with h | h
      · exact h
      · rw [List.getElem?_eq_none (by rw [rowU_len]; exact h)] at hj; cases hj
    rw [rowU_get _ _ _ hlt] at hj
    rw [Go.WideShapes.add_plain, hc j hlt]; exact hj
theorem grown_belowU {base : Nat} {v : Value} {n : Nat} {q : Nat → Int} {w w' : World} (h : OwnU base v n q w) (hg : w.grownBy w' v.ownBlock) (hb : base ≤ w.heap.size) : Below base w w' :=
  (Below.refl _ _).grown hg hb (fun k hk => (World.ownsRow.lt h k hk).1)
set_option maxRecDepth 100000 in
set_option maxHeartbeats 1000000 in
theorem ugrow_any (x : Int) (n : Nat) (hx : x = (n : Int)) (hn : n ≤ 4000000) (q : Nat → Int) (w : World) :
    Calls Try.prog 177 #[.slice none 0 0, .int .i64 x] w fun e w' => ∃ v, e = .returned v ∧ OwnU w.heap.size v 0 q w' ∧ Below w.heap.size w w' := by
  subst hx
  obtain ⟨i0, hi, hz0, hz1, hz2⟩ := info_parts info_u8'
  cases n with
  | zero =>
    go_enter Try.func177, Try.ntmps177
    go_wp2
    go_ret
    exact ⟨_, rfl, World.ownsRow_nil _ _ _ _, Below.refl _ _⟩
  | succ k =>
    have hk' : (k : Int) ≤ 3999999 := by omega
    have hrz : ∀ ty, (Builtin.append_ #[95, 3] ty #[.slice none 0 0, .int .i64 ((k : Int) + 1)]).run Try.prog w =
        .ok (.slice (some ⟨w.heap.size, 0, none⟩) (k + 1) (grownCap w (k + 1) 0 5)) (w.drew.alloc (.cells ((#[] : Array Value) ++ Builtin.zeroCells (Value.int .u8 0).cells (k + 1) ++ Builtin.zeroCells (Value.int .u8 0).cells (grownCap w (k + 1) 0 5 - (k + 1))) 5)) := fun ty => by
      have h := Lib.run_append_grow_zeros (P := Try.prog) w 95 3 ty 5 i0 (.int .u8 0) .i64 .i64 Try.underlying95 Try.underlying3 hi hz0 none 0 0 [] (run_firstCells_none w.drew i0.size 0 0 0) (k + 1) (by omega) (by rw [hz1]; decide) (by omega) (by omega) (by rw [hz2]; omega) (growslice_fits (by omega) (by rw [hz2]; omega))
      simp only [Nat.zero_add] at h
      exact h
    have hG : k + 1 ≤ grownCap w (k + 1) 0 5 := grownCap_ge w _ _ _
    have hGm := grownCap_le_maxLen w (k + 1) 0 5 (by unfold maxLen; omega)
    obtain ⟨G, hGe⟩ : ∃ G, grownCap w (k + 1) 0 5 = G := ⟨_, rfl⟩
    rw [hGe] at hrz hG hGm
    have hG63 : (G : Int) ≤ 9223372036854775807 := by unfold maxLen at hGm; omega
    have P : Hid ((fun e w' => ∃ v, e = Ending.returned v ∧ OwnU w.heap.size v 0 q w' ∧ Below w.heap.size w w') (.returned (.slice (some ⟨w.heap.size, 0, none⟩) 0 G)) (w.alloc (.cells (Builtin.zeroCells #[Value.int .u8 0] (k + 1) ++ Builtin.zeroCells #[Value.int .u8 0] (G - (k + 1))) 5)).drew) := Lib.hid
      ⟨_, rfl, ⟨by rfl, .inr ⟨w.heap.size, G, _, rfl, Nat.le_refl _, World.alloc_heap_new w _, Nat.zero_le _, hGm, by simp [size_zeroCells]; omega, by simp [rowU]⟩⟩, ((Below.refl _ w).alloc (Nat.le_refl _) _).drew⟩
    clear hGe hGm
    go_enter Try.func177, Try.ntmps177
    go_wp2_with (at_builtin; refine Lib.wpList_append_run _ rfl _ _ _ _ rfl _ _ rfl rfl _ _ (hrz _) ?_)
    all_goals
      go_ret
      exact P.out
set_option maxRecDepth 100000 in
set_option maxHeartbeats 2000000 in
theorem uconcat_any (g : Nat) (a1 a2 : Option Addr) (n1 n2 c1 c2 : Nat) (p1 p2 : Nat → Int) (h1 : n1 ≤ 2000000) (h2 : n2 ≤ 2000000) (w : World) (hg : g < w.heap.size) (k0 : w.cell? ⟨g, 0, none⟩ = some (.slice a1 n1 c1)) (k1 : w.cell? ⟨g, 1, none⟩ = some (.slice a2 n2 c2)) (r1 : YrR w.heap.size w a1 n1 p1) (r2 : YrR w.heap.size w a2 n2 p2) :
    Calls Try.prog 146 #[.slice (some ⟨g, 0, none⟩) 2 2] w fun e w' => ∃ v, e = .returned v ∧ OwnU w.heap.size v (n1 + n2) (catU p1 n1 p2) w' ∧ Below w.heap.size w w' := by
  have ha' : (n1 : Int) ≤ 2000000 := by omega
  have hb' : (n2 : Int) ≤ 2000000 := by omega
  have t1 : decide ((n1 : Int) + (n2 : Int) < 0) = false := by simp; omega
  have R1 := Lib.hid r1
  have R2 := Lib.hid r2
  clear r1 r2
  go_enter Try.func146, Try.ntmps146
  go_wp2
  refine wp_loop_rounds 3 ?_
  rw [rounds_succ]
  go_wp2
  rw [rounds_succ]
  go_wp2
  rw [rounds_succ]
  go_wp2_with fail
  refine (ugrow_any _ (n1 + n2) (by omega) (by omega) p1 w).mono ?_
  rintro e w1 ⟨v, rfl, O, B⟩
  have hs := B.size
  have h0' := (B.cell (p := ⟨g, 0, none⟩) hg).trans k0
  have h1' := (B.cell (p := ⟨g, 1, none⟩) hg).trans k1
  obtain ⟨v3, w3, hr3, O3, G3⟩ := run_append_y 95 v 0 p1 O a1 n1 c1 p1 ((R1.out.below B (Nat.le_refl _)).mono' B.size) (by omega) B.size
  have B3 := B.trans (grown_belowU O G3 B.size)
  have h0'' := (B3.cell (p := ⟨g, 0, none⟩) hg).trans k0
  have h1'' := (B3.cell (p := ⟨g, 1, none⟩) hg).trans k1
  obtain ⟨v4, w4, hr4, O4, G4⟩ := run_append_y 95 v3 _ _ O3 a2 n2 c2 p2 ((R2.out.below B3 (Nat.le_refl _)).mono' B3.size) (by omega) B3.size
  have B4 := B3.trans (grown_belowU O3 G4 B3.size)
  rw [catU_zero, Nat.zero_add] at O4
  have P : Hid ((fun e w' => ∃ v, e = Ending.returned v ∧ OwnU w.heap.size v (n1 + n2) (catU p1 n1 p2) w' ∧ Below w.heap.size w w') (.returned v4) w4) := Lib.hid ⟨v4, rfl, O4, B4⟩
  clear O O3 O4 G3 G4 B B3 B4 R1 R2
  go_wp2
  refine wp_loop_rounds 3 ?_
  rw [rounds_succ]
  go_wp2_with (at_builtin; refine Lib.wpList_append_run _ rfl _ _ _ _ rfl _ _ rfl rfl _ _ hr3 ?_)
  rw [rounds_succ]
  go_wp2_with (at_builtin; refine Lib.wpList_append_run _ rfl _ _ _ _ rfl _ _ rfl rfl _ _ hr4 ?_)
  rw [rounds_succ]
  go_wp2
  go_ret
  exact P.out
end Go.Proofs.Ythfmkejdpflpcaa
/-
  CONTRACTS: the check of a payload with an index: the specification's.
-/
namespace Go.Proofs.Ythfmkejdpflpcaa
open Go.ChangeShapes Go.WideShapes Go.ChangeAt Go.RowKit
theorem in09_yes (n l r : Int) (h1 : l ≤ n) (h2 : n ≤ r) (w : World) :
    Calls Try.prog 92 #[.int .i64 n, .int .i64 l, .int .i64 r] w fun e w' => e = .returned (.bool true) ∧ w = w' := by
  have g1 : decide (l ≤ n) = true := by simpa using h1
  have g2 : decide (n ≤ r) = true := by simpa using h2
  go_enter Try.func92, Try.ntmps92
  go_wp2
  go_ret
  exact ⟨rfl, rfl⟩
theorem in09_no (n l r : Int) (h : n < l ∨ r < n) (w : World) :
    Calls Try.prog 92 #[.int .i64 n, .int .i64 l, .int .i64 r] w fun e w' => e = .returned (.bool false) ∧ w = w' := by
  rcases h with h | h
  · have g1 : decide (l ≤ n) = false := by simp; omega
    go_enter Try.func92, Try.ntmps92
    go_wp2
    go_ret
    exact ⟨rfl, rfl⟩
  · by_cases hl : l ≤ n
    · have g1 : decide (l ≤ n) = true := by simpa using hl
      have g2 : decide (n ≤ r) = false := by simp; omega
      go_enter Try.func92, Try.ntmps92
      go_wp2
      go_ret
      exact ⟨rfl, rfl⟩
    · have g1 : decide (l ≤ n) = false := by simp; omega
      go_enter Try.func92, Try.ntmps92
      go_wp2
      go_ret
      exact ⟨rfl, rfl⟩

/-- one byte more is taken into the check -/
def ckS (c b : Int) : Int := bits .xor .u32 c (b % 4294967296) * 16777619 % 4294967296
/-- the check of the first k bytes -/
def ckF (q : Nat → Int) : Nat → Int
  | 0 => 2166136261
  | k + 1 => ckS (ckF q k) (q k)
theorem ckS_range (c b : Int) : 0 ≤ ckS c b ∧ ckS c b ≤ 4294967295 := by
  unfold ckS
  omega
theorem ckF_range (q : Nat → Int) (k : Nat) : 0 ≤ ckF q k ∧ ckF q k ≤ 4294967295 := by
  cases k with
  | zero => simp [ckF]
  | succ k => exact ckS_range _ _
theorem ckF_congr {q r : Nat → Int} : ∀ {k : Nat}, (∀ j, j < k → q j = r j) → ckF q k = ckF r k
  | 0, _ => rfl
  | k + 1, h => by
    show ckS (ckF q k) (q k) = ckS (ckF r k) (r k)
    rw [ckF_congr (fun j hj => h j (by omega)), h k (by omega)]
/-- the check of a payload with an index -/
def chk (i : Nat) (p : Nat → Int) : Nat := (ckF (catU (byW i) 4 p) 16).toNat
theorem chk_lt (i : Nat) (p : Nat → Int) : chk i p < 4294967296 := by
  have := ckF_range (catU (byW i) 4 p) 16
  unfold chk
  omega
theorem chk_int (i : Nat) (p : Nat → Int) : ckF (catU (byW i) 4 p) 16 = ((chk i p : Nat) : Int) := by
  have := ckF_range (catU (byW i) 4 p) 16
  unfold chk
  omega
theorem four_any (r : Nat) (hr : r < 4294967296) (base : Nat) (w : World) (hb : base ≤ w.heap.size) :
    Calls Try.prog 79 #[.int .u32 (r : Int)] w fun e w' => ∃ v, e = .returned v ∧ OwnU base v 4 (byW r) w' ∧ Below w.heap.size w w' := by
  have HB := Lib.hid hb
  clear hb hr
  go_enter Try.func79, Try.ntmps79
  go_wp2
  go_ret
  refine ⟨_, rfl, ⟨rfl, .inr ⟨w.heap.size, 4, _, rfl, HB.out, heap_alloc_new w _, Nat.le_refl _, by unfold maxLen; omega, rfl, rfl⟩⟩, (Below.refl _ _).alloc (Nat.le_refl _) _⟩
set_option maxRecDepth 8000 in
theorem appendWord_own (v : Value) (n : Nat) (q : Nat → Int) (base r : Nat) (w : World) (hn : n ≤ 10000000) (hb : base ≤ w.heap.size) (ho : OwnU base v n q w) :
    Calls Try.prog 175 #[v, .int .u32 (r : Int)] w fun e w' => ∃ v', e = .returned v' ∧ OwnU base v' (n + 4) (catU q n (byW r)) w' ∧ Below base w w' := by
  have HO := Lib.hid ho
  have HB := Lib.hid hb
  clear ho hb
  go_enter Try.func175, Try.ntmps175
  go_wp2_with (at_builtin; refine wpList_append_u rfl (.tmp 5) (.tmp 17) rfl base v n q rfl (HO.out.alloc _) w.heap.size 0 4 4 (byW r) rfl (fun j hj => by rw [Nat.zero_add]; have := cells4_at w r j _ (rowU_get _ _ _ hj); rwa [Go.WideShapes.add_plain, Nat.zero_add] at this) (by omega) (by have := HB.out; simp; omega) w ((Below.refl base w).alloc HB.out _) ?_; intro v' w' h1 h2; have H1 := Lib.hid h1; have H2 := Lib.hid h2; clear h1 h2)
  go_ret
  exact ⟨_, rfl, H1.out, H2.out⟩
set_option maxRecDepth 8000 in
theorem appendWord_full (g off n : Nat) (q : Nat → Int) (base r : Nat) (w : World) (hn : n ≤ 10000) (hb : base ≤ w.heap.size) (hg : g < w.heap.size) (hq : ∀ j, j < n → w.cell? ⟨g, off + j, none⟩ = some (.int .u8 (q j))) :
    Calls Try.prog 175 #[.slice (some ⟨g, off, none⟩) n n, .int .u32 (r : Int)] w fun e w' => ∃ v', e = .returned v' ∧ OwnU base v' (n + 4) (catU q n (byW r)) w' ∧ Below w.heap.size w w' := by
  have HB := Lib.hid hb
  have HQ : Hid (∀ j, j < n → (w.alloc (.cells #[.int .u8 ((r : Int) / 16777216 % 256), .int .u8 ((r : Int) / 65536 % 256), .int .u8 ((r : Int) / 256 % 256), .int .u8 ((r : Int) % 256)] 5)).cell? ⟨g, off + j, none⟩ = some (.int .u8 (q j))) := Lib.hid (fun j hj => by
    rw [((Below.refl _ w).alloc (Nat.le_refl _) _).cell (p := ⟨g, off + j, none⟩) hg]; exact hq j hj)
  clear hb hq hg
  go_enter Try.func175, Try.ntmps175
  go_wp2_with (at_builtin; refine wpList_append_full rfl (.tmp 5) (.tmp 17) rfl g off n q rfl HQ.out w.heap.size 0 4 4 (byW r) rfl (fun j hj => by rw [Nat.zero_add]; have := cells4_at w r j _ (rowU_get _ _ _ hj); rwa [Go.WideShapes.add_plain, Nat.zero_add] at this) (by omega) (by omega) w.heap.size (by simp) w ((Below.refl _ w).alloc (Nat.le_refl _) _) ?_; intro v' w' h1 h2; have H1 := Lib.hid h1; have H2 := Lib.hid h2; clear h1 h2)
  go_ret
  exact ⟨_, rfl, OwnU.base HB.out H1.out, H2.out⟩
end Go.Proofs.Ythfmkejdpflpcaa
/-
  CONTRACTS: the specification's check, and its CheckOf.
-/
namespace Go.Proofs.Ythfmkejdpflpcaa
open Go.ChangeShapes Go.WideShapes Go.ChangeAt Go.RowKit
theorem catU_same {q : Nat → Int} {n : Nat} : ∀ j, j < n + 1 → catU q n (fun _ => q n) j = q j := fun j hj => by
  unfold catU
  split
  · rfl
  · rw [show j = n by omega]
set_option maxRecDepth 8000 in
set_option maxHeartbeats 2000000 in
theorem l09Check_any (i : Nat) (p : Nat → Int) (hp : ByF 12 p) (hi : i < 4294967296) (w : World) :
    Calls Try.prog 142 #[.int .i64 (i : Int), .agg (Q12 p)] w fun e w' => e = .returned (.int .u32 (chk i p : Int)) ∧ Below w.heap.size w w' := by
  have hi' : (i : Int) < 4294967296 := by omega
  obtain ⟨w1, hw1⟩ : ∃ w1, w.alloc (.cells (Q12 p) 145) = w1 := ⟨_, rfl⟩
  have S0 : Hid (w1.heap[w.heap.size]? = some (.cells (Q12 p) 145 (0, 0))) := Lib.hid (by rw [← hw1]; exact World.alloc_heap_new w _)
  have Z1 : Hid (w1.heap.size = w.heap.size + 1) := Lib.hid (by rw [← hw1]; simp)
  have B0 : Hid (Below w.heap.size w w1) := Lib.hid (by rw [← hw1]; exact (Below.refl _ _).alloc (Nat.le_refl _) _)
  have FO := Lib.hid (four_any i hi (w.heap.size + 1) w1 (by have := Z1.out; omega))
  have HP := Lib.hid hp
  have QI : Hid (∃ q, catU (byW i) 4 p = q ∧ (∀ j, j < 4 → q j = byW i j) ∧ ∀ j, q (4 + j) = p j) := Lib.hid ⟨_, rfl, fun j hj => catU_lo hj, fun j => catU_hi _ _ _ _⟩
  obtain ⟨q, hq, hq1, hq2⟩ := QI.out
  have CK : Hid (ckF q 16 = (chk i p : Int)) := Lib.hid (by rw [← hq]; exact chk_int i p)
  have HQ1 := Lib.hid hq1
  have HQ2 := Lib.hid hq2
  clear hi hp QI hq hq1 hq2
  go_enter Try.func142, Try.ntmps142
  go_wp2_with fail
  refine Calls.mono (FO.out) ?_
  rintro e w2 ⟨v, rfl, h2, b2⟩
  have O2 : Hid (OwnU (w.heap.size + 1) v 4 q w2) := Lib.hid (h2.congr fun j hj => (HQ1.out j hj).symm)
  have B2 : Hid (Below (w.heap.size + 1) w1 w2) := Lib.hid (by have := Z1.out; rw [← this]; exact b2)
  clear h2 b2 FO hw1
  go_wp2_with fail
  go_loopw [6, 7] (fun a i wr => ∃ k : Nat, k ≤ 12 ∧ i = .int .i64 (k : Int) ∧ OwnU (w.heap.size + 1) a (4 + k) q wr ∧ Below (w.heap.size + 1) w1 wr) (fun _ i _ => 12 - (intOf i).toNat)
  case atStart => exact ⟨0, by omega, rfl, O2.out, B2.out⟩
  case round =>
    obtain ⟨k, hk, rfl, ho, hb⟩ := hrel
    have HO := Lib.hid ho
    have HB := Lib.hid hb
    have WZ : Hid (w.heap.size + 1 ≤ wr.heap.size) := Lib.hid (by have := hb.size; have := Z1.out; omega)
    clear ho hb O2 B2
    by_cases hlt : k < 12
    · have tk : (k : Int) < 12 := by omega
      have HK := Lib.hid hlt
      have c0 : wr.cell? ⟨w.heap.size, k, none⟩ = some (.int .u8 (q (4 + k))) := by
        rw [HB.out.cell (p := ⟨w.heap.size, k, none⟩) (by show w.heap.size < _; omega), HQ2.out k]
        exact (Lib.cell_of_heap S0.out k).trans (arr_get _ _ _ _ hlt)
      clear hlt hk
      obtain ⟨x, hx⟩ : ∃ x, q (4 + k) = x := ⟨_, rfl⟩
      have HX := Lib.hid hx
      rw [hx] at c0
      clear hx
      go_wp2_with (at_builtin; go_loud (refine wpList_append_u rfl _ _ rfl (w.heap.size + 1) _ (4 + k) q rfl (HO.out.alloc _) wr.heap.size 0 1 1 (fun _ => x) rfl (fun j hj => by obtain rfl : j = 0 := (by omega); exact (World.cell?_alloc_new _ _ _ _).trans rfl) (by have := HK.out; omega) (by have := WZ.out; rw [World.size_alloc]; omega) w1 (HB.out.alloc WZ.out _) ?_); intro v' w' h1 h2; have H1 := Lib.hid h1; have H2 := Lib.hid h2; clear h1 h2)
      go_roundw
      case rel => exact ⟨k + 1, HK.out, by go_num, (H1.out).congr (by rw [← HX.out]; exact catU_same), H2.out⟩
      case measure => have := HK.out; simp [intOf]; omega
    · obtain rfl : k = 12 := by omega
      clear hlt hk
      obtain ⟨g, cap, rfl, hcap, hg, hgs, hc⟩ := (show OwnU _ _ 16 q wr from HO.out).form (by omega)
      have HC := Lib.hid hc
      have WB : Hid (Below w.heap.size w wr) := Lib.hid (B0.out.trans (HB.out.mono (Nat.le_succ _)))
      have CZ : Hid (ckF q 0 = 2166136261) := Lib.hid rfl
      have SS : Hid (∀ k, ckF q (k + 1) = ckS (ckF q k) (q k)) := Lib.hid fun _ => rfl
      clear hc hcap hg hgs HO HB
      go_wp2_with fail
      go_loop [5, 8] (fun c i => ∃ k : Nat, k ≤ 16 ∧ i = .int .i64 (k : Int) ∧ c = .int .u32 (ckF q k)) (fun _ i => 16 - (intOf i).toNat)
      case atStart => exact ⟨0, by omega, rfl, by rw [CZ.out]⟩
      case round =>
        obtain ⟨k, hk, rfl, rfl⟩ := hrel
        by_cases hlt : k < 16
        · have tk : (k : Int) < 16 := by omega
          have HK := Lib.hid hlt
          have c0 : wr.cell? ⟨g, k, none⟩ = some (.int .u8 (q k)) := HC.out k hlt
          obtain ⟨x, hx⟩ : ∃ x, q k = x := ⟨_, rfl⟩
          have HX := Lib.hid hx
          rw [hx] at c0
          have SK := Lib.hid (SS.out k)
          obtain ⟨c, hcq⟩ : ∃ c, ckF q k = c := ⟨_, rfl⟩
          have HCQ := Lib.hid hcq
          rw [hcq]
          clear hx hcq hlt hk
          go_wp2
          go_round
          case rel => exact ⟨k + 1, HK.out, by go_num, by rw [SK.out, HCQ.out, HX.out]; rfl⟩
          case measure => have := HK.out; simp [intOf]; omega
        · obtain rfl : k = 16 := by omega
          clear hlt hk
          rw [CK.out]
          go_wp2
          go_ret
          exact ⟨rfl, WB.out⟩
end Go.Proofs.Ythfmkejdpflpcaa
/-
  CONTRACTS: CheckOf of both sides.
-/
namespace Go.Proofs.Ythfmkejdpflpcaa
open Go.ChangeShapes Go.WideShapes Go.ChangeAt Go.RowKit
/-- is it an index of a frame? -/
def inX (i : Int) : Bool := decide (0 ≤ i) && decide (i ≤ 699)
theorem inX_nat {i : Int} (h : inX i = true) : ∃ n : Nat, i = n ∧ n ≤ 699 := by
  simp [inX] at h
  exact ⟨i.toNat, by omega, by omega⟩
def chkN (i : Int) (p : Nat → Int) : Nat := if inX i then chk i.toNat p else 0
def codeX (i : Int) : Int := if inX i then 0 else 2
theorem not_listed {listed : Array Bool} {i : Nat} (h : listed.getD i true = false) : ¬ listed.getD i false = true := by
  intro h2
  rw [Array.getD_eq_getD_getElem?] at h h2
  cases hx : listed[i]? with
  | none => simp [hx] at h
  | some b => simp [hx] at h h2; rw [h] at h2; cases h2
theorem appendWord_nil (r base : Nat) (w : World) (hb : base ≤ w.heap.size) :
    Calls Try.prog 175 #[.slice none 0 0, .int .u32 (r : Int)] w fun e w' => ∃ v', e = .returned v' ∧ OwnU base v' 4 (byW r) w' ∧ Below base w w' :=
  (appendWord_own (.slice none 0 0) 0 (byW r) base r w (by omega) hb (OwnU.nil _ _ _)).mono fun e w' ⟨v, h1, h2, h3⟩ => ⟨v, h1, h2.congr fun j _ => by unfold catU; rw [if_neg (by omega), Nat.sub_zero], h3⟩
set_option maxRecDepth 8000 in
set_option maxHeartbeats 4000000 in
theorem iCheckOf_any (i : Int) (p : Nat → Int) (hp : ByF 12 p) (w : World) :
    Calls Try.prog 178 #[.int .i64 i, .agg (Q12 p)] w fun e w' => e = .returned (.tuple #[.int .u32 (chkN i p : Int), .int .i64 (codeX i)]) ∧ Below w.heap.size w w' := by
  have B0 : Hid (Below w.heap.size w (w.alloc (.cells (Q12 p) 145))) := Lib.hid ((Below.refl _ _).alloc (Nat.le_refl _) _)
  cases h : inX i
  · have H1 : Hid (chkN i p = 0) := Lib.hid (by unfold chkN; rw [h]; exact if_neg (by decide))
    have H2 : Hid (codeX i = 2) := Lib.hid (by unfold codeX; rw [h]; exact if_neg (by decide))
    rw [H1.out, H2.out]
    by_cases h0 : i < 0
    · clear h hp
      go_enter Try.func178, Try.ntmps178
      go_wp2
      go_ret2
      exact ⟨rfl, B0.out⟩
    · have h1 : 700 ≤ i := by simp [inX] at h; omega
      have h0' : 0 ≤ i := by omega
      clear h hp h0
      go_enter Try.func178, Try.ntmps178
      go_wp2
      go_ret2
      exact ⟨rfl, B0.out⟩
  · obtain ⟨n, rfl, hn⟩ := inX_nat h
    have H1 : Hid (chkN n p = chk n p) := Lib.hid (by unfold chkN; rw [if_pos h, Int.toNat_natCast])
    have H2 : Hid (codeX n = 0) := Lib.hid (by unfold codeX; rw [if_pos h])
    rw [H1.out, H2.out]
    clear B0 H1 H2 h
    obtain ⟨w1, hw1⟩ : ∃ w1, w.alloc (.cells (Q12 p) 145) = w1 := ⟨_, rfl⟩
    have B0 : Hid (Below w.heap.size w w1) := Lib.hid (by rw [← hw1]; exact (Below.refl _ _).alloc (Nat.le_refl _) _)
    have S0 : Hid (w1.heap[w.heap.size]? = some (.cells (Q12 p) 145 (0, 0))) := Lib.hid (by rw [← hw1]; exact World.alloc_heap_new w _)
    have Z1 : Hid (w1.heap.size = w.heap.size + 1) := Lib.hid (by rw [← hw1]; simp)
    have AW := Lib.hid (fun r W h => appendWord_nil r w1.heap.size W h)
    obtain ⟨q, hq⟩ : ∃ q, catU (byW n) 4 p = q := ⟨_, rfl⟩
    have QQ : Hid (∀ j, catU (byW n) 4 p j = q j) := Lib.hid fun j => by rw [hq]
    have CK : Hid (ckF q 16 = (chk n p : Int)) := Lib.hid (by rw [← hq]; exact chk_int n p)
    clear hp hq
    have hn' : (n : Int) ≤ 699 := by omega
    have hn0 : (0 : Int) ≤ (n : Int) := by omega
    clear hn
    go_enter Try.func178, Try.ntmps178
    go_wp2_with fail
    clear hw1
    refine wp_region_inv (by kernel_rfl) (fun listed act W => listed.size = 7 ∧ Below w1.heap.size w1 W ∧ ∃ x0 x1 x2 x3 x4 x5 x6, act = { tmps := #[.int .i64 (n : Int), .agg (Q12 p), undef, .pointer (some ⟨w.heap.size, 0, none⟩), .int .u32 0, .int .i64 0, .int .u32 2166136261, undef, undef, .int .i64 (n : Int), .bool (decide ((n : Int) < 0)), .bool (decide ((n : Int) < 0)), .int .i64 (n : Int), .bool (decide ((700 : Int) ≤ (n : Int))), .bool (decide ((n : Int) < 0) || decide ((700 : Int) ≤ (n : Int))), x0, x1, x2, x3, x4, x5, x6, undef, undef, undef, undef, undef, undef, undef, undef, undef, undef], defers := [] } ∧ (listed.getD 0 false = true → x0 = .int .i64 (n : Int)) ∧ (listed.getD 1 false = true → x1 = .int .u32 (n : Int)) ∧ (listed.getD 2 false = true → (listed.getD 4 false = true ∨ OwnU w1.heap.size x2 4 (byW n) W)) ∧ (listed.getD 3 false = true → x3 = .slice (some ⟨w.heap.size, 0, none⟩) 12 12) ∧ (listed.getD 4 false = true → (listed.getD 2 false = true ∧ ∃ g cap, x4 = .slice (some ⟨g, 0, none⟩) 16 cap ∧ w1.heap.size ≤ g ∧ ∀ j, j < 16 → W.cell? ⟨g, j, none⟩ = some (.int .u8 (q j)))) ∧ (listed.getD 5 false = true → x5 = .int .i64 16) ∧ (listed.getD 6 false = true → x6 = .int .i64 0)) (by kernel_rfl) ?h01 (fun _ _ _ h => h.1) ?hstep1 ?hend1
    case h01 =>
      refine ⟨rfl, (Below.refl _ _).drew, _, _, _, _, _, _, _, rfl, ?_, ?_, ?_, ?_, ?_, ?_, ?_⟩ <;> (intro h; exact absurd h (by decide))
    case hstep1 =>
      rintro listed act W i o ⟨hs, hB, x0, x1, x2, x3, x4, x5, x6, rfl, e0, e1, e2, e3, e4, e5, e6⟩ hun hio hpre
      have HB := Lib.hid hB
      have E0 := Lib.hid e0
      have E1 := Lib.hid e1
      have E2 := Lib.hid e2
      have E3 := Lib.hid e3
      have E4 := Lib.hid e4
      have E5 := Lib.hid e5
      have E6 := Lib.hid e6
      have HS := Lib.hid hs
      have HU := Lib.hid hun
      have PRE := Lib.hid hpre
      clear e0 e1 e2 e3 e4 e5 e6 hs hpre hB hun
      match i, hio with
      | 0, hio =>
        clear hio
        refine wpOp_by rfl fun K HK => ?_
        go_wp2_with (fail)
        exact HK.out _ _ ⟨by rw [Array.size_setIfInBounds, HS.out], HB.out, _, _, _, _, _, _, _, rfl, fun _ => rfl, fun h => E1.out ((listed_set h).resolve_left (by decide)), fun h => (E2.out ((listed_set h).resolve_left (by decide))).imp listed_keep id, fun h => E3.out ((listed_set h).resolve_left (by decide)), fun h => ⟨listed_keep (E4.out ((listed_set h).resolve_left (by decide))).1, (E4.out ((listed_set h).resolve_left (by decide))).2⟩, fun h => E5.out ((listed_set h).resolve_left (by decide)), fun h => E6.out ((listed_set h).resolve_left (by decide))⟩
      | 1, hio =>
        simp only [List.getElem?_toArray, List.getElem?_cons_succ, List.getElem?_cons_zero, Option.some.injEq] at hio
        subst hio
        have p0 := PRE.out ⟨0, .data⟩ (by simp) rfl
        obtain rfl := E0.out p0
        refine wpOp_by rfl fun K HK => ?_
        go_wp2_with (fail)
        exact HK.out _ _ ⟨by rw [Array.size_setIfInBounds, HS.out], HB.out, _, _, _, _, _, _, _, rfl, fun _ => rfl, fun _ => rfl, fun h => (E2.out ((listed_set h).resolve_left (by decide))).imp listed_keep id, fun h => E3.out ((listed_set h).resolve_left (by decide)), fun h => ⟨listed_keep (E4.out ((listed_set h).resolve_left (by decide))).1, (E4.out ((listed_set h).resolve_left (by decide))).2⟩, fun h => E5.out ((listed_set h).resolve_left (by decide)), fun h => E6.out ((listed_set h).resolve_left (by decide))⟩
      | 2, hio =>
        simp only [List.getElem?_toArray, List.getElem?_cons_succ, List.getElem?_cons_zero, Option.some.injEq] at hio
        subst hio
        have p1 := PRE.out ⟨1, .data⟩ (by simp) rfl
        obtain rfl := E1.out p1
        refine wpOp_by rfl fun K HK => ?_
        go_wp2_with fail
        refine Calls.mono (AW.out n W HB.out.size) ?_
        rintro e W' ⟨v2, rfl, h2, hb⟩
        have H2 := Lib.hid h2
        have HBB := Lib.hid hb
        clear h2 hb
        go_wp2
        exact HK.out _ _ ⟨by rw [Array.size_setIfInBounds, HS.out], HB.out.trans HBB.out, _, _, _, _, _, _, _, rfl, fun h => E0.out ((listed_set h).resolve_left (by decide)), fun _ => rfl, fun _ => .inr H2.out, fun h => E3.out ((listed_set h).resolve_left (by decide)), fun h => absurd (E4.out ((listed_set h).resolve_left (by decide))).1 (not_listed HU.out), fun h => E5.out ((listed_set h).resolve_left (by decide)), fun h => E6.out ((listed_set h).resolve_left (by decide))⟩
      | 3, hio =>
        clear hio
        refine wpOp_by rfl fun K HK => ?_
        go_wp2_with (fail)
        exact HK.out _ _ ⟨by rw [Array.size_setIfInBounds, HS.out], HB.out, _, _, _, _, _, _, _, rfl, fun h => E0.out ((listed_set h).resolve_left (by decide)), fun h => E1.out ((listed_set h).resolve_left (by decide)), fun h => (E2.out ((listed_set h).resolve_left (by decide))).imp listed_keep id, fun _ => rfl, fun h => ⟨listed_keep (E4.out ((listed_set h).resolve_left (by decide))).1, (E4.out ((listed_set h).resolve_left (by decide))).2⟩, fun h => E5.out ((listed_set h).resolve_left (by decide)), fun h => E6.out ((listed_set h).resolve_left (by decide))⟩
      | 4, hio =>
        simp only [List.getElem?_toArray, List.getElem?_cons_succ, List.getElem?_cons_zero, Option.some.injEq] at hio
        subst hio
        have p2 := PRE.out ⟨2, .data⟩ (by simp) rfl
        have p3 := PRE.out ⟨3, .data⟩ (by simp) rfl
        obtain rfl := E3.out p3
        have O2 := Lib.hid ((E2.out p2).resolve_left (not_listed HU.out))
        have P2 := Lib.hid p2
        clear p2
        refine wpOp_by rfl fun K HK => ?_
        refine wpList_append_u rfl (.tmp 17) (.tmp 18) rfl w1.heap.size _ 4 (byW n) rfl O2.out w.heap.size 0 12 12 p rfl (fun j hj => by rw [Nat.zero_add, HB.out.cell (p := ⟨w.heap.size, j, none⟩) (by show w.heap.size < _; have := Z1.out; omega)]; exact (Lib.cell_of_heap S0.out j).trans (arr_get _ _ _ _ hj)) (by omega) HB.out.size w1 HB.out ?_
        intro v4 W4 h1 h2
        have H4 := Lib.hid h1
        have HB4 := Lib.hid h2
        clear h1 h2
        go_wp2_with (fail)
        have F4 := Lib.hid (H4.out.form (by omega))
        exact HK.out _ _ ⟨by rw [Array.size_setIfInBounds, HS.out], HB4.out, _, _, _, _, _, _, _, rfl, fun h => E0.out ((listed_set h).resolve_left (by decide)), fun h => E1.out ((listed_set h).resolve_left (by decide)), fun _ => .inl (listed_new (by rw [HS.out]; decide)), fun _ => rfl, fun _ => ⟨listed_keep P2.out, by obtain ⟨g, cap, e1, e2, e3, e4, e5⟩ := F4.out; exact ⟨g, cap, e1, e3, fun j hj => by rw [e5 j hj, QQ.out]⟩⟩, fun h => E5.out ((listed_set h).resolve_left (by decide)), fun h => E6.out ((listed_set h).resolve_left (by decide))⟩
      | 5, hio =>
        simp only [List.getElem?_toArray, List.getElem?_cons_succ, List.getElem?_cons_zero, Option.some.injEq] at hio
        subst hio
        have p4 := PRE.out ⟨4, .data⟩ (by simp) rfl
        have E4x := Lib.hid (E4.out p4)
        obtain ⟨q4, g4, cap4, rfl, hg4, hc4⟩ := E4.out p4
        have HC4 := Lib.hid hc4
        clear q4 hg4 hc4
        refine wpOp_by rfl fun K HK => ?_
        go_wp2_with (fail)
        exact HK.out _ _ ⟨by rw [Array.size_setIfInBounds, HS.out], HB.out, _, _, _, _, _, _, _, rfl, fun h => E0.out ((listed_set h).resolve_left (by decide)), fun h => E1.out ((listed_set h).resolve_left (by decide)), fun h => (E2.out ((listed_set h).resolve_left (by decide))).imp listed_keep id, fun h => E3.out ((listed_set h).resolve_left (by decide)), fun h => ⟨listed_keep E4x.out.1, E4x.out.2⟩, fun _ => rfl, fun h => E6.out ((listed_set h).resolve_left (by decide))⟩
      | 6, hio =>
        clear hio
        refine wpOp_by rfl fun K HK => ?_
        go_wp2_with (fail)
        exact HK.out _ _ ⟨by rw [Array.size_setIfInBounds, HS.out], HB.out, _, _, _, _, _, _, _, rfl, fun h => E0.out ((listed_set h).resolve_left (by decide)), fun h => E1.out ((listed_set h).resolve_left (by decide)), fun h => (E2.out ((listed_set h).resolve_left (by decide))).imp listed_keep id, fun h => E3.out ((listed_set h).resolve_left (by decide)), fun h => ⟨listed_keep (E4.out ((listed_set h).resolve_left (by decide))).1, (E4.out ((listed_set h).resolve_left (by decide))).2⟩, fun h => E5.out ((listed_set h).resolve_left (by decide)), fun _ => rfl⟩
      | k + 7, hio => simp at hio
    case hend1 =>
      rintro listed act W1 ⟨hs, hB, x0, x1, x2, x3, x4, x5, x6, rfl, e0, e1, e2, e3, e4, e5, e6⟩ hall
      obtain rfl := e0 (hall 0 (by decide))
      obtain rfl := e1 (hall 1 (by decide))
      have e2 := e2 (hall 2 (by decide))
      obtain rfl := e3 (hall 3 (by decide))
      have e4 := e4 (hall 4 (by decide))
      obtain rfl := e5 (hall 5 (by decide))
      obtain rfl := e6 (hall 6 (by decide))
      obtain ⟨-, g, cap, rfl, hg, hc⟩ := e4
      clear e2 hall
      clear hs
      have HC := Lib.hid hc
      have WB : Hid (Below w.heap.size w W1) := Lib.hid (B0.out.trans (hB.mono (by have := Z1.out; omega)))
      have CZ : Hid (ckF q 0 = 2166136261) := Lib.hid rfl
      have SS : Hid (∀ k, ckF q (k + 1) = ckS (ckF q k) (q k)) := Lib.hid fun _ => rfl
      clear hc hg hB
      go_wp2_with fail
      go_loop [6, 8, 21] (fun c _ i => ∃ k : Nat, k ≤ 16 ∧ i = .int .i64 (k : Int) ∧ c = .int .u32 (ckF q k)) (fun _ _ i => 16 - (intOf i).toNat)
      case atStart => exact ⟨0, by omega, rfl, by rw [CZ.out]⟩
      case round =>
        obtain ⟨k, hk, rfl, rfl⟩ := hrel
        by_cases hlt : k < 16
        · have tk : (k : Int) < 16 := by omega
          have HK := Lib.hid hlt
          have c0 : W1.cell? ⟨g, k, none⟩ = some (.int .u8 (q k)) := HC.out k hlt
          obtain ⟨x, hx⟩ : ∃ x, q k = x := ⟨_, rfl⟩
          have HX := Lib.hid hx
          rw [hx] at c0
          have SK := Lib.hid (SS.out k)
          obtain ⟨c, hcq⟩ : ∃ c, ckF q k = c := ⟨_, rfl⟩
          have HCQ := Lib.hid hcq
          rw [hcq]
          clear hx hcq hlt hk
          go_wp2
          go_round
          case rel => exact ⟨k + 1, HK.out, by go_num, by rw [SK.out, HCQ.out, HX.out]; rfl⟩
          case measure => have := HK.out; simp [intOf]; omega
        · obtain rfl : k = 16 := by omega
          clear hlt hk
          rw [CK.out]
          go_wp2
          go_ret2
          exact ⟨rfl, WB.out⟩
end Go.Proofs.Ythfmkejdpflpcaa
/-
  CONTRACTS: payloads and frames that are made, on both sides.
-/
namespace Go.Proofs.Ythfmkejdpflpcaa
open Go.ChangeShapes Go.WideShapes Go.ChangeAt Go.RowKit
theorem results_cell_tmp_rowF {P : Program} {fn : Func} {p u : Tmp} {ty : TypeId} (h : fn.results = #[.cell p ty, .tmp u]) (tmps : Array Value) (w : World) (g : Nat) (t : TypeId) (cs : Array Value) (fr : Nat × Nat) (d : TypeDesc)
    (hp : tmps.getD p undef = .pointer (some ⟨g, 0, none⟩)) (hg : w.heap[g]? = some (.cells cs t fr)) (hu : P.underlying ty = some d) (hd : (match d with | .struct _ | .array _ _ => true | _ => false) = true) (hi : (P.info? ty).map (·.size) = some cs.size) :
    (results fn tmps).run P w = .ok (.tuple #[.agg cs, tmps.getD u undef]) w := by
  rw [results_cell_tmp h, hp]
  simp [asAddr, run_loadVar_row w g t ty cs fr d hg hu hd hi]
theorem run_arrayAtF {P : Program} (t e : TypeId) (n : Nat) (a : Option Addr) (len cap : Nat) (h : P.underlying t = some (.array n e)) (hl : n ≤ len) (w : World) : (Instr.arrayAt t (.slice a len cap)).run P w = .ok (.pointer a) w := by
  have : ¬ len < n := by omega
  simp [Instr.arrayAt, run_underlying h, this]
/-- the frame of a payload with an index -/
def mkfF (i : Nat) (p : Nat → Int) : Nat → Int := catU p 12 (byW (chk i p))
theorem mkfF_lo (i : Nat) (p : Nat → Int) {j : Nat} (h : j < 12) : mkfF i p j = p j := catU_lo h
theorem mkfF_hi (i : Nat) (p : Nat → Int) (j : Nat) : mkfF i p (12 + j) = byW (chk i p) j := catU_hi _ _ _ _
theorem mkfF_by (i : Nat) (p : Nat → Int) (hp : ByF 12 p) (n : Nat) : ByF n (mkfF i p) := fun j _ => by
  by_cases h : j < 12
  · rw [mkfF_lo _ _ h]; exact hp j h
  · rw [show j = 12 + (j - 12) by omega, mkfF_hi]
    exact byW_By _ (j - 12 + 1) _ (by omega)
def mkX (i : Int) (p : Nat → Int) : Nat → Int := if inX i then mkfF i.toNat p else zI
set_option maxRecDepth 20000 in
set_option maxHeartbeats 2000000 in
theorem sPay_any (f : Nat → Int) (w : World) :
    Calls Try.prog 179 #[.agg (Q16 f)] w fun e w' => e = .returned (.agg (Q12 f)) ∧ Below w.heap.size w w' := by
  obtain ⟨Z, hZ⟩ : ∃ Z, Z = Q12 zI := ⟨_, rfl⟩
  have ZE : Z = #[Value.int .u8 0, Value.int .u8 0, Value.int .u8 0, Value.int .u8 0, Value.int .u8 0, Value.int .u8 0, Value.int .u8 0, Value.int .u8 0, Value.int .u8 0, Value.int .u8 0, Value.int .u8 0, Value.int .u8 0] := hZ
  obtain ⟨w1, hw1⟩ : ∃ w1, ((w.alloc (.cells (Q16 f) 104)).alloc (.cells Z 145)).alloc (.cells Z 145) = w1 := ⟨_, rfl⟩
  have Z1 : Hid (w1.heap.size = w.heap.size + 1 + 1 + 1) := Lib.hid (by rw [← hw1]; simp)
  have B0 : Hid (Below w.heap.size w w1) := Lib.hid (by rw [← hw1]; exact (((Below.refl _ w).alloc (Nat.le_refl _) _).alloc (by simp) _).alloc (by simp; omega) _)
  have H0 : Hid (w1.heap[w.heap.size]? = some (.cells (Q16 f) 104 (0, 0))) := Lib.hid (by rw [← hw1]; exact ((Below.heap_alloc _ _ _ (by simp; omega)).trans (Below.heap_alloc _ _ _ (by simp))).trans (World.alloc_heap_new w _))
  have H1 : Hid (w1.heap[w.heap.size + 1]? = some (.cells Z 145 (0, 0))) := Lib.hid (by
    rw [← hw1]
    refine (Below.heap_alloc _ _ _ (by simp)).trans ?_
    have := World.alloc_heap_new (w.alloc (.cells (Q16 f) 104)) (.cells Z 145)
    rw [World.size_alloc] at this
    exact this)
  have H2 : Hid (w1.heap[w.heap.size + 1 + 1]? = some (.cells Z 145 (0, 0))) := Lib.hid (by
    rw [← hw1]
    have := World.alloc_heap_new ((w.alloc (.cells (Q16 f) 104)).alloc (.cells Z 145)) (.cells Z 145)
    rw [World.size_alloc, World.size_alloc] at this
    exact this)
  have ZS : Z.size = 12 := by rw [hZ]; exact arr_size _ _ _
  have ZO : Z.all (·.oneCell') = true := by rw [hZ]; exact arr_cells _ _ _
  have H2' : Hid (w1.heap[w.heap.size + 1 + 1]? = some (.cells (Q12 (mixI zI f 0)) 145 (0, 0))) := Lib.hid (by rw [mixI_zero, ← hZ]; exact H2.out)
  have SS : Hid (w1.setRow (w.heap.size + 1 + 1) Z = w1) := Lib.hid (setRow_self _ _ _ _ _ H2.out)
  rw [ZE] at H1 H2 hw1 ZS ZO SS
  clear ZE hZ
  go_enter Try.func179, Try.ntmps179
  go_wp2_with (refine wpList_store_row rfl 145 _ _ rfl (w.heap.size + 1 + 1) _ rfl rfl 145 _ H2.out (p12_info _ ZS) rfl ZO ?_; rw [SS.out])
  clear hw1 SS H2
  go_loopw [4] (fun i wr => ∃ k : Nat, k ≤ 12 ∧ i = .int .i64 (k : Int) ∧ wr.heap[w.heap.size + 1 + 1]? = some (.cells (Q12 (mixI zI f k)) 145 (0, 0)) ∧ wr.heap[w.heap.size]? = some (.cells (Q16 f) 104 (0, 0)) ∧ wr.heap[w.heap.size + 1]? = some (.cells #[Value.int .u8 0, Value.int .u8 0, Value.int .u8 0, Value.int .u8 0, Value.int .u8 0, Value.int .u8 0, Value.int .u8 0, Value.int .u8 0, Value.int .u8 0, Value.int .u8 0, Value.int .u8 0, Value.int .u8 0] 145 (0, 0)) ∧ Below w.heap.size w wr) (fun i _ => 12 - (intOf i).toNat)
  case atStart => exact ⟨0, Nat.zero_le _, rfl, H2'.out, H0.out, H1.out, B0.out⟩
  case round =>
    obtain ⟨k, hk, rfl, h2, h0, h1, hB⟩ := hrel
    have K2 := Lib.hid h2
    have K0 := Lib.hid h0
    have K1 := Lib.hid h1
    have KB := Lib.hid hB
    clear h2 h0 h1 hB H0 H1 H2' B0
    by_cases hlt : k < 12
    · have t1 : (k : Int) < 12 := by omega
      have HK := Lib.hid hlt
      have c0 : wr.cell? ⟨w.heap.size, k, none⟩ = some (.int .u8 (f k)) := (Lib.cell_of_heap K0.out k).trans (arr_get _ _ _ _ (by omega))
      have c2 : wr.cell? ⟨w.heap.size + 1 + 1, k, none⟩ = some (.int .u8 (mixI zI f k k)) := (Lib.cell_of_heap K2.out k).trans (arr_get _ _ _ _ hlt)
      have f2 : wr.frozen? ⟨w.heap.size + 1 + 1, k, none⟩ = false := Lib.frozen_of_heap K2.out k
      generalize mixI zI f k k = v at c2
      clear hlt hk
      go_wp2
      go_roundw
      case rel => exact ⟨k + 1, by have := HK.out; omega, by go_num, by rw [fset_at K2.out, arr_set _ _ _ _ _ HK.out, mixI_step], by rw [fset_far (by omega)]; exact K0.out, by rw [fset_far (by omega)]; exact K1.out, KB.out.setCell (p := ⟨w.heap.size + 1 + 1, _, none⟩) (by simp; omega) _⟩
      case measure => have := HK.out; simp [intOf]; omega
    · obtain rfl : k = 12 := by omega
      have G2 : Hid (wr.heap[w.heap.size + 1 + 1]? = some (.cells (Q12 f) 145 (0, 0))) := Lib.hid (by have := K2.out; rwa [show Q12 (mixI zI f 12) = Q12 f from arr_mix .u8 12 zI f] at this)
      clear K2 hk hlt
      go_wp2_with (first | (refine wpList_load_row rfl 145 _ rfl (w.heap.size + 1 + 1) rfl 145 _ _ _ G2.out Try.underlying145 rfl (p12_info _ (arr_size _ _ _)) ?_) | (refine wpList_store_row rfl 145 _ _ rfl (w.heap.size + 1) (Q12 f) rfl rfl 145 _ K1.out (p12_info _ rfl) rfl (arr_cells _ _ _) ?_))
      refine bodyPost_ret (v := .agg (Q12 f)) ?_ rfl ⟨rfl, ?_⟩
      · exact results_cell_row Try.results179 _ _ (w.heap.size + 1) _ _ _ _ rfl (setRow_heap _ _ _ _ _ _ K1.out) Try.underlying145 rfl (p12_info _ (arr_size _ _ _))
      · exact below_setRow KB.out (by omega) _
set_option maxRecDepth 20000 in
set_option maxHeartbeats 2000000 in
theorem iPay_any (f : Nat → Int) (w : World) :
    Calls Try.prog 181 #[.agg (Q16 f)] w fun e w' => e = .returned (.agg (Q12 f)) ∧ Below w.heap.size w w' := by
  obtain ⟨w1, hw1⟩ : ∃ w1, (w.alloc (.cells (Q16 f) 104)).alloc (.cells #[Value.int .u8 0, Value.int .u8 0, Value.int .u8 0, Value.int .u8 0, Value.int .u8 0, Value.int .u8 0, Value.int .u8 0, Value.int .u8 0, Value.int .u8 0, Value.int .u8 0, Value.int .u8 0, Value.int .u8 0] 145) = w1 := ⟨_, rfl⟩
  have B0 : Hid (Below w.heap.size w w1) := Lib.hid (by rw [← hw1]; exact ((Below.refl _ w).alloc (Nat.le_refl _) _).alloc (by simp) _)
  have H0 : Hid (w1.heap[w.heap.size]? = some (.cells (Q16 f) 104 (0, 0))) := Lib.hid (by rw [← hw1]; exact (Below.heap_alloc _ _ _ (by simp)).trans (World.alloc_heap_new w _))
  have H1 : Hid (w1.heap[w.heap.size + 1]? = some (.cells #[Value.int .u8 0, Value.int .u8 0, Value.int .u8 0, Value.int .u8 0, Value.int .u8 0, Value.int .u8 0, Value.int .u8 0, Value.int .u8 0, Value.int .u8 0, Value.int .u8 0, Value.int .u8 0, Value.int .u8 0] 145 (0, 0))) := Lib.hid (by
    rw [← hw1]
    have := World.alloc_heap_new (w.alloc (.cells (Q16 f) 104)) (.cells #[Value.int .u8 0, Value.int .u8 0, Value.int .u8 0, Value.int .u8 0, Value.int .u8 0, Value.int .u8 0, Value.int .u8 0, Value.int .u8 0, Value.int .u8 0, Value.int .u8 0, Value.int .u8 0, Value.int .u8 0] 145)
    rw [World.size_alloc] at this
    exact this)
  have hat := fun W => run_arrayAtF (P := Try.prog) 145 _ 12 (some ⟨w.heap.size, 0, none⟩) 16 16 Try.underlying145 (by omega) W
  go_enter Try.func181, Try.ntmps181
  go_wp2_with (first | (refine wpList_load_part rfl 145 _ rfl w.heap.size 0 rfl (Q12 f) _ (fun j v e => by
      have hj : j < 12 := by
        rcases Nat.lt_or_ge j 12 with h | h
        · exact h
        · rw [arr_none _ _ _ _ h] at e; cases e
      rw [Nat.zero_add, Lib.cell_of_heap H0.out, arr_get _ _ _ _ (by omega), ← e, arr_get _ _ _ _ hj]) Try.underlying145 rfl (p12_info _ (arr_size _ _ _)) ?_) | (refine wpList_store_row rfl 145 _ _ rfl (w.heap.size + 1) (Q12 f) rfl rfl 145 _ H1.out (p12_info _ rfl) rfl (arr_cells _ _ _) ?_))
  refine bodyPost_ret (v := .agg (Q12 f)) ?_ rfl ⟨rfl, ?_⟩
  · exact results_cell_row Try.results181 _ _ (w.heap.size + 1) _ _ _ _ rfl (setRow_heap _ _ _ _ _ _ H1.out) Try.underlying145 rfl (p12_info _ (arr_size _ _ _))
  · exact below_setRow B0.out (by omega) _
end Go.Proofs.Ythfmkejdpflpcaa
/-
  CONTRACTS: frames that are made, on both sides.
-/
namespace Go.Proofs.Ythfmkejdpflpcaa
open Go.ChangeShapes Go.WideShapes Go.ChangeAt Go.RowKit
theorem zcell_set (w : World) (g k : Nat) (h : k ≠ g) (x : Nat) (v : Value) (j : Nat) : (w.setCell ⟨g, x, none⟩ v).cell? ⟨k, j, none⟩ = w.cell? ⟨k, j, none⟩ := by
  unfold World.cell?
  simp only
  rw [fset_far h]
set_option maxRecDepth 20000 in
set_option maxHeartbeats 4000000 in
theorem l09Make_any (i : Nat) (p : Nat → Int) (hp : ByF 12 p) (hi : i < 4294967296) (w : World) :
    Calls Try.prog 122 #[.int .i64 (i : Int), .agg (Q12 p)] w fun e w' => e = .returned (.agg (Q16 (mkfF i p))) ∧ Below w.heap.size w w' := by
  obtain ⟨Z, hZ⟩ : ∃ Z, Z = Q16 zI := ⟨_, rfl⟩
  have ZE : Z = #[Value.int .u8 0, Value.int .u8 0, Value.int .u8 0, Value.int .u8 0, Value.int .u8 0, Value.int .u8 0, Value.int .u8 0, Value.int .u8 0, Value.int .u8 0, Value.int .u8 0, Value.int .u8 0, Value.int .u8 0, Value.int .u8 0, Value.int .u8 0, Value.int .u8 0, Value.int .u8 0] := hZ
  obtain ⟨m, hm⟩ : ∃ m, mkfF i p = m := ⟨_, rfl⟩
  have M0 : Hid (∀ j, j < 12 → m j = p j) := Lib.hid fun j hj => by rw [← hm]; exact mkfF_lo _ _ hj
  have M1 : Hid (∀ j, m (12 + j) = byW (chk i p) j) := Lib.hid fun j => by rw [← hm]; exact mkfF_hi _ _ _
  have CK := Lib.hid (l09Check_any i p hp hi)
  have FO := Lib.hid (fun base w h => four_any (chk i p) (chk_lt i p) base w h)
  obtain ⟨c, hc⟩ : ∃ c, chk i p = c := ⟨_, rfl⟩
  rw [hc] at M1 CK FO
  rw [hm]
  clear hm hc hp hi
  obtain ⟨w1, hw1⟩ : ∃ w1, ((w.alloc (.cells (Q12 p) 145)).alloc (.cells Z 104)).alloc (.cells Z 104) = w1 := ⟨_, rfl⟩
  have B0 : Hid (Below w.heap.size w w1) := Lib.hid (by rw [← hw1]; exact (((Below.refl _ w).alloc (Nat.le_refl _) _).alloc (by simp) _).alloc (by simp; omega) _)
  have H0 : Hid (w1.heap[w.heap.size]? = some (.cells (Q12 p) 145 (0, 0))) := Lib.hid (by rw [← hw1]; exact ((Below.heap_alloc _ _ _ (by simp; omega)).trans (Below.heap_alloc _ _ _ (by simp))).trans (World.alloc_heap_new w _))
  have H1 : Hid (w1.heap[w.heap.size + 1]? = some (.cells Z 104 (0, 0))) := Lib.hid (by
    rw [← hw1]
    refine (Below.heap_alloc _ _ _ (by simp)).trans ?_
    have := World.alloc_heap_new (w.alloc (.cells (Q12 p) 145)) (.cells Z 104)
    rw [World.size_alloc] at this
    exact this)
  have H2 : Hid (w1.heap[w.heap.size + 1 + 1]? = some (.cells Z 104 (0, 0))) := Lib.hid (by
    rw [← hw1]
    have := World.alloc_heap_new ((w.alloc (.cells (Q12 p) 145)).alloc (.cells Z 104)) (.cells Z 104)
    rw [World.size_alloc, World.size_alloc] at this
    exact this)
  have ZS : Z.size = 16 := by rw [hZ]; exact arr_size _ _ _
  have ZO : Z.all (·.oneCell') = true := by rw [hZ]; exact arr_cells _ _ _
  have H2' : Hid (w1.heap[w.heap.size + 1 + 1]? = some (.cells (Q16 (mixI zI m 0)) 104 (0, 0))) := Lib.hid (by rw [mixI_zero, ← hZ]; exact H2.out)
  have SS : Hid (w1.setRow (w.heap.size + 1 + 1) Z = w1) := Lib.hid (setRow_self _ _ _ _ _ H2.out)
  rw [ZE] at H1 H2 hw1 ZS ZO SS
  clear ZE hZ
  go_enter Try.func122, Try.ntmps122
  go_wp2_with (refine wpList_store_row rfl 104 _ _ rfl (w.heap.size + 1 + 1) _ rfl rfl 104 _ H2.out (fr_info _ ZS) rfl ZO ?_; rw [SS.out])
  clear hw1 SS H2
  go_loopw [6] (fun i wr => ∃ k : Nat, k ≤ 12 ∧ i = .int .i64 (k : Int) ∧ wr.heap[w.heap.size + 1 + 1]? = some (.cells (Q16 (mixI zI m k)) 104 (0, 0)) ∧ wr.heap[w.heap.size]? = some (.cells (Q12 p) 145 (0, 0)) ∧ wr.heap[w.heap.size + 1]? = some (.cells #[Value.int .u8 0, Value.int .u8 0, Value.int .u8 0, Value.int .u8 0, Value.int .u8 0, Value.int .u8 0, Value.int .u8 0, Value.int .u8 0, Value.int .u8 0, Value.int .u8 0, Value.int .u8 0, Value.int .u8 0, Value.int .u8 0, Value.int .u8 0, Value.int .u8 0, Value.int .u8 0] 104 (0, 0)) ∧ Below w.heap.size w wr) (fun i _ => 12 - (intOf i).toNat)
  case atStart => exact ⟨0, Nat.zero_le _, rfl, H2'.out, H0.out, H1.out, B0.out⟩
  case round =>
    obtain ⟨k, hk, rfl, h2, h0, h1, hB⟩ := hrel
    have K2 := Lib.hid h2
    have K0 := Lib.hid h0
    have K1 := Lib.hid h1
    have KB := Lib.hid hB
    clear h2 h0 h1 hB H0 H1 H2' B0
    by_cases hlt : k < 12
    · have t1 : (k : Int) < 12 := by omega
      have HK := Lib.hid hlt
      have c0 : wr.cell? ⟨w.heap.size, k, none⟩ = some (.int .u8 (m k)) := by rw [M0.out k hlt]; exact (Lib.cell_of_heap K0.out k).trans (arr_get _ _ _ _ hlt)
      have c2 : wr.cell? ⟨w.heap.size + 1 + 1, k, none⟩ = some (.int .u8 (mixI zI m k k)) := (Lib.cell_of_heap K2.out k).trans (arr_get _ _ _ _ (by omega))
      have f2 : wr.frozen? ⟨w.heap.size + 1 + 1, k, none⟩ = false := Lib.frozen_of_heap K2.out k
      generalize mixI zI m k k = v at c2
      clear hlt hk
      go_wp2
      go_roundw
      case rel => exact ⟨k + 1, by have := HK.out; omega, by go_num, by rw [fset_at K2.out, arr_set _ _ _ _ _ (by have := HK.out; omega), mixI_step], by rw [fset_far (by omega)]; exact K0.out, by rw [fset_far (by omega)]; exact K1.out, KB.out.setCell (p := ⟨w.heap.size + 1 + 1, _, none⟩) (by simp; omega) _⟩
      case measure => have := HK.out; simp [intOf]; omega
    · obtain rfl : k = 12 := by omega
      have LZ : Hid (w.heap.size + 1 + 1 < wr.heap.size) := Lib.hid (Array.getElem?_eq_some_iff.1 K2.out).1
      clear hlt hk
      go_wp2_with (refine wpList_load_row rfl 145 _ rfl w.heap.size rfl 145 _ _ _ K0.out Try.underlying145 rfl (p12_info _ (arr_size _ _ _)) ?_)
      refine (CK.out _).mono ?_
      rintro e w2 ⟨rfl, b2⟩
      have P2 := Lib.hid ((b2.block _ (by have := LZ.out; omega)).trans K2.out)
      have P1 := Lib.hid ((b2.block (w.heap.size + 1) (by have := LZ.out; omega)).trans K1.out)
      have PB := Lib.hid (KB.out.trans (b2.mono (by have := LZ.out; omega)))
      have PZ : Hid (w.heap.size + 1 + 1 < w2.heap.size) := Lib.hid (by have := LZ.out; have := b2.size; omega)
      clear b2 K0 K1 K2 KB LZ CK
      go_wp2_with fail
      refine Calls.mono (FO.out w2.heap.size w2 (Nat.le_refl _)) ?_
      rintro e w3 ⟨v, rfl, h3, b3⟩
      obtain ⟨g, cap, rfl, -, hg, -, hc3⟩ := h3.form (by omega)
      have C3 := Lib.hid hc3
      have G3 : Hid (w.heap.size + 1 + 1 < g) := Lib.hid (by have := PZ.out; omega)
      have Q2 : Hid (w3.heap[w.heap.size + 1 + 1]? = some (.cells (Q16 (mixI zI m (12 + 0))) 104 (0, 0))) := Lib.hid ((b3.block _ (by have := PZ.out; omega)).trans P2.out)
      have Q1 := Lib.hid ((b3.block (w.heap.size + 1) (by have := PZ.out; omega)).trans P1.out)
      have QB := Lib.hid (PB.out.trans (b3.mono (by have := PZ.out; omega)))
      clear b3 P2 P1 PB PZ h3 hg hc3 FO
      go_wp2_with fail
      go_loopw [8] (fun i wr => ∃ k : Nat, k ≤ 4 ∧ i = .int .i64 (k : Int) ∧ wr.heap[w.heap.size + 1 + 1]? = some (.cells (Q16 (mixI zI m (12 + k))) 104 (0, 0)) ∧ (∀ j, j < 4 → wr.cell? ⟨g, j, none⟩ = some (.int .u8 (byW c j))) ∧ wr.heap[w.heap.size + 1]? = some (.cells #[Value.int .u8 0, Value.int .u8 0, Value.int .u8 0, Value.int .u8 0, Value.int .u8 0, Value.int .u8 0, Value.int .u8 0, Value.int .u8 0, Value.int .u8 0, Value.int .u8 0, Value.int .u8 0, Value.int .u8 0, Value.int .u8 0, Value.int .u8 0, Value.int .u8 0, Value.int .u8 0] 104 (0, 0)) ∧ Below w.heap.size w wr) (fun i _ => 4 - (intOf i).toNat)
      case atStart => exact ⟨0, Nat.zero_le _, rfl, Q2.out, C3.out, Q1.out, QB.out⟩
      case round =>
        obtain ⟨k, hk, rfl, h2, h0, h1, hB⟩ := hrel
        have K2 := Lib.hid h2
        have K0 := Lib.hid h0
        have K1 := Lib.hid h1
        have KB := Lib.hid hB
        clear h2 h0 h1 hB Q2 C3 Q1 QB
        by_cases hlt : k < 4
        · have t1 : (k : Int) < 4 := by omega
          have HK := Lib.hid hlt
          have NE : g ≠ w.heap.size + 1 + 1 := by have := G3.out; omega
          have HNE := Lib.hid NE
          have tn : ((12 : Int) + (k : Int)).toNat = 12 + k := by omega
          have tk : (12 : Int) + (k : Int) < 16 := by omega
          have c0 : wr.cell? ⟨g, k, none⟩ = some (.int .u8 (m (12 + k))) := by rw [M1.out k]; exact K0.out k hlt
          have c2 : wr.cell? ⟨w.heap.size + 1 + 1, 12 + k, none⟩ = some (.int .u8 (mixI zI m (12 + k) (12 + k))) := (Lib.cell_of_heap K2.out (12 + k)).trans (arr_get _ _ _ _ (by omega))
          have f2 : wr.frozen? ⟨w.heap.size + 1 + 1, 12 + k, none⟩ = false := Lib.frozen_of_heap K2.out (12 + k)
          generalize mixI zI m (12 + k) (12 + k) = v at c2
          clear hlt hk NE
          go_wp2
          go_roundw
          case rel => exact ⟨k + 1, by have := HK.out; omega, by go_num, by rw [fset_at K2.out, arr_set _ _ _ _ _ (by have := HK.out; omega), mixI_step]; rfl, fun j hj => by rw [zcell_set _ _ _ HNE.out]; exact K0.out j hj, by rw [fset_far (by omega)]; exact K1.out, KB.out.setCell (p := ⟨w.heap.size + 1 + 1, _, none⟩) (by simp; omega) _⟩
          case measure => have := HK.out; simp [intOf]; omega
        · obtain rfl : k = 4 := by omega
          have G2 : Hid (wr.heap[w.heap.size + 1 + 1]? = some (.cells (Q16 m) 104 (0, 0))) := Lib.hid (by have := K2.out; rwa [show Q16 (mixI zI m (12 + 4)) = Q16 m from arr_mix .u8 16 zI m] at this)
          clear K2 hk hlt
          go_wp2_with (first | (refine wpList_load_row rfl 104 _ rfl (w.heap.size + 1 + 1) rfl 104 _ _ _ G2.out Try.underlying104 rfl (fr_info _ (arr_size _ _ _)) ?_) | (refine wpList_store_row rfl 104 _ _ rfl (w.heap.size + 1) (Q16 m) rfl rfl 104 _ K1.out (fr_info _ rfl) rfl (arr_cells _ _ _) ?_))
          refine bodyPost_ret (v := .agg (Q16 m)) ?_ rfl ⟨rfl, ?_⟩
          · exact results_cell_row Try.results122 _ _ (w.heap.size + 1) _ _ _ _ rfl (setRow_heap _ _ _ _ _ _ K1.out) Try.underlying104 rfl (fr_info _ (arr_size _ _ _))
          · exact below_setRow KB.out (by omega) _
end Go.Proofs.Ythfmkejdpflpcaa
/-
  CONTRACTS: MakeFrame and IsSound, of both sides.
-/
namespace Go.Proofs.Ythfmkejdpflpcaa
open Go.ChangeShapes Go.WideShapes Go.ChangeAt Go.RowKit
theorem zI_is16 : Q16 zI = #[Value.int .u8 0, Value.int .u8 0, Value.int .u8 0, Value.int .u8 0, Value.int .u8 0, Value.int .u8 0, Value.int .u8 0, Value.int .u8 0, Value.int .u8 0, Value.int .u8 0, Value.int .u8 0, Value.int .u8 0, Value.int .u8 0, Value.int .u8 0, Value.int .u8 0, Value.int .u8 0] := rfl
set_option maxRecDepth 20000 in
set_option maxHeartbeats 4000000 in
theorem iMake_any (i : Int) (p : Nat → Int) (hp : ByF 12 p) (w : World) :
    Calls Try.prog 147 #[.int .i64 i, .agg (Q12 p)] w fun e w' => e = .returned (.tuple #[.agg (Q16 (mkX i p)), .int .i64 (codeX i)]) ∧ Below w.heap.size w w' := by
  obtain ⟨w1, hw1⟩ : ∃ w1, (w.alloc (.cells (Q12 p) 145)).alloc (.cells #[Value.int .u8 0, Value.int .u8 0, Value.int .u8 0, Value.int .u8 0, Value.int .u8 0, Value.int .u8 0, Value.int .u8 0, Value.int .u8 0, Value.int .u8 0, Value.int .u8 0, Value.int .u8 0, Value.int .u8 0, Value.int .u8 0, Value.int .u8 0, Value.int .u8 0, Value.int .u8 0] 104) = w1 := ⟨_, rfl⟩
  have B0 : Hid (Below w.heap.size w w1) := Lib.hid (by rw [← hw1]; exact ((Below.refl _ w).alloc (Nat.le_refl _) _).alloc (by simp) _)
  have H0 : Hid (w1.heap[w.heap.size]? = some (.cells (Q12 p) 145 (0, 0))) := Lib.hid (by rw [← hw1]; exact (Below.heap_alloc _ _ _ (by simp)).trans (World.alloc_heap_new w _))
  have H1 : Hid (w1.heap[w.heap.size + 1]? = some (.cells #[Value.int .u8 0, Value.int .u8 0, Value.int .u8 0, Value.int .u8 0, Value.int .u8 0, Value.int .u8 0, Value.int .u8 0, Value.int .u8 0, Value.int .u8 0, Value.int .u8 0, Value.int .u8 0, Value.int .u8 0, Value.int .u8 0, Value.int .u8 0, Value.int .u8 0, Value.int .u8 0] 104 (0, 0))) := Lib.hid (by
    rw [← hw1]
    have := World.alloc_heap_new (w.alloc (.cells (Q12 p) 145)) (.cells #[Value.int .u8 0, Value.int .u8 0, Value.int .u8 0, Value.int .u8 0, Value.int .u8 0, Value.int .u8 0, Value.int .u8 0, Value.int .u8 0, Value.int .u8 0, Value.int .u8 0, Value.int .u8 0, Value.int .u8 0, Value.int .u8 0, Value.int .u8 0, Value.int .u8 0, Value.int .u8 0] 104)
    rw [World.size_alloc] at this
    exact this)
  have HL : Hid (w.heap.size + 1 < w1.heap.size) := Lib.hid (Array.getElem?_eq_some_iff.1 H1.out).1
  have CK := Lib.hid (iCheckOf_any i p hp)
  cases h : inX i
  · have R1 : Hid (Q16 (mkX i p) = #[Value.int .u8 0, Value.int .u8 0, Value.int .u8 0, Value.int .u8 0, Value.int .u8 0, Value.int .u8 0, Value.int .u8 0, Value.int .u8 0, Value.int .u8 0, Value.int .u8 0, Value.int .u8 0, Value.int .u8 0, Value.int .u8 0, Value.int .u8 0, Value.int .u8 0, Value.int .u8 0]) := Lib.hid (by unfold mkX; rw [h, if_neg (by decide)]; exact zI_is16)
    have R2 : Hid (codeX i = 2) := Lib.hid (by unfold codeX; rw [h]; exact if_neg (by decide))
    have ZO : Hid ((#[Value.int .u8 0, Value.int .u8 0, Value.int .u8 0, Value.int .u8 0, Value.int .u8 0, Value.int .u8 0, Value.int .u8 0, Value.int .u8 0, Value.int .u8 0, Value.int .u8 0, Value.int .u8 0, Value.int .u8 0, Value.int .u8 0, Value.int .u8 0, Value.int .u8 0, Value.int .u8 0] : Array Value).all (·.oneCell') = true) := Lib.hid (by rw [← zI_is16]; exact arr_cells _ _ _)
    rw [R1.out, R2.out]
    rw [R2.out] at CK
    obtain ⟨c, hc⟩ : ∃ c : Int, (chkN i p : Int) = c := ⟨_, rfl⟩
    rw [hc] at CK
    clear h hp R1 R2 hc
    go_enter Try.func147, Try.ntmps147
    go_wp2_with (refine wpList_load_row rfl 145 _ rfl w.heap.size rfl 145 _ _ _ H0.out Try.underlying145 rfl (p12_info _ (arr_size _ _ _)) ?_)
    clear hw1
    refine (CK.out _).mono ?_
    rintro e w2 ⟨rfl, b2⟩
    have G1 := Lib.hid ((b2.block (w.heap.size + 1) HL.out).trans H1.out)
    have GB := Lib.hid (B0.out.trans (b2.mono (by have := HL.out; omega)))
    clear b2
    go_wp2_with (refine wpList_store_row rfl 104 _ _ rfl (w.heap.size + 1) _ rfl rfl 104 _ G1.out (fr_info _ rfl) rfl ZO.out ?_)
    refine bodyPost_ret (v := .tuple #[.agg #[Value.int .u8 0, Value.int .u8 0, Value.int .u8 0, Value.int .u8 0, Value.int .u8 0, Value.int .u8 0, Value.int .u8 0, Value.int .u8 0, Value.int .u8 0, Value.int .u8 0, Value.int .u8 0, Value.int .u8 0, Value.int .u8 0, Value.int .u8 0, Value.int .u8 0, Value.int .u8 0], .int .i64 2]) ?_ rfl ⟨rfl, ?_⟩
    · exact results_cell_tmp_rowF Try.results147 _ _ (w.heap.size + 1) _ _ _ _ rfl (setRow_heap _ _ _ _ _ _ G1.out) Try.underlying104 rfl (fr_info _ rfl)
    · exact below_setRow GB.out (by omega) _
  · obtain ⟨n, rfl, hn⟩ := inX_nat h
    have R1 : Hid (mkX n p = mkfF n p) := Lib.hid (by unfold mkX; rw [if_pos h, Int.toNat_natCast])
    have R2 : Hid (codeX n = 0) := Lib.hid (by unfold codeX; rw [if_pos h])
    have R3 : Hid (chkN n p = chk n p) := Lib.hid (by unfold chkN; rw [if_pos h, Int.toNat_natCast])
    rw [R1.out, R2.out]
    rw [R2.out, R3.out] at CK
    have MM : Hid (mkfF n p = catU p 12 (byW (chk n p))) := Lib.hid rfl
    rw [MM.out]
    obtain ⟨c, hc⟩ : ∃ c, chk n p = c := ⟨_, rfl⟩
    rw [hc] at CK ⊢
    obtain ⟨m, hm⟩ : ∃ m, catU p 12 (byW c) = m := ⟨_, rfl⟩
    rw [hm]
    have HM := Lib.hid hm
    clear h hp hn R1 R2 R3 hc MM hm
    go_enter Try.func147, Try.ntmps147
    go_wp2_with (refine wpList_load_row rfl 145 _ rfl w.heap.size rfl 145 _ _ _ H0.out Try.underlying145 rfl (p12_info _ (arr_size _ _ _)) ?_)
    clear hw1
    refine (CK.out _).mono ?_
    rintro e w2 ⟨rfl, b2⟩
    have G1 := Lib.hid ((b2.block (w.heap.size + 1) HL.out).trans H1.out)
    have G0 := Lib.hid ((b2.block w.heap.size (by have := HL.out; omega)).trans H0.out)
    have GB := Lib.hid (B0.out.trans (b2.mono (by have := HL.out; omega)))
    have GL : Hid (w.heap.size + 1 < w2.heap.size) := Lib.hid (Nat.lt_of_lt_of_le HL.out b2.size)
    clear b2
    go_wp2_with fail
    refine Calls.mono (appendWord_full w.heap.size 0 12 p w2.heap.size c w2 (by omega) (Nat.le_refl _) (by have := GL.out; omega) (fun j hj => by rw [Nat.zero_add]; exact (Lib.cell_of_heap G0.out j).trans (arr_get _ _ _ _ hj))) ?_
    rintro e w3 ⟨v, rfl, h3, b3⟩
    obtain ⟨g, cap, rfl, hcap, hg, -, hc3⟩ := h3.form (by omega)
    rw [HM.out] at hc3
    have C3 := Lib.hid hc3
    have hat := fun W => run_arrayAtF (P := Try.prog) 104 _ 16 (some ⟨g, 0, none⟩) (12 + 4) cap Try.underlying104 (by omega) W
    have I1 := Lib.hid ((b3.block (w.heap.size + 1) GL.out).trans G1.out)
    have IB := Lib.hid (GB.out.trans (b3.mono (by have := GL.out; omega)))
    clear b3 h3 hg hc3 hcap
    go_wp2_with (first | (refine wpList_load_part rfl 104 _ rfl g 0 rfl (Q16 m) _ (fun j v e => by
        have hj : j < 16 := by
          rcases Nat.lt_or_ge j 16 with h | h
          · exact h
          · rw [arr_none _ _ _ _ h] at e; cases e
        rw [Nat.zero_add, C3.out j hj, ← e, arr_get _ _ _ _ hj]) Try.underlying104 rfl (fr_info _ (arr_size _ _ _)) ?_) | (refine wpList_store_row rfl 104 _ _ rfl (w.heap.size + 1) (Q16 m) rfl rfl 104 _ I1.out (fr_info _ rfl) rfl (arr_cells _ _ _) ?_))
    refine bodyPost_ret (v := .tuple #[.agg (Q16 m), .int .i64 0]) ?_ rfl ⟨rfl, ?_⟩
    · exact results_cell_tmp_rowF Try.results147 _ _ (w.heap.size + 1) _ _ _ _ rfl (setRow_heap _ _ _ _ _ _ I1.out) Try.underlying104 rfl (fr_info _ (arr_size _ _ _))
    · exact below_setRow IB.out (by omega) _
end Go.Proofs.Ythfmkejdpflpcaa
/-
  CONTRACTS: is a frame sound? both sides.
-/
namespace Go.Proofs.Ythfmkejdpflpcaa
open Go.ChangeShapes Go.WideShapes Go.ChangeAt Go.RowKit
theorem wpList_load_rowgF {P : Program} {ops : Array Oper} {rest : List Oper} {o : Oper} {a : Act} {w : World} {Q : Exit → Act → World → Prop} (hw : Region.wanted o (yielded ops a.tmps) = true) (ty : TypeId) (x : Operand) (ho : o.op = .load ty x)
    (g : Nat) (hx : a.eval x = .pointer (some ⟨g, 0, none⟩)) (t : TypeId) (cs : Array Value) (fr : Nat × Nat) (d : TypeDesc) (hg : w.heap[g]? = some (.cells cs t fr))
    (hu : P.underlying ty = some d) (hd : (match d with | .struct _ | .array _ _ => true | _ => false) = true) (hi : (P.info? ty).map (·.size) = some cs.size)
    (h : wpList P ops Q rest (a.put o.dst (.agg cs)) w) : wpList P ops Q (o :: rest) a w := by
  unfold wpList
  rw [if_pos hw]
  left
  unfold Oper.wp execOp
  simp only [ho, hx, Instr.loadAt, Instr.sureAddr, Sem.run_bind, Sem.run_pure, Result.andThen_ok, run_loadVar_row w g t ty cs fr d hg hu hd hi]
  exact h
theorem eqFr (f g : Nat → Int) (w : World) : (Op.equalIn 10000 104 (.agg (Q16 f)) (.agg (Q16 g))).run Try.prog w = .ok ((List.range 16).all fun i => f i == g i) w :=
  eqArrI (P := Try.prog) (t := 104) (e := 5) (n := 16) (q := .u8) f g Try.underlying104 Try.underlying5 (by kernel_rfl) w
def snd2 (m f : Nat → Int) : Bool := (List.range 16).all fun j => m j == f j
theorem snd2_iff (m f : Nat → Int) : snd2 m f = true ↔ ∀ j, j < 16 → m j = f j := by
  unfold snd2
  rw [List.all_eq_true]
  constructor
  · intro h j hj
    have := h j (by simpa using hj)
    simpa using this
  · intro h j hj
    have := h j (by simpa using hj)
    simpa using this
theorem snd2_comm (m f : Nat → Int) : snd2 m f = snd2 f m := by
  rw [Bool.eq_iff_iff, snd2_iff, snd2_iff]
  exact ⟨fun h j hj => (h j hj).symm, fun h j hj => (h j hj).symm⟩
/-- is a frame sound at an index? -/
def sndF (i : Nat) (f : Nat → Int) : Bool := snd2 (mkfF i f) f
def sndX (i : Int) (f : Nat → Int) : Bool := if inX i then sndF i.toNat f else false
theorem ByF.mono {n m : Nat} {f : Nat → Int} (h : ByF n f) (hm : m ≤ n) : ByF m f := fun j hj => h j (by omega)
set_option maxRecDepth 20000 in
set_option maxHeartbeats 4000000 in
theorem l09Sound_any (i : Nat) (f : Nat → Int) (hf : ByF 16 f) (hi : i < 4294967296) (w : World) :
    Calls Try.prog 148 #[.agg (Q16 f), .int .i64 (i : Int)] w fun e w' => e = .returned (.bool (sndF i f)) ∧ Below w.heap.size w w' := by
  have PA := Lib.hid (sPay_any f)
  have MK := Lib.hid (l09Make_any i f (hf.mono (by omega)) hi)
  have RR : Hid (sndF i f = snd2 (mkfF i f) f) := Lib.hid rfl
  rw [RR.out]
  obtain ⟨m, hm⟩ : ∃ m, mkfF i f = m := ⟨_, rfl⟩
  rw [hm] at MK ⊢
  have EQ : Hid (∀ W, (Op.equalIn 10000 104 (.agg (Q16 m)) (.agg (Q16 f))).run Try.prog W = .ok (snd2 m f) W) := Lib.hid fun W => eqFr m f W
  clear hm hf hi RR
  obtain ⟨w1, hw1⟩ : ∃ w1, w.alloc (.cells (Q16 f) 104) = w1 := ⟨_, rfl⟩
  have B0 : Hid (Below w.heap.size w w1) := Lib.hid (by rw [← hw1]; exact (Below.refl _ _).alloc (Nat.le_refl _) _)
  have S0 : Hid (w1.heap[w.heap.size]? = some (.cells (Q16 f) 104 (0, 0))) := Lib.hid (by rw [← hw1]; exact World.alloc_heap_new w _)
  have L0 : Hid (w.heap.size < w1.heap.size) := Lib.hid (by rw [← hw1]; simp)
  go_enter Try.func148, Try.ntmps148
  go_wp2_with fail
  clear hw1
  refine wp_region_inv (by kernel_rfl) (fun listed act W => listed.size = 7 ∧ Below w1.heap.size w1 W ∧ ∃ x0 x1 x2 x3 x4 x5 x6, act = { tmps := #[.agg (Q16 f), .int .i64 (i : Int), .pointer (some ⟨w.heap.size, 0, none⟩), undef, x6, x0, x1, x2, x3, x4, x5], defers := [] } ∧ (listed.getD 0 false = true → x0 = .int .i64 (i : Int)) ∧ (listed.getD 1 false = true → x1 = .agg (Q16 f)) ∧ (listed.getD 2 false = true → x2 = .agg (Q12 f)) ∧ (listed.getD 3 false = true → x3 = .agg (Q16 m)) ∧ (listed.getD 4 false = true → x4 = .agg (Q16 f)) ∧ (listed.getD 5 false = true → x5 = .bool (snd2 m f)) ∧ (listed.getD 6 false = true → x6 = .bool (snd2 m f))) (by kernel_rfl) ?h01 (fun _ _ _ h => h.1) ?hstep1 ?hend1
  case h01 =>
    refine ⟨rfl, (Below.refl _ _).drew, _, _, _, _, _, _, _, rfl, ?_, ?_, ?_, ?_, ?_, ?_, ?_⟩ <;> (intro h; exact absurd h (by decide))
  case hstep1 =>
    rintro listed act W i o ⟨hs, hB, x0, x1, x2, x3, x4, x5, x6, rfl, e0, e1, e2, e3, e4, e5, e6⟩ hun hio hpre
    have HB := Lib.hid hB
    have E0 := Lib.hid e0
    have E1 := Lib.hid e1
    have E2 := Lib.hid e2
    have E3 := Lib.hid e3
    have E4 := Lib.hid e4
    have E5 := Lib.hid e5
    have E6 := Lib.hid e6
    have HS := Lib.hid hs
    have HU := Lib.hid hun
    have PRE := Lib.hid hpre
    clear e0 e1 e2 e3 e4 e5 e6 hs hpre hB hun
    match i, hio with
    | 0, hio =>
      clear hio
      refine wpOp_by rfl fun K HK => ?_
      go_wp2_with (fail)
      exact HK.out _ _ ⟨by rw [Array.size_setIfInBounds, HS.out], HB.out, _, _, _, _, _, _, _, rfl, fun _ => rfl, fun h => E1.out ((listed_set h).resolve_left (by decide)), fun h => E2.out ((listed_set h).resolve_left (by decide)), fun h => E3.out ((listed_set h).resolve_left (by decide)), fun h => E4.out ((listed_set h).resolve_left (by decide)), fun h => E5.out ((listed_set h).resolve_left (by decide)), fun h => E6.out ((listed_set h).resolve_left (by decide))⟩
    | 1, hio =>
      clear hio
      have S := Lib.hid ((HB.out.block w.heap.size (by have := L0.out; omega)).trans S0.out)
      refine wpOp_by rfl fun K HK => ?_
      refine wpList_load_row rfl 104 _ rfl w.heap.size rfl 104 _ _ _ S.out Try.underlying104 rfl (fr_info _ (arr_size _ _ _)) ?_
      go_wp2_with (fail)
      exact HK.out _ _ ⟨by rw [Array.size_setIfInBounds, HS.out], HB.out, _, _, _, _, _, _, _, rfl, fun h => E0.out ((listed_set h).resolve_left (by decide)), fun _ => rfl, fun h => E2.out ((listed_set h).resolve_left (by decide)), fun h => E3.out ((listed_set h).resolve_left (by decide)), fun h => E4.out ((listed_set h).resolve_left (by decide)), fun h => E5.out ((listed_set h).resolve_left (by decide)), fun h => E6.out ((listed_set h).resolve_left (by decide))⟩
    | 2, hio =>
      simp only [List.getElem?_toArray, List.getElem?_cons_succ, List.getElem?_cons_zero, Option.some.injEq] at hio
      subst hio
      have p1 := PRE.out ⟨1, .data⟩ (by simp) rfl
      obtain rfl := E1.out p1
      refine wpOp_by rfl fun K HK => ?_
      go_wp2_with fail
      refine Calls.mono (PA.out _) ?_
      rintro e W' ⟨rfl, hb⟩
      go_wp2
      exact HK.out _ _ ⟨by rw [Array.size_setIfInBounds, HS.out], HB.out.trans (hb.mono HB.out.size), _, _, _, _, _, _, _, rfl, fun h => E0.out ((listed_set h).resolve_left (by decide)), fun _ => rfl, fun _ => rfl, fun h => E3.out ((listed_set h).resolve_left (by decide)), fun h => E4.out ((listed_set h).resolve_left (by decide)), fun h => E5.out ((listed_set h).resolve_left (by decide)), fun h => E6.out ((listed_set h).resolve_left (by decide))⟩
    | 3, hio =>
      simp only [List.getElem?_toArray, List.getElem?_cons_succ, List.getElem?_cons_zero, Option.some.injEq] at hio
      subst hio
      have p0 := PRE.out ⟨0, .data⟩ (by simp) rfl
      have p2 := PRE.out ⟨2, .data⟩ (by simp) rfl
      obtain rfl := E0.out p0
      obtain rfl := E2.out p2
      refine wpOp_by rfl fun K HK => ?_
      go_wp2_with fail
      refine Calls.mono (MK.out _) ?_
      rintro e W' ⟨rfl, hb⟩
      go_wp2
      exact HK.out _ _ ⟨by rw [Array.size_setIfInBounds, HS.out], HB.out.trans (hb.mono HB.out.size), _, _, _, _, _, _, _, rfl, fun _ => rfl, fun h => E1.out ((listed_set h).resolve_left (by decide)), fun _ => rfl, fun _ => rfl, fun h => E4.out ((listed_set h).resolve_left (by decide)), fun h => E5.out ((listed_set h).resolve_left (by decide)), fun h => E6.out ((listed_set h).resolve_left (by decide))⟩
    | 4, hio =>
      clear hio
      have S := Lib.hid ((HB.out.block w.heap.size (by have := L0.out; omega)).trans S0.out)
      refine wpOp_by rfl fun K HK => ?_
      refine wpList_load_row rfl 104 _ rfl w.heap.size rfl 104 _ _ _ S.out Try.underlying104 rfl (fr_info _ (arr_size _ _ _)) ?_
      go_wp2_with (fail)
      exact HK.out _ _ ⟨by rw [Array.size_setIfInBounds, HS.out], HB.out, _, _, _, _, _, _, _, rfl, fun h => E0.out ((listed_set h).resolve_left (by decide)), fun h => E1.out ((listed_set h).resolve_left (by decide)), fun h => E2.out ((listed_set h).resolve_left (by decide)), fun h => E3.out ((listed_set h).resolve_left (by decide)), fun _ => rfl, fun h => E5.out ((listed_set h).resolve_left (by decide)), fun h => E6.out ((listed_set h).resolve_left (by decide))⟩
    | 5, hio =>
      simp only [List.getElem?_toArray, List.getElem?_cons_succ, List.getElem?_cons_zero, Option.some.injEq] at hio
      subst hio
      have p3 := PRE.out ⟨3, .data⟩ (by simp) rfl
      have p4 := PRE.out ⟨4, .data⟩ (by simp) rfl
      obtain rfl := E3.out p3
      obtain rfl := E4.out p4
      have hE := EQ.out
      refine wpOp_by rfl fun K HK => ?_
      go_wp2_with (fail)
      exact HK.out _ _ ⟨by rw [Array.size_setIfInBounds, HS.out], HB.out, _, _, _, _, _, _, _, rfl, fun h => E0.out ((listed_set h).resolve_left (by decide)), fun h => E1.out ((listed_set h).resolve_left (by decide)), fun h => E2.out ((listed_set h).resolve_left (by decide)), fun _ => rfl, fun _ => rfl, fun _ => rfl, fun h => E6.out ((listed_set h).resolve_left (by decide))⟩
    | 6, hio =>
      simp only [List.getElem?_toArray, List.getElem?_cons_succ, List.getElem?_cons_zero, Option.some.injEq] at hio
      subst hio
      have p5 := PRE.out ⟨5, .data⟩ (by simp) rfl
      obtain rfl := E5.out p5
      refine wpOp_by rfl fun K HK => ?_
      go_wp2_with (fail)
      exact HK.out _ _ ⟨by rw [Array.size_setIfInBounds, HS.out], HB.out, _, _, _, _, _, _, _, rfl, fun h => E0.out ((listed_set h).resolve_left (by decide)), fun h => E1.out ((listed_set h).resolve_left (by decide)), fun h => E2.out ((listed_set h).resolve_left (by decide)), fun h => E3.out ((listed_set h).resolve_left (by decide)), fun h => E4.out ((listed_set h).resolve_left (by decide)), fun _ => rfl, fun _ => rfl⟩
    | k + 7, hio => simp at hio
  case hend1 =>
    rintro listed act W1 ⟨hs, hB, x0, x1, x2, x3, x4, x5, x6, rfl, e0, e1, e2, e3, e4, e5, e6⟩ hall
    obtain rfl := e0 (hall 0 (by decide))
    obtain rfl := e1 (hall 1 (by decide))
    obtain rfl := e2 (hall 2 (by decide))
    obtain rfl := e3 (hall 3 (by decide))
    obtain rfl := e4 (hall 4 (by decide))
    obtain rfl := e5 (hall 5 (by decide))
    obtain rfl := e6 (hall 6 (by decide))
    clear hs
    have WB : Hid (Below w.heap.size w W1) := Lib.hid (B0.out.trans (hB.mono (Nat.le_of_lt L0.out)))
    clear hB hall
    go_wp2
    go_ret
    exact ⟨rfl, WB.out⟩
set_option maxRecDepth 20000 in
set_option maxHeartbeats 4000000 in
theorem iSound_any (i : Int) (f : Nat → Int) (hf : ByF 16 f) (w : World) :
    Calls Try.prog 180 #[.agg (Q16 f), .int .i64 i] w fun e w' => e = .returned (.tuple #[.bool (sndX i f), .int .i64 (codeX i)]) ∧ Below w.heap.size w w' := by
  obtain ⟨w1, hw1⟩ : ∃ w1, w.alloc (.cells (Q16 f) 104) = w1 := ⟨_, rfl⟩
  have B0 : Hid (Below w.heap.size w w1) := Lib.hid (by rw [← hw1]; exact (Below.refl _ _).alloc (Nat.le_refl _) _)
  have S0 : Hid (w1.heap[w.heap.size]? = some (.cells (Q16 f) 104 (0, 0))) := Lib.hid (by rw [← hw1]; exact World.alloc_heap_new w _)
  have L0 : Hid (w.heap.size < w1.heap.size) := Lib.hid (by rw [← hw1]; simp)
  have PA := Lib.hid (iPay_any f)
  have MK := Lib.hid (iMake_any i f (hf.mono (by omega)))
  have RR : Hid (sndX i f = (inX i && snd2 f (mkX i f))) := Lib.hid (by
    unfold sndX mkX sndF
    cases inX i
    · rfl
    · simp only [if_true, Bool.true_and]; exact snd2_comm _ _)
  rw [RR.out]
  have CX : Hid (codeX i = if inX i then 0 else 2) := Lib.hid rfl
  rw [CX.out] at MK ⊢
  obtain ⟨m, hm⟩ : ∃ m, mkX i f = m := ⟨_, rfl⟩
  rw [hm] at MK ⊢
  have EQ : Hid (∀ W, (Op.equalIn 10000 104 (.agg (Q16 f)) (.agg (Q16 m))).run Try.prog W = .ok (snd2 f m) W) := Lib.hid fun W => eqFr f m W
  obtain ⟨b, hb⟩ : ∃ b, snd2 f m = b := ⟨_, rfl⟩
  rw [hb] at EQ ⊢
  have Z16 : Hid (#[Value.int .u8 0, Value.int .u8 0, Value.int .u8 0, Value.int .u8 0, Value.int .u8 0, Value.int .u8 0, Value.int .u8 0, Value.int .u8 0, Value.int .u8 0, Value.int .u8 0, Value.int .u8 0, Value.int .u8 0, Value.int .u8 0, Value.int .u8 0, Value.int .u8 0, Value.int .u8 0] = Q16 zI) := Lib.hid rfl
  obtain ⟨x, hx⟩ : ∃ x, inX i = x := ⟨_, rfl⟩
  rw [hx] at MK ⊢
  clear hm hf RR CX hb hx
  cases x
  all_goals
    simp only [if_true, Bool.false_eq_true, if_false, Bool.true_and, Bool.false_and] at MK ⊢
    go_enter Try.func180, Try.ntmps180
    go_wp2_with (refine wpList_load_row rfl 104 _ rfl w.heap.size rfl 104 _ _ _ S0.out Try.underlying104 rfl (fr_info _ (arr_size _ _ _)) ?_)
    refine (PA.out _).mono ?_
    rintro e w2 ⟨rfl, b2⟩
    have S2 := Lib.hid ((b2.block w.heap.size L0.out).trans S0.out)
    have B2 := Lib.hid (B0.out.trans (b2.mono (Nat.le_of_lt L0.out)))
    have L2 : Hid (w.heap.size < w2.heap.size) := Lib.hid (Nat.lt_of_lt_of_le L0.out b2.size)
    clear b2 hw1
    go_wp2_with fail
    refine (MK.out _).mono ?_
    rintro e w3 ⟨rfl, b3⟩
    have S3 := Lib.hid ((b3.block w.heap.size L2.out).trans S2.out)
    have B3 := Lib.hid (B2.out.trans (b3.mono (Nat.le_of_lt L2.out)))
    have L3 : Hid (w.heap.size < w3.heap.size) := Lib.hid (Nat.lt_of_lt_of_le L2.out b3.size)
    clear b3
    obtain ⟨n3, hn3⟩ : ∃ n3, w3.heap.size = n3 := ⟨_, rfl⟩
    obtain ⟨w4, hw4⟩ : ∃ w4, w3.alloc (.cells #[Value.int .u8 0, Value.int .u8 0, Value.int .u8 0, Value.int .u8 0, Value.int .u8 0, Value.int .u8 0, Value.int .u8 0, Value.int .u8 0, Value.int .u8 0, Value.int .u8 0, Value.int .u8 0, Value.int .u8 0, Value.int .u8 0, Value.int .u8 0, Value.int .u8 0, Value.int .u8 0] 104) = w4 := ⟨_, rfl⟩
    have A4 : Hid (w4.heap[w3.heap.size]? = some (.cells #[Value.int .u8 0, Value.int .u8 0, Value.int .u8 0, Value.int .u8 0, Value.int .u8 0, Value.int .u8 0, Value.int .u8 0, Value.int .u8 0, Value.int .u8 0, Value.int .u8 0, Value.int .u8 0, Value.int .u8 0, Value.int .u8 0, Value.int .u8 0, Value.int .u8 0, Value.int .u8 0] 104 (0, 0))) := Lib.hid (by rw [← hw4]; exact World.alloc_heap_new w3 _)
    have S4 : Hid (w4.heap[w.heap.size]? = some (.cells (Q16 f) 104 (0, 0))) := Lib.hid (by rw [← hw4]; exact (Below.heap_alloc _ _ _ L3.out).trans S3.out)
    have B4 : Hid (Below w.heap.size w w4) := Lib.hid (by rw [← hw4]; exact B3.out.alloc (Nat.le_of_lt L3.out) _)
    obtain ⟨w5, hw5⟩ : ∃ w5, w4.setRow w3.heap.size (Q16 m) = w5 := ⟨_, rfl⟩
    have A5 : Hid (w5.heap[w3.heap.size]? = some (.cells (Q16 m) 104 (0, 0))) := Lib.hid (by rw [← hw5]; exact setRow_heap _ _ _ _ _ _ A4.out)
    have S5 : Hid (w5.heap[w.heap.size]? = some (.cells (Q16 f) 104 (0, 0))) := Lib.hid (by rw [← hw5, setRow_other _ _ _ _ (by have := L3.out; omega)]; exact S4.out)
    have B5 : Hid (Below w.heap.size w w5) := Lib.hid (by rw [← hw5]; exact below_setRow B4.out (Nat.le_of_lt L3.out) _)
    have hE := EQ.out
    clear hn3
    first
    | (go_wp2_with (first | (refine wpList_store_row rfl 104 _ _ rfl w3.heap.size (Q16 m) rfl rfl 104 _ A4.out (fr_info _ rfl) rfl (arr_cells _ _ _) ?_; rw [hw5]) | (refine wpList_load_rowgF rfl 104 _ rfl w.heap.size rfl 104 _ _ _ S5.out Try.underlying104 rfl (fr_info _ (arr_size _ _ _)) ?_) | (refine wpList_load_rowgF rfl 104 _ rfl w3.heap.size rfl 104 _ _ _ A5.out Try.underlying104 rfl (fr_info _ (arr_size _ _ _)) ?_)); go_ret2; exact ⟨rfl, B5.out⟩)
    | (go_wp2_with (refine wpList_store_row rfl 104 _ _ rfl w3.heap.size (Q16 m) rfl rfl 104 _ A4.out (fr_info _ rfl) rfl (arr_cells _ _ _) ?_; rw [hw5]); go_ret2; exact ⟨rfl, B5.out⟩)
end Go.Proofs.Ythfmkejdpflpcaa
/-
  CONTRACTS: the head of a file: its code and its payload (the program's).
-/
namespace Go.Proofs.Ythfmkejdpflpcaa
open Go.ChangeShapes Go.WideShapes Go.ChangeAt Go.RowKit
def hdOk (k c : Int) : Bool := (decide (k = 1) || decide (k = 2) || decide (k = 3)) && decide (0 ≤ c) && decide (c ≤ 256)
def hdC (k c : Int) (n : Nat) : Int := if hdOk k c then (if 8192 < n then 3 else 0) else 2
set_option maxRecDepth 20000 in
set_option maxHeartbeats 4000000 in
theorem hcode_any (k c : Int) (n : Nat) (hn : n ≤ 4000000) (w : World) :
    Calls Try.prog 143 #[.agg #[.int .i64 k, .int .i64 c, .int .i64 (n : Int)]] w fun e w' => e = .returned (.int .i64 (hdC k c n)) ∧ Below w.heap.size w w' := by
  obtain ⟨R, hR⟩ : ∃ R, hdC k c n = R := ⟨_, rfl⟩
  have HR : Hid ((k = 1 ∨ k = 2 ∨ k = 3) → 0 ≤ c → c ≤ 256 → n ≤ 8192 → R = 0) := Lib.hid fun h1 h2 h3 h4 => by
    rw [← hR]; unfold hdC
    have : hdOk k c = true := by unfold hdOk; rcases h1 with rfl | rfl | rfl <;> simp [h2, h3]
    rw [if_pos this, if_neg (by omega)]
  have HR3 : Hid ((k = 1 ∨ k = 2 ∨ k = 3) → 0 ≤ c → c ≤ 256 → 8192 < n → R = 3) := Lib.hid fun h1 h2 h3 h4 => by
    rw [← hR]; unfold hdC
    have : hdOk k c = true := by unfold hdOk; rcases h1 with rfl | rfl | rfl <;> simp [h2, h3]
    rw [if_pos this, if_pos h4]
  have HR2 : Hid ((¬ (k = 1 ∨ k = 2 ∨ k = 3) ∨ c < 0 ∨ 256 < c) → R = 2) := Lib.hid fun h => by
    rw [← hR]; unfold hdC
    have : hdOk k c = false := by
      unfold hdOk
      cases hx : (decide (k = 1) || decide (k = 2) || decide (k = 3)) && decide (0 ≤ c) && decide (c ≤ 256) with
      | false => rfl
      | true => simp at hx; omega
    rw [this]; exact if_neg (by decide)
  rw [hR]
  have B0 : Hid (Below w.heap.size w (w.alloc (.cells #[.int .i64 k, .int .i64 c, .int .i64 (n : Int)] 175))) := Lib.hid ((Below.refl _ w).alloc (Nat.le_refl _) _)
  clear hR
  by_cases hk : k = 1 ∨ k = 2 ∨ k = 3
  · by_cases h0 : c < 0
    · have := HR2.out (.inr (.inl h0))
      subst this
      have b1 : decide (c < 0) = true := by simpa using h0
      clear HR HR2 HR3
      rcases hk with rfl | rfl | rfl
      all_goals
        go_enter Try.func143, Try.ntmps143
        go_wp2
        go_ret
        exact ⟨rfl, B0.out⟩
    · have b1 : decide (c < 0) = false := by simpa using h0
      by_cases h1 : 256 < c
      · have := HR2.out (.inr (.inr h1))
        subst this
        have b2 : decide (256 < c) = true := by simpa using h1
        clear HR HR2 HR3 h0
        rcases hk with rfl | rfl | rfl
        all_goals
          go_enter Try.func143, Try.ntmps143
          go_wp2
          go_ret
          exact ⟨rfl, B0.out⟩
      · have b2 : decide (256 < c) = false := by simpa using h1
        by_cases h2 : 8192 < n
        · have := HR3.out hk (by omega) (by omega) h2
          subst this
          have b3 : decide ((8192 : Int) < (n : Int)) = true := by simp; omega
          have b4 : (8192 : Int) < (n : Int) := by omega
          clear HR HR2 HR3 h0 h1
          rcases hk with rfl | rfl | rfl
          all_goals
            go_enter Try.func143, Try.ntmps143
            go_wp2
            go_ret
            exact ⟨rfl, B0.out⟩
        · have := HR.out hk (by omega) (by omega) (by omega)
          subst this
          have b3 : decide ((8192 : Int) < (n : Int)) = false := by simp; omega
          have b4 : (n : Int) ≤ 8192 := by omega
          clear HR HR2 HR3 h0 h1 h2
          rcases hk with rfl | rfl | rfl
          all_goals
            go_enter Try.func143, Try.ntmps143
            go_wp2
            go_ret
            exact ⟨rfl, B0.out⟩
  · have := HR2.out (.inl hk)
    subst this
    have k1 : (k == 1) = false := by simp; omega
    have k2 : (k == 2) = false := by simp; omega
    have k3 : (k == 3) = false := by simp; omega
    clear HR HR2 HR3 hk
    go_enter Try.func143, Try.ntmps143
    go_wp2
    go_ret
    exact ⟨rfl, B0.out⟩
def sgn4 (k : Nat) : Nat → Int
  | 0 => 77
  | 1 => 80
  | 2 => 78
  | _ => (k : Int) % 256
/-- the payload of a head -/
def hdF (k c n : Nat) : Nat → Int := catU (catU (sgn4 k) 4 (byW c)) 8 (byW n)
theorem sgn4_by (k m : Nat) : ByF m (sgn4 k) := fun j _ => by
  unfold sgn4
  split <;> omega
theorem hdF_by (k c n m : Nat) : ByF m (hdF k c n) := fun j _ => by
  unfold hdF catU
  split
  · split
    · exact sgn4_by k (j + 1) j (by omega)
    · exact byW_By _ (j - 4 + 1) _ (by omega)
  · exact byW_By _ (j - 8 + 1) _ (by omega)
set_option maxRecDepth 20000 in
set_option maxHeartbeats 4000000 in
theorem hpayG_any (k c n : Nat) (hk : k ≤ 255) (hc : c ≤ 4294967295) (hn : n ≤ 4294967295) (w : World) :
    Calls Try.prog 144 #[.agg #[.int .i64 (k : Int), .int .i64 (c : Int), .int .i64 (n : Int)]] w fun e w' => e = .returned (.agg (Q12 (hdF k c n))) ∧ Below w.heap.size w w' := by
  have hk' : (k : Int) ≤ 255 := by omega
  have hc' : (c : Int) ≤ 4294967295 := by omega
  have hn' : (n : Int) ≤ 4294967295 := by omega
  obtain ⟨w1, hw1⟩ : ∃ w1, (w.alloc (.cells #[.int .i64 (k : Int), .int .i64 (c : Int), .int .i64 (n : Int)] 175)).alloc (.cells #[Value.int .u8 0, Value.int .u8 0, Value.int .u8 0, Value.int .u8 0, Value.int .u8 0, Value.int .u8 0, Value.int .u8 0, Value.int .u8 0, Value.int .u8 0, Value.int .u8 0, Value.int .u8 0, Value.int .u8 0] 145) = w1 := ⟨_, rfl⟩
  have B0 : Hid (Below w.heap.size w w1) := Lib.hid (by rw [← hw1]; exact ((Below.refl _ w).alloc (Nat.le_refl _) _).alloc (by simp) _)
  have H0 : Hid (w1.heap[w.heap.size]? = some (.cells #[.int .i64 (k : Int), .int .i64 (c : Int), .int .i64 (n : Int)] 175 (0, 0))) := Lib.hid (by rw [← hw1]; exact (Below.heap_alloc _ _ _ (by simp)).trans (World.alloc_heap_new w _))
  have H1 : Hid (w1.heap[w.heap.size + 1]? = some (.cells #[Value.int .u8 0, Value.int .u8 0, Value.int .u8 0, Value.int .u8 0, Value.int .u8 0, Value.int .u8 0, Value.int .u8 0, Value.int .u8 0, Value.int .u8 0, Value.int .u8 0, Value.int .u8 0, Value.int .u8 0] 145 (0, 0))) := Lib.hid (by
    rw [← hw1]
    have := World.alloc_heap_new (w.alloc (.cells #[.int .i64 (k : Int), .int .i64 (c : Int), .int .i64 (n : Int)] 175)) (.cells #[Value.int .u8 0, Value.int .u8 0, Value.int .u8 0, Value.int .u8 0, Value.int .u8 0, Value.int .u8 0, Value.int .u8 0, Value.int .u8 0, Value.int .u8 0, Value.int .u8 0, Value.int .u8 0, Value.int .u8 0] 145)
    rw [World.size_alloc] at this
    exact this)
  have Z1 : Hid (w1.heap.size = w.heap.size + 1 + 1) := Lib.hid (by rw [← hw1]; simp)
  obtain ⟨wa, hwa⟩ : ∃ wa, w1.alloc (.cells #[.int .u8 77, .int .u8 80, .int .u8 78] 5 (3, 4)) = wa := ⟨_, rfl⟩
  obtain ⟨wb, hwb⟩ : ∃ wb, wa.alloc (.cells #[.int .u8 (k : Int)] 5) = wb := ⟨_, rfl⟩
  have hza : wa.heap.size = w1.heap.size + 1 := by rw [← hwa]; simp
  have CA : Hid (∀ j, j < 3 → wb.cell? ⟨w1.heap.size, 0 + j, none⟩ = some (.int .u8 (sgn4 k j))) := Lib.hid (fun j hj => by
    rw [← hwb, ((Below.refl _ wa).alloc (Nat.le_refl _) _).cell (p := ⟨w1.heap.size, 0 + j, none⟩) (by show w1.heap.size < _; omega), ← hwa, Nat.zero_add]
    refine (Lib.cell_of_heap (World.alloc_heap_new w1 _) j).trans ?_
    match j, hj with
    | 0, _ => rfl
    | 1, _ => rfl
    | 2, _ => rfl)
  have CB : Hid (∀ j, j < 1 → wb.cell? ⟨wa.heap.size, 0 + j, none⟩ = some (.int .u8 (k : Int))) := Lib.hid (fun j hj => by
    obtain rfl : j = 0 := by omega
    rw [← hwb]
    exact (World.cell?_alloc_new _ _ _ _).trans rfl)
  have BA : Hid (Below w1.heap.size w1 wb) := Lib.hid (by rw [← hwb, ← hwa]; exact ((Below.refl _ w1).alloc (Nat.le_refl _) _).alloc (by simp) _)
  have ZB : Hid (w1.heap.size ≤ wb.heap.size) := Lib.hid BA.out.size
  have HW : Hid (∀ W, Below w1.heap.size w1 W → W.cell? ⟨w.heap.size, 1, none⟩ = some (.int .i64 (c : Int)) ∧ W.cell? ⟨w.heap.size, 2, none⟩ = some (.int .i64 (n : Int)) ∧ W.heap[w.heap.size + 1]? = some (.cells #[Value.int .u8 0, Value.int .u8 0, Value.int .u8 0, Value.int .u8 0, Value.int .u8 0, Value.int .u8 0, Value.int .u8 0, Value.int .u8 0, Value.int .u8 0, Value.int .u8 0, Value.int .u8 0, Value.int .u8 0] 145 (0, 0))) := Lib.hid (fun W hW => by
    have z := Z1.out
    have e := (hW.block w.heap.size (by omega)).trans H0.out
    exact ⟨Lib.cell_of_heap e 1, Lib.cell_of_heap e 2, (hW.block _ (by omega)).trans H1.out⟩)
  have fa0 : wa.cell? ⟨w.heap.size, 0, none⟩ = some (.int .i64 (k : Int)) := by
    have e : wa.heap[w.heap.size]? = w1.heap[w.heap.size]? := by rw [← hwa]; exact Below.heap_alloc _ _ _ (by have := Z1.out; omega)
    exact Lib.cell_of_heap (e.trans H0.out) 0
  have hcv : (convert 95 95 (.slice (some ⟨w1.heap.size, 0, none⟩) 3 3)).run Try.prog (w1.alloc (.cells #[.int .u8 77, .int .u8 80, .int .u8 78] 5)) = .ok (.slice (some ⟨w1.heap.size, 0, none⟩) 3 3) wa := by rw [← hwa]; exact Lib.run_convert_bytes_const w1 95 5 _ 3 3 Try.underlying95 Try.underlying5
  have Zs := Z1.out
  rw [Zs] at hcv CA
  have ZA : wa.heap.size = w.heap.size + 1 + 1 + 1 := by omega
  rw [ZA] at CB
  clear hza hk hc hn
  go_enter Try.func144, Try.ntmps144
  have HDE : Hid (hdF k c n = catU (catU (sgn4 k) 4 (byW c)) 8 (byW n)) := Lib.hid rfl
  have S4 : Hid (∀ j, j < 4 → catU (sgn4 k) 3 (fun _ => (k : Int)) j = sgn4 k j) := Lib.hid (fun j hj => by
    unfold catU
    split
    · rfl
    · obtain rfl : j = 3 := by omega
      show (k : Int) = (k : Int) % 256
      omega)
  go_wp2_with (at_builtin; refine wpList_append_full rfl _ _ rfl (w.heap.size + 1 + 1) 0 3 (sgn4 k) rfl CA.out (w.heap.size + 1 + 1 + 1) 0 1 1 (fun _ => (k : Int)) rfl CB.out (by omega) (by omega) w1.heap.size ZB.out w1 BA.out ?_; intro v' w' h1 h2; have G1 := Lib.hid h1; have G2 := Lib.hid h2; have G3 := Lib.hid (HW.out _ h2); have g1 := G3.out.1; clear h1 h2)
  have O1 : Hid (OwnU w1.heap.size v' 4 (sgn4 k) w') := Lib.hid ((show OwnU _ _ 4 _ _ from G1.out).congr S4.out)
  have WZ : Hid (w1.heap.size ≤ w'.heap.size) := Lib.hid G2.out.size
  clear g1 fa0 hcv hwa hwb Zs ZA hw1
  refine Calls.mono (appendWord_own v' 4 (sgn4 k) w1.heap.size c w' (by omega) WZ.out O1.out) ?_
  rintro e w3 ⟨v3, rfl, h3, b3⟩
  have O3 := Lib.hid h3
  have B3 := Lib.hid (G2.out.trans b3)
  have WZ3 : Hid (w1.heap.size ≤ w3.heap.size) := Lib.hid B3.out.size
  have g2 := (HW.out _ B3.out).2.1
  clear h3 b3 G1 G2 G3 O1 WZ
  go_wp2_with fail
  refine Calls.mono (appendWord_own v3 8 _ w1.heap.size n w3 (by omega) WZ3.out O3.out) ?_
  rintro e w4 ⟨v4, rfl, h4, b4⟩
  have B4 := Lib.hid (B3.out.trans b4)
  rw [← HDE.out] at h4
  obtain ⟨g, cap, rfl, hcap, hg, -, hc4⟩ := (show OwnU _ _ 12 _ _ from h4).form (by omega)
  have C4 := Lib.hid hc4
  have hat := fun W => run_arrayAtF (P := Try.prog) 145 _ 12 (some ⟨g, 0, none⟩) (8 + 4) cap Try.underlying145 (by omega) W
  have I1 := Lib.hid (HW.out _ B4.out).2.2
  have IB : Hid (Below w.heap.size w w4) := Lib.hid (B0.out.trans (B4.out.mono (by have := Z1.out; omega)))
  clear g2 h4 b4 hc4 hg hcap O3 B3 WZ3 HDE
  obtain ⟨m, hm⟩ : ∃ m, hdF k c n = m := ⟨_, rfl⟩
  rw [hm] at C4
  have HM := Lib.hid hm
  clear hm
  go_wp2_with (first | (refine wpList_load_part rfl 145 _ rfl g 0 rfl (Q12 m) _ (fun j v e => by
      have hj : j < 12 := by
        rcases Nat.lt_or_ge j 12 with h | h
        · exact h
        · rw [arr_none _ _ _ _ h] at e; cases e
      rw [Nat.zero_add, C4.out j hj, ← e, arr_get _ _ _ _ hj]) Try.underlying145 rfl (p12_info _ (arr_size _ _ _)) ?_) | (refine wpList_store_row rfl 145 _ _ rfl (w.heap.size + 1) (Q12 m) rfl rfl 145 _ I1.out (p12_info _ rfl) rfl (arr_cells _ _ _) ?_))
  refine bodyPost_ret (v := .agg (Q12 m)) ?_ rfl ⟨by rw [HM.out], ?_⟩
  · exact results_cell_row Try.results144 _ _ (w.heap.size + 1) _ _ _ _ rfl (setRow_heap _ _ _ _ _ _ I1.out) Try.underlying145 rfl (p12_info _ (arr_size _ _ _))
  · exact below_setRow IB.out (by omega) _
theorem hpay_any (k c n : Nat) (hk : k ≤ 3) (hc : c ≤ 256) (hn : n ≤ 8192) (w : World) :
    Calls Try.prog 144 #[.agg #[.int .i64 (k : Int), .int .i64 (c : Int), .int .i64 (n : Int)]] w fun e w' => e = .returned (.agg (Q12 (hdF k c n))) ∧ Below w.heap.size w w' :=
  hpayG_any k c n (by omega) (by omega) (by omega) w
end Go.Proofs.Ythfmkejdpflpcaa
/-
  CONTRACTS: SpoilFrame of both sides.
-/
namespace Go.Proofs.Ythfmkejdpflpcaa
open Go.ChangeShapes Go.WideShapes Go.ChangeAt Go.RowKit
def spOk (n : Nat) (t b : Int) : Bool := decide (0 ≤ t) && decide (t < n) && decide (0 ≤ b) && decide (b < 128)
def spC (n : Nat) (t b : Int) : Int := if 700 < n then 3 else if spOk n t b then 0 else 2
def spN (n : Nat) (t b : Int) : Nat := if spC n t b = 0 then n else 0
def spF (f : Nat → Int) (t b : Int) : Nat → Int := updI f (t.toNat * 16 + b.toNat / 8) (bits .xor .u8 (f (t.toNat * 16 + b.toNat / 8)) (2 ^ (b.toNat % 8)))
def SpPost (f : Nat → Int) (n : Nat) (t b : Int) (w : World) (e : Ending) (w' : World) : Prop :=
  ∃ v, e = .returned (.tuple #[v, .int .i64 (spC n t b)]) ∧ PR 16 w.heap.size w'.heap.size w' v (spN n t b) (FF (spF f t b)) ∧ Below w.heap.size w w'
theorem spOk_nat {n : Nat} {t b : Int} (h : spOk n t b = true) : ∃ T B : Nat, t = T ∧ b = B ∧ T < n ∧ B < 128 := by
  simp [spOk] at h
  exact ⟨t.toNat, b.toNat, by omega, by omega, by omega, by omega⟩
theorem PR.empty (s lo hi : Nat) (w : World) (a : Option Addr) (c : Nat) (f : Nat → Value) : PR s lo hi w (.slice a 0 c) 0 f := ⟨a, c, rfl, .inl rfl⟩
theorem OwnFr.form {base : Nat} {v : Value} {n : Nat} {f : Nat → Int} {w : World} (h : OwnFr base v n f w) (hn : 0 < n) : ∃ g cap, v = .slice (some ⟨g, 0, none⟩) n cap ∧ n ≤ cap ∧ base ≤ g ∧ g < w.heap.size ∧ (∀ j, j < n * 16 → w.cell? ⟨g, j, none⟩ = some (.int .u8 (f j))) ∧ ∀ j, j < n * 16 → w.frozen? ⟨g, j, none⟩ = false := by
  have hp := h.pr
  rcases h.2 with ⟨_, h0⟩ | ⟨g, cap, cur, rfl, hb, hg, h3, _⟩
  · omega
  · obtain ⟨a, c, e, h0 | ⟨g', h1, h2, h4, h5, h6, h7⟩⟩ := hp
    · omega
    · subst h1
      simp only [Value.slice.injEq, Option.some.injEq, Addr.mk.injEq] at e
      obtain ⟨⟨rfl, -⟩, -, rfl⟩ := e
      exact ⟨g, cap, rfl, h3, hb, h4, fun j hj => h6 j hj, h7⟩
theorem PR.upd {lo hi g n cap i : Nat} {w : World} {f : Nat → Int} (x : Int) (h1 : lo ≤ g) (h2 : g < hi) (h3 : hi ≤ w.heap.size) (h4 : ∀ j, j < n * 16 → w.cell? ⟨g, j, none⟩ = some (.int .u8 (f j))) (h5 : ∀ j, j < n * 16 → w.frozen? ⟨g, j, none⟩ = false) :
    PR 16 lo hi (w.setCell ⟨g, i, none⟩ (.int .u8 x)) (.slice (some ⟨g, 0, none⟩) n cap) n (FF (updI f i x)) :=
  ⟨_, cap, rfl, .inr ⟨g, rfl, h1, h2, by simpa using h3, fun j hj => by
    rw [fcell_set (h4 j hj)]
    unfold FF updI
    by_cases e : i = j
    · rw [if_pos e, if_pos e.symm]
    · rw [if_neg e, if_neg (fun h => e h.symm)], fun j hj => by rw [World.frozen?_setCell]; exact h5 j hj⟩⟩
theorem shl8 (r : Nat) (h : r < 8) : (2 : Int) ^ r % 256 = 2 ^ r := by
  have : r = 0 ∨ r = 1 ∨ r = 2 ∨ r = 3 ∨ r = 4 ∨ r = 5 ∨ r = 6 ∨ r = 7 := by omega
  rcases this with rfl | rfl | rfl | rfl | rfl | rfl | rfl | rfl <;> rfl
end Go.Proofs.Ythfmkejdpflpcaa
/-
  WHAT THE LAWS ASK BESIDES: sizes.
-/
namespace Go.Proofs.Ythfmkejdpflpcaa
open Go.ChangeShapes Go.WideShapes Go.ChangeAt Go.RowKit
theorem szF_any (a : Option Addr) (n cap left : Nat) (hl : left ≤ 1048576) (hn : n ≤ maxLen) (w : World) :
    Calls Try.prog 48 #[.slice a n cap, .int .i64 (left : Int)] w fun e w' => e = .returned (.int .i64 (if left < n then (-1 : Int) else ((left - n : Nat) : Int))) ∧ w = w' := by
  unfold maxLen at hn
  by_cases h : left < n
  · rw [if_pos h]
    have h1 : ((left : Int) - (n : Int) < 0) := by omega
    go_enter Try.func48, Try.ntmps48
    go_wp2
    go_ret
    exact ⟨rfl, rfl⟩
  · rw [if_neg h]
    have h1 : (0 : Int) ≤ (left : Int) - (n : Int) := by omega
    have h2 : ((left - n : Nat) : Int) = (left : Int) - (n : Int) := by omega
    rw [h2]
    go_enter Try.func48, Try.ntmps48
    go_wp2
    go_ret
    exact ⟨rfl, rfl⟩
theorem spN_le (n : Nat) (t b : Int) : spN n t b ≤ 1048576 := by
  unfold spN
  split
  · rename_i h
    unfold spC at h
    split at h
    · omega
    · omega
  · omega
end Go.Proofs.Ythfmkejdpflpcaa
/-
  CONTRACTS: BytesOfFrames of both sides.
-/
namespace Go.Proofs.Ythfmkejdpflpcaa
open Go.ChangeShapes Go.WideShapes Go.ChangeAt Go.RowKit
def boC (n : Nat) : Int := if 700 < n then 3 else 0
def boN (n : Nat) : Nat := if 700 < n then 0 else 16 * n
theorem boN_le (n : Nat) : boN n ≤ 1048576 := by unfold boN; split <;> omega
theorem OwnU.made (q : Nat → Int) (w : World) (base : Nat) (hb : base ≤ w.heap.size) : OwnU base (.slice (some ⟨w.heap.size, 0, none⟩) 0 0) 0 q (w.alloc (.cells #[] 5)) :=
  ⟨rfl, .inr ⟨w.heap.size, 0, #[], rfl, hb, heap_alloc_new w _, Nat.le_refl _, Nat.zero_le _, rfl, rfl⟩⟩
end Go.Proofs.Ythfmkejdpflpcaa
