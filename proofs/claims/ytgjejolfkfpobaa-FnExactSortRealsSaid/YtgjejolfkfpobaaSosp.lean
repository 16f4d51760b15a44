/-
  CONTRACT: the specification's SortReals.
-/
import Derived.Test.YtgjejolfkfpobaaSoi
import Derived.Deep.AppendLies
import Derived.Deep.RegionLaw
import Derived.Deep.RegionLawGrows
import Derived.Deep.AppendSrc
namespace Go.Proofs.Ytgjejolfkfpobaa
open Go.ChangeShapes Go.WideShapes Go.ChangeAt Go.RowKit Go.Deep
open Fl
theorem slice_from (g k cap p : Nat) (hp : p ≤ k) (hk : k ≤ 256) (hc : k ≤ cap) : ∃ o : Nat, (p < k → o = p) ∧ ∀ w, (Instr.slice 24 (.slice (some ⟨g, 0, none⟩) k cap) (some (.int .i64 (p : Int))) none none).run Try.prog w = .ok (.slice (some ⟨g, o, none⟩) (k - p) (cap - p)) w := by
  refine ⟨if cap = p then 0 else p, fun h => if_neg (by omega), fun w => ?_⟩
  have hs : ∀ w, (sizeOf (Try.prog.elem 24)).run Try.prog w = .ok 1 w := fun w => by kernel_rfl
  rw [run_slice_l (P := Try.prog) (w := w) 24 (some ⟨g, 0, none⟩) k cap (by kernel_rfl) .i64 (p : Int) (by omega) (by omega), hs]
  simp only [Result.andThen_ok, sliced, Int.toNat_natCast]
  by_cases h : cap = p
  · simp [h]
  · simp [h, add_off]
theorem slice_to (g k cap p : Nat) (hp : p ≤ k) (hk : k ≤ 256) (hc : k ≤ cap) (w : World) : (Instr.slice 24 (.slice (some ⟨g, 0, none⟩) k cap) none (some (.int .i64 (p : Int))) none).run Try.prog w = .ok (.slice (some ⟨g, 0, none⟩) p cap) w := by
  have hs : ∀ w, (sizeOf (Try.prog.elem 24)).run Try.prog w = .ok 1 w := fun w => by kernel_rfl
  rw [run_slice_h (P := Try.prog) (w := w) 24 (some ⟨g, 0, none⟩) k cap (by kernel_rfl) .i64 (p : Int) (by omega) (by omega), hs]
  simp [Result.andThen_ok, sliced, add_off]
/-- what has been sorted so far -/
structure SortedTo (base : Nat) (bs : List Nat) (k : Nat) (L : List Nat) (v : Value) (w0 w : World) : Prop where
  own : OwnF base v L w
  ne : v ≠ .slice none 0 0
  len : L.length = k
  asc : Asc L
  perm : L.Perm (bs.take k)
  bel : Below base w0 w
theorem SortedTo.drewS {base : Nat} {bs : List Nat} {k : Nat} {L : List Nat} {v : Value} {w0 w w1 : World} (h : SortedTo base bs k L v w0 w) (d : DrewSame w w1) : SortedTo base bs k L v w0 w1 := by
  obtain ⟨n, rfl⟩ := d
  exact ⟨h.own, h.ne, h.len, h.asc, h.perm, h.bel.trans (DrewSame.below ⟨n, rfl⟩)⟩
theorem own_one (B : Nat) (w : World) (a : Nat) (h : B ≤ w.heap.size) : OwnF B (.slice (some ⟨w.heap.size, 0, none⟩) 1 1) [a] (w.alloc (.cells #[.float .f32 a] 31)) :=
  ⟨rfl, .inr ⟨w.heap.size, 1, #[.float .f32 a], rfl, h, heap_alloc_new w _, Nat.le_refl _, by unfold maxLen; omega, rfl, rfl⟩⟩
theorem tail_cells {w1 : World} {g k p o : Nat} {L : List Nat} {v : Value} (hc : ∀ j, j < k → w1.cell? ⟨g, j, none⟩ = some (.float .f32 (L[j]?.getD 0))) (hg : g < w1.heap.size) (hp : p ≤ k) (ho : p < k → o = p) (j : Nat) (hj : j < k - p) :
    (w1.alloc (.cells #[v] 31)).cell? ⟨g, o + j, none⟩ = some (.float .f32 ((L.drop p)[j]?.getD 0)) := by
  rw [World.cell?_alloc_lt _ _ _ hg, ho (by omega), hc (p + j) (by omega), List.getElem?_drop]
theorem own_zero (w2 : World) (B : Nat) (h : B ≤ w2.heap.size) : OwnF B (.slice (some ⟨w2.heap.size, 0, none⟩) 0 0) [] (w2.alloc (.cells #[] 31)) := World.ownsRow_made (size := 1) w2 #[] 0 h (by unfold maxLen; omega) rfl
theorem head_cells {w2 : World} {g k p : Nat} {L : List Nat} {o : Obj} (hc : ∀ j, j < k → w2.cell? ⟨g, j, none⟩ = some (.float .f32 (L[j]?.getD 0))) (hg : g < w2.heap.size) (hp : p ≤ k) (j : Nat) (hj : j < p) :
    (w2.alloc o).cell? ⟨g, 0 + j, none⟩ = some (.float .f32 ((L.take p)[j]?.getD 0)) := by
  rw [Nat.zero_add, World.cell?_alloc_lt _ _ _ hg, hc j (by omega), List.getElem?_take_of_lt hj]
theorem tail_later {w2 w3 : World} {g2 : Nat} {r : List Nat} {o : Obj} (h2 : g2 < w2.heap.size) (h3 : ∀ j, j < r.length → w2.cell? ⟨g2, j, none⟩ = some (.float .f32 (r[j]?.getD 0)) ∧ w2.frozen? ⟨g2, j, none⟩ = false) (hg : (w2.alloc o).grownBy w3 (Value.slice (some ⟨w2.heap.size, 0, none⟩) 0 0).ownBlock) (j : Nat) (hj : j < r.length) :
    w3.cell? ⟨g2, 0 + j, none⟩ = some (.float .f32 (r[j]?.getD 0)) := by
  rw [Nat.zero_add, hg.cell_far ⟨g2, j, none⟩ (by simp; omega) (by intro e; have := Option.some.inj e; simp at this; omega), World.cell?_alloc_lt _ _ _ h2]
  exact (h3 j hj).1
theorem far_cells {w1 w2 : World} {g k : Nat} {L : List Nat} {o : Obj} (hc : ∀ j, j < k → w1.cell? ⟨g, j, none⟩ = some (.float .f32 (L[j]?.getD 0))) (hg : g < w1.heap.size) (hgr : (w1.alloc o).drew.grownBy w2 (Value.slice (some ⟨w1.heap.size, 0, none⟩) 1 1).ownBlock) (j : Nat) (hj : j < k) :
    w2.cell? ⟨g, j, none⟩ = some (.float .f32 (L[j]?.getD 0)) := by
  rw [hgr.cell_far ⟨g, j, none⟩ (by simp; omega) (by intro e; have := Option.some.inj e; simp at this; omega)]
  show (w1.alloc o).cell? _ = _
  rw [World.cell?_alloc_lt _ _ _ hg]
  exact hc j hj
theorem put_perm {L bs : List Nat} {k p : Nat} (h : L.Perm (bs.take k)) (hk : k < bs.length) : (putAt L p (bs[k]?.getD 0)).Perm (bs.take (k + 1)) := by
  refine (putAt_perm _ _ _).trans ((h.cons _).trans ?_)
  rw [List.take_add_one, List.getElem?_eq_getElem hk]
  exact (List.perm_append_comm (l₁ := [bs[k]]) (l₂ := bs.take k))
/-- 'append(part, rest...)' at a step of a region that draws -/
theorem step_append_f {ops : Array Oper} {o : Oper} {a : Act} (W : World) {K : Act → World → Prop} {Q : Exit → Act → World → Prop} {E : Prop} (hgd : o.guard = none) (s x : Operand)
    (ho : o.op = .call { callee := .builtin .append, args := #[s, x], argTypes := #[24, 24] })
    (base : Nat) (v : Value) (l : List Nat) (hs : a.eval s = v) (hown : OwnF base v l W) (g off m c : Nat) (hx : a.eval x = .slice (some ⟨g, off, none⟩) m c) (r : List Nat) (hr : r.length = m)
    (hc : ∀ j, j < m → W.cell? ⟨g, off + j, none⟩ = some (.float .f32 (r[j]?.getD 0))) (hl : l.length + m ≤ 100000000) (hbase : base ≤ W.heap.size)
    (w0 : World) (hb : Below base w0 W) (hn : v ≠ .slice none 0 0)
    (h : ∀ v' w', OwnF base v' (l ++ r) w' → Below base w0 w' → W.grownBy w' v.ownBlock → v' ≠ .slice none 0 0 → K (a.put o.dst v') w') : if Region.wanted o (yielded ops a.tmps) = true then Oper.wp Try.prog o a W K Q else E := by
  have hw : Region.wanted o (yielded ops a.tmps) = true := by simp [Region.wanted, hgd]
  rw [if_pos hw]
  obtain ⟨i0, hi, hz0, hz1, hz2⟩ := info_parts info_f32
  refine wp_append_own W s x 24 ho base 31 i0 (.float .f32 0) 1 4 Try.underlying24 hi hz0 hz1 hz2 rfl (by decide) v l.length (numC l) hs hown ⟨g, off, none⟩ m c (numC r) hx (by rw [numC_len, hr, Nat.mul_one]) ?_ ?_ (by unfold maxLen; omega) (by omega) hbase ?_
  · intro j u hj
    obtain ⟨h1, rfl⟩ := numC_at' hj
    rw [add_off]
    exact hc j (by omega)
  · intro u hu
    obtain ⟨_, _, rfl⟩ := List.mem_map.1 hu
    rfl
  · intro v' w' h1 h2 h3
    refine h v' w' ?_ ?_ h2 ?_
    · unfold OwnF
      rw [List.length_append, hr, ← numC_app]
      exact h1
    · exact hb.grown h2 hbase (fun k hk => (World.ownsRow.lt hown k hk).1)
    · intro e; exact hn (h3.1 e).1
set_option maxHeartbeats 4000000 in
set_option maxRecDepth 8000 in
theorem specSort_ok (x len : Nat) (bs : List Nat) (w : World) (hl : len ≤ 256) (hlen : bs.length = len) (hw : ∀ a ∈ bs, W32 a) (hx : NumRow w x len bs) :
    Calls Try.prog 10 #[.slice (some ⟨x, 0, none⟩) len len] w (SortPost len bs w) := by
  have HX := Lib.hid hx
  have HN := Lib.hid hlen
  have HW := Lib.hid hw
  have S0 : Hid (SortedTo w.heap.size bs 0 [] (.slice (some ⟨w.heap.size, 0, none⟩) 0 0) w (w.alloc (.cells #[] 31))) := Lib.hid ⟨World.ownsRow_made (size := 1) w #[] 0 (Nat.le_refl _) (by unfold maxLen; omega) rfl, by simp, rfl, List.Pairwise.nil, List.Perm.refl _, (Below.refl _ _).alloc (Nat.le_refl _) _⟩
  have hl' : (len : Int) ≤ 256 := by omega
  have t1 : decide ((256 : Int) < (len : Int)) = false := by simp; omega
  clear hx hlen hw
  go_enter Try.func10, Try.ntmps10
  go_wp2
  clear t1
  go_loopw [4, 5] (fun v i wr => ∃ (k : Nat) (L : List Nat), k ≤ len ∧ i = .int .i64 k ∧ SortedTo w.heap.size bs k L v w wr) (fun _ i _ => len - (intOf i).toNat)
  case atStart => exact ⟨0, [], Nat.zero_le _, rfl, S0.out⟩
  case round =>
    obtain ⟨k, L, hk, rfl, hS⟩ := hrel
    obtain ⟨wo, rfl⟩ : ∃ wo : World, wo = wr := ⟨_, rfl⟩
    obtain ⟨g, cap, rfl, hg0, hg1, hg2, hg3, _, hg4⟩ := hS.own.form hS.ne
    have hLk := hS.len
    rw [hLk] at hg2 hg4 hS ⊢
    have SS := Lib.hid hS
    have C := Lib.hid hg4
    have G0 := Lib.hid hg0
    have G1 := Lib.hid hg1
    have G2 := Lib.hid hg2
    have G3 := Lib.hid hg3
    have LK := Lib.hid hLk
    clear hS hg0 hg1 hg2 hg3 hg4 hLk S0
    by_cases hlt : k < len
    · have t1 : decide ((k : Int) < (len : Int)) = true := by simp; omega
      have hk' : (k : Int) ≤ 255 := by omega
      have gx : Hid (∀ wr, DrewSame wo wr → wr.cell? ⟨x, k, none⟩ = some (.float .f32 (bs[k]?.getD 0))) := Lib.hid fun wr hd => ((HX.out.below SS.out.bel HX.out.1).below (hd.below (B := wo.heap.size)) (Nat.lt_of_lt_of_le HX.out.1 SS.out.bel.size)).2.2 k hlt
      have go : Hid (∀ wr, DrewSame wo wr → ∀ j, j < k → wr.cell? ⟨g, j, none⟩ = some (.float .f32 (L[j]?.getD 0))) := Lib.hid fun wr hd j hj => by
        obtain ⟨m, rfl⟩ := hd
        exact (C.out j hj).1
      have WX : Hid (W32 (bs[k]?.getD 0)) := Lib.hid (HX.out.2.1 k hlt)
      have WL : Hid (∀ j, j < k → W32 (L[j]?.getD 0)) := Lib.hid fun j hj => by
        have hj2 : j < L.length := by rw [LK.out]; exact hj
        rw [List.getElem?_eq_getElem hj2]
        exact HW.out _ (List.mem_of_mem_take (SS.out.perm.mem_iff.1 (List.getElem_mem hj2)))
      go_wp2
      go_loopw [6] (fun i wr => ∃ p : Nat, p ≤ k ∧ i = .int .i64 p ∧ (∀ j, p ≤ j → j < k → skey (bs[k]?.getD 0) < skey (L[j]?.getD 0)) ∧ DrewSame wo wr) (fun i _ => (intOf i).toNat)
      case atStart => exact ⟨k, Nat.le_refl _, rfl, fun j h1 h2 => absurd h2 (by omega), DrewSame.refl _⟩
      case round =>
        obtain ⟨p, hp, rfl, hj, hd⟩ := hrel
        have HJ := Lib.hid hj
        have HD := Lib.hid hd
        clear hj hd
        by_cases hgo : 0 < p ∧ skey (bs[k]?.getD 0) < skey (L[p - 1]?.getD 0)
        · obtain ⟨q, rfl⟩ : ∃ q, p = q + 1 := ⟨p - 1, by omega⟩
          have tb : bef (bs[k]?.getD 0) (L[q]?.getD 0) = true := by simpa [bef] using hgo.2
          have gx1 := gx.out wr HD.out
          have go1 := go.out wr HD.out q (by omega)
          have hp' : (q : Int) ≤ 255 := by omega
          have WL1 := Lib.hid (WL.out q (by omega))
          have tq : decide ((0 : Int) < ((q : Int) + 1)) = true := by simp <;> omega
          have HJ2 : Hid (∀ j, q ≤ j → j < k → skey (bs[k]?.getD 0) < skey (L[j]?.getD 0)) := Lib.hid fun j h1 h2 => by
            by_cases h : j = q
            · rw [h]; exact hgo.2
            · exact HJ.out j (by omega) h2
          clear hgo
          rw [show (((q + 1 : Nat)) : Int) = (q : Int) + 1 from by omega]
          have hwr : Hid (∀ n, Calls Try.prog 39 #[.float .f32 (bs[k]?.getD 0), .float .f32 (L[q]?.getD 0)] (wr.drewN n) fun e w'' => e = .returned (.bool true) ∧ ∃ m, w'' = wr.drewN m) := Lib.hid fun n =>
            (before_any _ _ WX.out WL1.out _).mono fun e w' ⟨h1, h2⟩ => ⟨by rw [h1, tb], n, h2.symm⟩
          go_wp2
          go_quiet ((go_at_call 39; exact hwr.out _))
          go_wp2
          go_roundw
          case rel => exact ⟨q, by omega, by go_num, HJ2.out, HD.out.n _⟩
          case measure => simp [intOf]
        · have hstop : 0 < p → ¬ skey (bs[k]?.getD 0) < skey (L[p - 1]?.getD 0) := fun h1 h2 => hgo ⟨h1, h2⟩
          have NS : Hid (Asc (putAt L p (bs[k]?.getD 0))) := Lib.hid (putAt_asc SS.out.asc (by rw [LK.out]; exact hp) (fun j h1 h2 => HJ.out j h1 (by rw [← LK.out]; exact h2)) hstop)
          have HST := Lib.hid hstop
          clear hgo hstop
          have hp' : (p : Int) ≤ 255 := by omega
          have HP := Lib.hid hp
          by_cases h0 : p = 0
          · obtain rfl : p = 0 := h0
            go_wp2
            go_quiet (fail)
            generalize hW : wr.drewN nq = w1
            have HD1 : Hid (DrewSame wo w1) := Lib.hid (by rw [← hW]; exact HD.out.n _)
            clear hW HD HJ HST
            go_wp2
            have gx2 := gx.out w1 HD1.out
            have HO : Hid (0 < k → 0 = 0) := Lib.hid fun _ => rfl
            have SW : Hid (Below w.heap.size w w1) := Lib.hid (SS.out.bel.trans (HD1.out.below))
            have GW : Hid (g < w1.heap.size) := Lib.hid (Nat.lt_of_lt_of_le G1.out (HD1.out.below (B := 0)).size)
            have GC : Hid (∀ j, j < k → w1.cell? ⟨g, j, none⟩ = some (.float .f32 (L[j]?.getD 0))) := Lib.hid (go.out w1 HD1.out)
            have TC : Hid (∀ j, j < k → (w1.alloc (.cells #[.float .f32 (bs[k]?.getD 0)] 31)).cell? ⟨g, 0 + j, none⟩ = some (.float .f32 ((L.drop 0)[j]?.getD 0))) := Lib.hid (tail_cells GC.out GW.out HP.out HO.out)
            have O1 : Hid (OwnF w.heap.size (.slice (some ⟨w1.heap.size, 0, none⟩) 1 1) [bs[k]?.getD 0] (w1.alloc (.cells #[.float .f32 (bs[k]?.getD 0)] 31))) := Lib.hid (own_one _ w1 _ SW.out.size)
            have B1 : Hid (Below w.heap.size w (w1.alloc (.cells #[.float .f32 (bs[k]?.getD 0)] 31)).drew) := Lib.hid (SW.out.alloc SW.out.size _).drew
            clear gx HD1
            go_region_law (refine step_append_f _ rfl (.tmp 41) (.tmp 44) rfl w.heap.size (.slice (some ⟨w1.heap.size, 0, none⟩) 1 1) [bs[k]?.getD 0] rfl O1.out g 0 (k) (cap) rfl (L.drop 0) (by simp [LK.out]) TC.out (by simp; omega) B1.out.size w B1.out (by simp) ?_; intro v2 w2 ho2 hb2 hgr2 hn2)
            obtain ⟨g2, cap2, rfl, _, hg2, _, _, _, hc2⟩ := ho2.form hn2
            obtain ⟨n2, hnn⟩ : ∃ n2, ([bs[k]?.getD 0] ++ L.drop 0).length = n2 := ⟨_, rfl⟩
            have HN2 := Lib.hid hnn
            rw [hnn]
            clear hnn
            have GC1 : Hid (∀ j, j < k → w2.cell? ⟨g, j, none⟩ = some (.float .f32 (L[j]?.getD 0))) := Lib.hid (far_cells GC.out GW.out hgr2)
            have GW2 : Hid (g < w2.heap.size) := Lib.hid (by have h1 := hgr2.size; have h2 := GW.out; simp at h1; omega)
            have G22 := Lib.hid hg2
            have C22 := Lib.hid hc2
            have B2' := Lib.hid hb2
            clear ho2 hb2 hgr2 hn2 hg2 hc2 SW GW GC TC O1 B1
            have hslt : ∀ w, (Instr.slice 24 (.slice (some ⟨g, 0, none⟩) k cap) none (some (.int .i64 0)) none).run Try.prog w = .ok (.slice (some ⟨g, 0, none⟩) 0 cap) w := fun w => slice_to g k cap 0 HP.out (by omega) G2.out w
            have O2 : Hid (OwnF w.heap.size (.slice (some ⟨w2.heap.size, 0, none⟩) 0 0) [] (w2.alloc (.cells #[] 31))) := Lib.hid (own_zero w2 _ B2'.out.size)
            have B2 : Hid (Below w.heap.size w (w2.alloc (.cells #[] 31))) := Lib.hid (B2'.out.alloc B2'.out.size _)
            have GC2 : Hid (∀ j, j < 0 → (w2.alloc (.cells #[] 31)).cell? ⟨g, 0 + j, none⟩ = some (.float .f32 ((L.take 0)[j]?.getD 0))) := Lib.hid (head_cells GC1.out GW2.out HP.out)
            have LEN2 : Hid (([bs[k]?.getD 0] ++ L.drop 0).length ≤ 300) := Lib.hid (by rw [List.length_append, List.length_drop, LK.out]; simp; omega)
            go_wp2_with (first | (refine wpList_append_f rfl (.tmp 46) (.tmp 49) rfl w.heap.size (.slice (some ⟨w2.heap.size, 0, none⟩) 0 0) [] rfl O2.out g 0 0 cap rfl (L.take 0) (by rw [List.length_take, LK.out]; have := HP.out; omega) GC2.out (by rw [List.length_nil]; omega) B2.out.size w B2.out (by simp) ?_; intro v3 w3 ho3 hb3 hgr3 hn3; have O3 : Hid (OwnF w.heap.size v3 (L.take 0) w3) := Lib.hid ho3; have B3 := Lib.hid hb3; have N3 := Lib.hid hn3; have T3 : Hid (∀ j, j < n2 → w3.cell? ⟨g2, 0 + j, none⟩ = some (.float .f32 (([bs[k]?.getD 0] ++ L.drop 0)[j]?.getD 0))) := Lib.hid (by rw [← HN2.out]; exact tail_later G22.out C22.out hgr3); clear ho3 hb3 hn3 hgr3) | (refine wpList_append_f rfl (.tmp 50) (.tmp 51) rfl w.heap.size v3 (L.take 0) rfl O3.out g2 0 n2 cap2 rfl ([bs[k]?.getD 0] ++ L.drop 0) HN2.out T3.out (by have := LEN2.out; have h3 := HN2.out; have h1 := List.length_take_le' 0 L; have h2 := LK.out; omega) B3.out.size w B3.out N3.out ?_; intro v4 w4 ho4 hb4 _ hn4))
            have R : Hid (SortedTo w.heap.size bs (k + 1) (putAt L 0 (bs[k]?.getD 0)) v4 w w4) := Lib.hid ⟨ho4, hn4, by rw [putAt_length _ _ _ (by rw [LK.out]; exact HP.out), LK.out], NS.out, put_perm SS.out.perm (by rw [HN.out]; exact hlt), hb4⟩
            clear ho4 hn4 hb4
            go_wp2
            go_roundw
            case rel => exact ⟨k + 1, putAt L 0 (bs[k]?.getD 0), by omega, by go_num, R.out⟩
            case measure => simp [intOf]; omega
          · obtain ⟨q, hq⟩ : ∃ q, p = q + 1 := ⟨p - 1, by omega⟩
            have e : (p : Int) = (q : Int) + 1 := by omega
            have E := Lib.hid e
            have tb : bef (bs[k]?.getD 0) (L[q]?.getD 0) = false := by
              have h1 := HST.out (by omega)
              rw [hq, Nat.add_sub_cancel] at h1
              unfold bef; simp only [decide_eq_false_iff_not]; exact h1
            have gx1 := gx.out wr HD.out
            have go1 := go.out wr HD.out q (by omega)
            have hq' : (q : Int) ≤ 254 := by omega
            have WL1 := Lib.hid (WL.out q (by omega))
            have hwr : Hid (∀ n, Calls Try.prog 39 #[.float .f32 (bs[k]?.getD 0), .float .f32 (L[q]?.getD 0)] (wr.drewN n) fun e w'' => e = .returned (.bool false) ∧ ∃ m, w'' = wr.drewN m) := Lib.hid fun n =>
              (before_any _ _ WX.out WL1.out _).mono fun e w' ⟨h1, h2⟩ => ⟨by rw [h1, tb], n, h2.symm⟩
            have tq : decide ((0 : Int) < ((q : Int) + 1)) = true := by simp <;> omega
            have hqk : (q : Int) < (k : Int) := by omega
            have wq : IntKind.i64.wrap (q : Int) = (q : Int) := i64_wrap_nat q (by omega)
            rw [e]
            clear e h0 hq
            go_wp2
            go_quiet ((go_at_call 39; exact hwr.out _))
            generalize hW : wr.drewN nq = w1
            have HD1 : Hid (DrewSame wo w1) := Lib.hid (by rw [← hW]; exact HD.out.n _)
            rw [← E.out]
            clear hW HD HJ HST tb gx1 go1 hwr tq wq
            go_wp2
            clear E hq' WL1 hqk
            have gx2 := gx.out w1 HD1.out
            obtain ⟨o, ho, hsl⟩ := slice_from g k cap p HP.out (by omega) G2.out
            have HO := Lib.hid ho
            clear ho
            have SW : Hid (Below w.heap.size w w1) := Lib.hid (SS.out.bel.trans (HD1.out.below))
            have GW : Hid (g < w1.heap.size) := Lib.hid (Nat.lt_of_lt_of_le G1.out (HD1.out.below (B := 0)).size)
            have GC : Hid (∀ j, j < k → w1.cell? ⟨g, j, none⟩ = some (.float .f32 (L[j]?.getD 0))) := Lib.hid (go.out w1 HD1.out)
            have TC : Hid (∀ j, j < k - p → (w1.alloc (.cells #[.float .f32 (bs[k]?.getD 0)] 31)).cell? ⟨g, o + j, none⟩ = some (.float .f32 ((L.drop p)[j]?.getD 0))) := Lib.hid (tail_cells GC.out GW.out HP.out HO.out)
            have O1 : Hid (OwnF w.heap.size (.slice (some ⟨w1.heap.size, 0, none⟩) 1 1) [bs[k]?.getD 0] (w1.alloc (.cells #[.float .f32 (bs[k]?.getD 0)] 31))) := Lib.hid (own_one _ w1 _ SW.out.size)
            have B1 : Hid (Below w.heap.size w (w1.alloc (.cells #[.float .f32 (bs[k]?.getD 0)] 31)).drew) := Lib.hid (SW.out.alloc SW.out.size _).drew
            clear gx HD1
            go_region_law (refine step_append_f _ rfl (.tmp 41) (.tmp 44) rfl w.heap.size (.slice (some ⟨w1.heap.size, 0, none⟩) 1 1) [bs[k]?.getD 0] rfl O1.out g o (k - p) (cap - p) rfl (L.drop p) (by simp [LK.out]) TC.out (by simp; omega) B1.out.size w B1.out (by simp) ?_; intro v2 w2 ho2 hb2 hgr2 hn2)
            obtain ⟨g2, cap2, rfl, _, hg2, _, _, _, hc2⟩ := ho2.form hn2
            obtain ⟨n2, hnn⟩ : ∃ n2, ([bs[k]?.getD 0] ++ L.drop p).length = n2 := ⟨_, rfl⟩
            have HN2 := Lib.hid hnn
            rw [hnn]
            clear hnn
            have GC1 : Hid (∀ j, j < k → w2.cell? ⟨g, j, none⟩ = some (.float .f32 (L[j]?.getD 0))) := Lib.hid (far_cells GC.out GW.out hgr2)
            have GW2 : Hid (g < w2.heap.size) := Lib.hid (by have h1 := hgr2.size; have h2 := GW.out; simp at h1; omega)
            have G22 := Lib.hid hg2
            have C22 := Lib.hid hc2
            have B2' := Lib.hid hb2
            clear ho2 hb2 hgr2 hn2 hg2 hc2 SW GW GC TC O1 B1
            clear hsl
            have hslt := fun w => slice_to g k cap p HP.out (by omega) G2.out w
            have O2 : Hid (OwnF w.heap.size (.slice (some ⟨w2.heap.size, 0, none⟩) 0 0) [] (w2.alloc (.cells #[] 31))) := Lib.hid (own_zero w2 _ B2'.out.size)
            have B2 : Hid (Below w.heap.size w (w2.alloc (.cells #[] 31))) := Lib.hid (B2'.out.alloc B2'.out.size _)
            have GC2 : Hid (∀ j, j < p → (w2.alloc (.cells #[] 31)).cell? ⟨g, 0 + j, none⟩ = some (.float .f32 ((L.take p)[j]?.getD 0))) := Lib.hid (head_cells GC1.out GW2.out HP.out)
            have LEN2 : Hid (([bs[k]?.getD 0] ++ L.drop p).length ≤ 300) := Lib.hid (by rw [List.length_append, List.length_drop, LK.out]; simp; omega)
            go_wp2_with (first | (refine wpList_append_f rfl (.tmp 46) (.tmp 49) rfl w.heap.size (.slice (some ⟨w2.heap.size, 0, none⟩) 0 0) [] rfl O2.out g 0 p cap rfl (L.take p) (by rw [List.length_take, LK.out]; have := HP.out; omega) GC2.out (by rw [List.length_nil]; omega) B2.out.size w B2.out (by simp) ?_; intro v3 w3 ho3 hb3 hgr3 hn3; have O3 : Hid (OwnF w.heap.size v3 (L.take p) w3) := Lib.hid ho3; have B3 := Lib.hid hb3; have N3 := Lib.hid hn3; have T3 : Hid (∀ j, j < n2 → w3.cell? ⟨g2, 0 + j, none⟩ = some (.float .f32 (([bs[k]?.getD 0] ++ L.drop p)[j]?.getD 0))) := Lib.hid (by rw [← HN2.out]; exact tail_later G22.out C22.out hgr3); clear ho3 hb3 hn3 hgr3) | (refine wpList_append_f rfl (.tmp 50) (.tmp 51) rfl w.heap.size v3 (L.take p) rfl O3.out g2 0 n2 cap2 rfl ([bs[k]?.getD 0] ++ L.drop p) HN2.out T3.out (by have := LEN2.out; have h3 := HN2.out; have h1 := List.length_take_le' p L; have h2 := LK.out; omega) B3.out.size w B3.out N3.out ?_; intro v4 w4 ho4 hb4 _ hn4))
            have R : Hid (SortedTo w.heap.size bs (k + 1) (putAt L p (bs[k]?.getD 0)) v4 w w4) := Lib.hid ⟨ho4, hn4, by rw [putAt_length _ _ _ (by rw [LK.out]; exact HP.out), LK.out], NS.out, put_perm SS.out.perm (by rw [HN.out]; exact hlt), hb4⟩
            clear ho4 hn4 hb4
            go_wp2
            go_roundw
            case rel => exact ⟨k + 1, putAt L p (bs[k]?.getD 0), by omega, by go_num, R.out⟩
            case measure => simp [intOf]; omega
    · obtain rfl : k = len := by omega
      have t1 : decide (k < k) = false := by simp
      have R : Hid (SortPost k bs w (.returned (.tuple #[.slice (some ⟨g, 0, none⟩) k cap, .int .i64 0])) wo) := Lib.hid ⟨g, cap, L, rfl, ⟨LK.out, SS.out.asc, by
        have h := SS.out.perm
        rw [List.take_of_length_le (by rw [HN.out]; exact Nat.le_refl _)] at h
        exact h⟩, G0.out, ⟨G1.out, C.out⟩, SS.out.bel⟩
      go_wp2
      go_ret2
      exact R.out
theorem specSort_long (x len : Nat) (w : World) (hl : 256 < len) (hl2 : len ≤ 1048576) :
    Calls Try.prog 10 #[.slice (some ⟨x, 0, none⟩) len len] w fun e w' => e = .returned (.tuple #[.slice (some ⟨w.heap.size, 0, none⟩) 0 0, .int .i64 3]) ∧ w.alloc (.cells #[] 31) = w' := by
  have t1 : decide ((256 : Int) < (len : Int)) = true := by simp; omega
  have hl' : (len : Int) ≤ 1048576 := by omega
  go_enter Try.func10, Try.ntmps10
  go_wp2
  go_ret2
  exact ⟨rfl, rfl⟩
end Go.Proofs.Ytgjejolfkfpobaa
