/-
  CONTRACTS: the program's readEach, pieces of 16 bytes.
-/
import Derived.Test.YtkijgadkgfapgaaZe
import Derived.Test.YtkijgadkgfapgaaZc
import Derived.Test.YtkijgadkgfapgaaCk
import Derived.Test.YtkijgadkgfapgaaGi
import Derived.Test.YtkijgadkgfapgaaRj
import Derived.Laws.OwnMore
namespace Go.Proofs.Ytkijgadkgfapgaa
open Go.ChangeShapes Go.WideShapes Go.ChangeAt Go.RowKit Go.Shelf
attribute [local go_sem] Oper.semAt_some
theorem info_rdW : (Try.prog.info? 9).map (fun i => (i.zero, i.size, i.bytes)) = some (some (.string .empty), 1, 16) := by kernel_rfl
set_option maxRecDepth 100000 in
set_option maxHeartbeats 16000000 in
theorem rdW_in (F : Fence) (hF : F = Fence.wide) (N : Nat) (hn1 : 3 ≤ N) (q len : Nat) (hq : q ≤ 1000) (hlen : 16 * q = len) (E : Nat → Value) (okE : Nat → Bool) (hE : ∀ k, ∃ p1, E k = .string p1) (f : Nat → Int) (a : Option Addr) (cap : Nat) (hcap : len ≤ cap) (hcap2 : cap ≤ 9223372036854775807) (w : World) (h : YrR w.heap.size w a len f)
    (hR : ∀ k, k < q → ∀ g off W, (∀ j, j < 16 → W.cell? ⟨g, off + j, none⟩ = some (.int .u8 (f (16 * k + j)))) → g < W.heap.size → Calls Try.prog 84 #[.slice (some ⟨g, off, none⟩) 16 16] W fun e W' => (∃ x C, e = .returned (.tuple #[x, .int .i64 C]) ∧ (okE k = true → x = E k ∧ C = 0) ∧ (okE k = false → C ≠ 0)) ∧ Below W.heap.size W W') :
    CallsIn F N Try.prog 83 #[.int .i64 (q : Int), .slice a len cap, .int .i64 16, .func (.func 84) #[] #[]] w fun e w' => ∃ v C, e = .returned (.tuple #[v, .int .i64 C]) ∧ (((∀ k, k < q → okE k = true) ∧ C = 0 ∧ w'.ownsRow w.heap.size 9 1 v q ((List.range q).map E)) ∨ ((∃ k, k < q ∧ okE k = false) ∧ C = 5 ∧ v = .slice none 0 0)) ∧ Below w.heap.size w w' := by
  have h0 : F.fn 83 := by rw [hF]; trivial
  have h2 : F.fn 130 := by rw [hF]; trivial
  have h3 : F.fn 106 := by rw [hF]; trivial
  have h4 : F.fn 84 := by rw [hF]; trivial
  have hro : F.round = none := by rw [hF]; rfl
  have hN1 : 1 ≤ N := by omega
  obtain ⟨i0, hi, hz0, hz1, hz2⟩ := info_parts info_rdW
  obtain ⟨g, off, hga, hgl, hgc⟩ : ∃ g off, (0 < len → a = some ⟨g, off, none⟩) ∧ (0 < len → g < w.heap.size) ∧ (0 < len → ∀ j, j < len → w.cell? ⟨g, off + j, none⟩ = some (.int .u8 (f j))) := by
    rcases h with h | ⟨g, off, h1, h2, h3⟩
    · exact ⟨0, 0, fun h' => by omega, fun h' => by omega, fun h' => by omega⟩
    · exact ⟨g, off, fun _ => h1, fun _ => h2, fun _ => h3⟩
  have CH : Hid (∀ a len cap W m, CallsIn F m Try.prog 106 #[.slice a len cap, .int .i64 16] W fun e w' => e = .returned (.func (.func 130) #[] #[.pointer (some ⟨W.heap.size, 0, none⟩), .pointer (some ⟨W.heap.size + 1, 0, none⟩)]) ∧ w' = (W.alloc (.cells #[.slice a len cap] 45)).alloc (.cells #[.int .i64 16] 3)) := Lib.hid fun a len cap W m => by
    rw [hF]
    exact callsIn_wide.2 (chunkG_any a len cap 16 (by omega) W)
  have RDP : Hid (∀ k, k < q → ∀ W m, Below w.heap.size w W → CallsIn F m Try.prog 84 #[.slice (some ⟨g, off + 16 * k, none⟩) 16 16] W fun e W' => (∃ x C, e = .returned (.tuple #[x, .int .i64 C]) ∧ (okE k = true → x = E k ∧ C = 0) ∧ (okE k = false → C ≠ 0)) ∧ Below W.heap.size W W') := Lib.hid fun k hk W m hW => by
    rw [hF]
    have hl : 0 < len := by omega
    exact callsIn_wide.2 (hR k hk g (off + 16 * k) W (fun j hj => by
      rw [Nat.add_assoc, Below.cell (p := ⟨g, off + (16 * k + j), none⟩) hW (hgl hl)]
      exact hgc hl _ (by omega)) (Nat.lt_of_lt_of_le (hgl hl) hW.size))
  have HE := Lib.hid hE
  have HQ : Hid (q ≤ 1000) := Lib.hid hq
  have HCAP : Hid (len ≤ cap ∧ cap ≤ 9223372036854775807) := Lib.hid ⟨hcap, hcap2⟩
  have HPQ := Lib.hid hlen
  have HGA := Lib.hid hga
  have HF := Lib.hid hF
  have lq : ((len : Int) != 16 * (q : Int)) = false := by simp; omega
  have qI : (q : Int) ≤ 1000 := by omega
  have lI : (len : Int) ≤ 16000 := by omega
  have q0 : (0 : Int) ≤ (q : Int) := by omega
  clear hF hq hcap hcap2 h hga hgl hgc hlen hR hE
  obtain ⟨w1, hw1⟩ : ∃ x, ((w.alloc (.cells #[.func (.func 84) #[] #[]] 129)).alloc (.cells #[.slice none 0 0] 64)).alloc (.cells #[.int .i64 0] 2) = x := ⟨_, rfl⟩
  have SR : Hid (w1.heap[w.heap.size]? = some (.cells #[.func (.func 84) #[] #[]] 129 (0, 0))) := Lib.hid (by rw [← hw1]; exact (Below.heap_alloc _ _ _ (by simp; omega)).trans ((Below.heap_alloc _ _ _ (by simp)).trans (World.alloc_heap_new w _)))
  have S1 : Hid (w1.heap[w.heap.size + 1]? = some (.cells #[.slice none 0 0] 64 (0, 0))) := Lib.hid (by
    rw [← hw1]
    have := World.alloc_heap_new (w.alloc (.cells #[.func (.func 84) #[] #[]] 129)) (.cells #[.slice none 0 0] 64)
    rw [World.size_alloc] at this
    exact (Below.heap_alloc _ _ _ (by simp)).trans this)
  have S2 : Hid (w1.heap[w.heap.size + 1 + 1]? = some (.cells #[.int .i64 0] 2 (0, 0))) := Lib.hid (by
    rw [← hw1]
    have := World.alloc_heap_new ((w.alloc (.cells #[.func (.func 84) #[] #[]] 129)).alloc (.cells #[.slice none 0 0] 64)) (.cells #[.int .i64 0] 2)
    rw [World.size_alloc, World.size_alloc] at this
    exact this)
  have SB : Hid (Below w.heap.size w w1) := Lib.hid (by rw [← hw1]; exact (((Below.refl _ w).alloc (Nat.le_refl _) _).alloc (by simp) _).alloc (by simp; omega) _)
  have SZ : Hid (w1.heap.size = w.heap.size + 1 + 1 + 1) := Lib.hid (by rw [← hw1]; simp)
  refine callsIn_of_wp_marks Try.func83 rfl h0 ?_ hro
  simp only [Try.ntmps83, List.size_toArray, List.length_cons, List.length_nil, Nat.reduceAdd, Nat.reduceSub, Array.replicate_succ, Array.replicate_zero, List.push_toArray, List.append_toArray, List.nil_append, List.cons_append]
  gi_wp2_with (rw [hw1])
  refine (CH.out _ _ _ _ _).mono ?_
  rintro e w3 ⟨rfl, rfl⟩
  gi_wp2
  have HY := SZ.out
  rw [HY]
  obtain ⟨w3, hw3⟩ : ∃ x, ((w1.alloc (.cells #[.slice none 0 0] 64)).alloc (.cells #[.slice a len cap] 45)).alloc (.cells #[.int .i64 16] 3) = x := ⟨_, rfl⟩
  have GZ : Hid (w3.heap.size = w.heap.size + 1 + 1 + 1 + 1 + 1 + 1) := Lib.hid (by rw [← hw3]; simp; omega)
  have GB : Hid (Below w.heap.size w w3) := Lib.hid (by rw [← hw3]; exact ((SB.out.alloc (by omega) _).alloc (by simp; omega) _).alloc (by simp; omega) _)
  have G0 : Hid (Boxed w3 (w.heap.size + 1 + 1 + 1) 64 (.slice none 0 0)) := Lib.hid (by
    rw [← hw3, ← HY]
    exact (Below.heap_alloc _ _ _ (by simp; omega)).trans ((Below.heap_alloc _ _ _ (by simp)).trans (World.alloc_heap_new w1 _)))
  have G4 : Hid (w3.heap[w.heap.size + 1 + 1 + 1 + 1]? = some (.cells #[.slice a len cap] 45 (0, 0))) := Lib.hid (by
    rw [← hw3, ← HY]
    have := World.alloc_heap_new (w1.alloc (.cells #[.slice none 0 0] 64)) (.cells #[.slice a len cap] 45)
    rw [World.size_alloc] at this
    exact (Below.heap_alloc _ _ _ (by simp)).trans this)
  have G5 : Hid (w3.heap[w.heap.size + 1 + 1 + 1 + 1 + 1]? = some (.cells #[.int .i64 16] 3 (0, 0))) := Lib.hid (by
    rw [← hw3, ← HY]
    have := World.alloc_heap_new ((w1.alloc (.cells #[.slice none 0 0] 64)).alloc (.cells #[.slice a len cap] 45)) (.cells #[.int .i64 16] 3)
    rw [World.size_alloc, World.size_alloc] at this
    exact this)
  have OLD : ∀ k o, w1.heap[k]? = some o → w3.heap[k]? = some o := fun k o hk => by
    have hl := lt_heap hk
    rw [← hw3]
    exact (Below.heap_alloc _ _ _ (by simp; omega)).trans ((Below.heap_alloc _ _ _ (by simp; omega)).trans ((Below.heap_alloc _ _ _ hl).trans hk))
  obtain ⟨FX, hFX⟩ : ∃ x : List (Nat × Array Value × TypeId), [(w.heap.size, #[.func (.func 84) #[] #[]], 129), (w.heap.size + 1, #[.slice none 0 0], 64), (w.heap.size + 1 + 1, #[.int .i64 0], 2), (w.heap.size + 1 + 1 + 1 + 1, #[.slice a len cap], 45), (w.heap.size + 1 + 1 + 1 + 1 + 1, #[.int .i64 16], 3)] = x := ⟨_, rfl⟩
  have FX3 : Hid (Fix FX w3) := Lib.hid (by
    rw [← hFX]
    intro x hx
    simp only [List.mem_cons, List.not_mem_nil, or_false] at hx
    rcases hx with rfl | rfl | rfl | rfl | rfl
    · exact OLD _ _ SR.out
    · exact OLD _ _ S1.out
    · exact OLD _ _ S2.out
    · exact G4.out
    · exact G5.out)
  have FXN : Hid (∀ x ∈ FX, x.1 ≠ w.heap.size + 1 + 1 + 1) := Lib.hid (by
    rw [← hFX]
    intro x hx
    simp only [List.mem_cons, List.not_mem_nil, or_false] at hx
    rcases hx with rfl | rfl | rfl | rfl | rfl <;> (intro h; simp at h; try omega))
  have FXT : Hid (∀ x ∈ FX, x.2.2 ≠ 9) := Lib.hid (by
    rw [← hFX]
    intro x hx
    simp only [List.mem_cons, List.not_mem_nil, or_false] at hx
    rcases hx with rfl | rfl | rfl | rfl | rfl <;> (dsimp only; decide))
  have FR : Hid (∀ W, Fix FX W → W.heap[w.heap.size]? = some (.cells #[.func (.func 84) #[] #[]] 129 (0, 0))) := Lib.hid fun W h => h (w.heap.size, _, _) (by rw [← hFX]; simp)
  have F1 : Hid (∀ W, Fix FX W → Boxed W (w.heap.size + 1) 64 (.slice none 0 0)) := Lib.hid fun W h => h (w.heap.size + 1, _, _) (by rw [← hFX]; simp)
  have F2 : Hid (∀ W, Fix FX W → Boxed W (w.heap.size + 1 + 1) 2 (.int .i64 0)) := Lib.hid fun W h => h (w.heap.size + 1 + 1, _, _) (by rw [← hFX]; simp)
  have F4 : Hid (∀ W, Fix FX W → W.heap[w.heap.size + 1 + 1 + 1 + 1]? = some (.cells #[.slice a len cap] 45 (0, 0))) := Lib.hid fun W h => h (w.heap.size + 1 + 1 + 1 + 1, _, _) (by rw [← hFX]; simp)
  have F5 : Hid (∀ W, Fix FX W → W.heap[w.heap.size + 1 + 1 + 1 + 1 + 1]? = some (.cells #[.int .i64 16] 3 (0, 0))) := Lib.hid fun W h => h (w.heap.size + 1 + 1 + 1 + 1 + 1, _, _) (by rw [← hFX]; simp)
  rw [hw3]
  clear SR S1 S2 SB SZ HY CH hw1 hw3 OLD hFX
  clear w1
  refine wpIn_rangeFunc_ownG hro hN1 (gf := 130) (lb := #[.pointer (some ⟨w.heap.size + 1 + 1 + 1 + 1, 0, none⟩), .pointer (some ⟨w.heap.size + 1 + 1 + 1 + 1 + 1, 0, none⟩)]) rfl h2 (enters_of Try.func130 (by kernel_rfl) rfl)
    (chunkG_stops F HF.out (N - 1) (by omega) (w.heap.size + 1 + 1 + 1 + 1) (w.heap.size + 1 + 1 + 1 + 1 + 1) 16 q len cap a g off (by omega) (by omega) (by have := HQ.out; have := HPQ.out; omega) HCAP.out.1 HCAP.out.2 (by have := HPQ.out; omega) (by have := HPQ.out; omega) HGA.out w3 G4.out G5.out) KpD.trans (KpD.put (by have := GZ.out; omega) (by have := GZ.out; omega)) (Below.refl _ _) (fun _ => rfl)
    (fun pre W => (∃ v, Boxed W (w.heap.size + 1 + 1 + 1) 64 v ∧ W.ownsRow w.heap.size 9 1 v pre.length (thL E pre) ∧ True) ∧ Fix FX W ∧ (∀ c ∈ pre, okE c.1 = true) ∧ Below w.heap.size w W)
    (fun c pre W => c = .ret ∧ Boxed W (w.heap.size + 1) 64 (.slice none 0 0) ∧ Boxed W (w.heap.size + 1 + 1) 2 (.int .i64 5) ∧ (∃ k, k < q ∧ okE k = false) ∧ Below w.heap.size w W)
    (OwnFrom.and (Own.from (holdsRow_own w.heap.size (w.heap.size + 1 + 1 + 1) 64 9 1 (fun pre => pre.length) (fun pre => thL E pre) (fun pre v => True)) _) (OwnFrom.and (Own.from (fix_own _) _) (OwnFrom.and (Own.from (own_pureF (fun pre : List (Cm q) => ∀ c ∈ pre, okE c.1 = true)) _) (ownFrom_below (Nat.le_refl _) (by have := GZ.out; omega)))))
    (fun c => OwnFrom.and (Own.from (own_pureF (fun _ => c = _)) _) (OwnFrom.and (Own.from (boxed_own _ _ (fun _ => _)) _) (OwnFrom.and (Own.from (boxed_own _ _ (fun _ => _)) _) (OwnFrom.and (Own.from (own_pureF (fun _ => ∃ k, k < q ∧ okE k = false)) _) (ownFrom_below (Nat.le_refl _) (by have := GZ.out; omega))))))
    ⟨⟨_, G0.out, World.ownsRow_nil _ _ _ _, trivial⟩, FX3.out, (fun c hc => by cases hc), GB.out⟩
    (fun c => { tmps := #[.int .i64 (q : Int), .slice a len cap, .int .i64 16, .func (.func 84) #[] #[], undef, undef, undef, .pointer (some ⟨w.heap.size, 0, none⟩), .pointer (some ⟨w.heap.size + 1, 0, none⟩), .pointer (some ⟨w.heap.size + 1 + 1, 0, none⟩), .pointer (some ⟨w.heap.size + 1 + 1 + 1, 0, none⟩), .slice (some ⟨g, off + 16 * c.1, none⟩) (pcL 16 len (16 * c.1)) (pcL 16 len (16 * c.1)), undef, undef, .slice a len cap, .int .i64 (len : Int), .int .i64 16, .int .i64 (q : Int), .int .i64 (16 * (q : Int)), .bool false, .slice a len cap, .int .i64 16, .func (.func 130) #[] #[.pointer (some ⟨w.heap.size + 1 + 1 + 1 + 1, 0, none⟩), .pointer (some ⟨w.heap.size + 1 + 1 + 1 + 1 + 1, 0, none⟩)], .slice (some ⟨g, off + 16 * c.1, none⟩) (pcL 16 len (16 * c.1)) (pcL 16 len (16 * c.1)), undef, undef, undef, undef, undef, undef, undef, undef, undef, undef, undef, undef, undef], defers := [] }) ?assign ?body ?done ?stop
  case assign =>
    intro ll x W K hK
    gi_wp2
    exact hK
  case body =>
    rintro ll pre ⟨c, hc⟩ W0 ⟨⟨v, hv, hrow, -⟩, hfx, hall, hB⟩ hlen
    obtain ⟨i, hi'⟩ : ∃ i, 16 * c = i := ⟨_, rfl⟩
    have hpc : pcL 16 len i = 16 := by unfold pcL; have := HPQ.out; omega
    have RC : Hid (∀ m, CallsIn (F.inRound ll) m Try.prog 84 #[.slice (some ⟨g, off + i, none⟩) 16 16] W0 fun e W' => (∃ x C, e = .returned (.tuple #[x, .int .i64 C]) ∧ (okE c = true → x = E c ∧ C = 0) ∧ (okE c = false → C ≠ 0)) ∧ Below W0.heap.size W0 W') := Lib.hid fun m => by rw [← hi']; exact CallsIn.inRound ll (RDP.out c hc W0 m hB)
    have NX : Hid (thL E (pre ++ [(⟨c, hc⟩ : Cm q)]) = thL E pre ++ [E c]) := Lib.hid (thL_snoc E pre ⟨c, hc⟩)
    have AL : Hid (okE c = true → ∀ x ∈ (pre ++ [(⟨c, hc⟩ : Cm q)]), okE x.1 = true) := Lib.hid fun ho x hx => by
      rcases List.mem_append.1 hx with hx | hx
      · exact hall x hx
      · rw [List.mem_singleton] at hx
        subst hx
        exact ho
    have NO : Hid (okE c = false → ∃ k, k < q ∧ okE k = false) := Lib.hid fun h => ⟨c, hc, h⟩
    obtain ⟨xs, hxs⟩ : ∃ xs, thL E pre = xs := ⟨_, rfl⟩
    rw [hxs] at NX hrow
    obtain ⟨kn, hkn⟩ : ∃ kn, pre.length = kn := ⟨_, rfl⟩
    have NL : Hid ((pre ++ [(⟨c, hc⟩ : Cm q)]).length = kn + 1) := Lib.hid (by simp [hkn])
    have KN : Hid (kn ≤ 1000) := Lib.hid (by have := HQ.out; omega)
    rw [hkn] at hrow
    obtain ⟨p1, hA⟩ := HE.out c
    rw [hA] at NX RC
    obtain ⟨ys, hys⟩ : ∃ ys, xs ++ [Value.string p1] = ys := ⟨_, rfl⟩
    have YS : Hid (ys = xs ++ [Value.string p1]) := Lib.hid hys.symm
    rw [hys] at NX
    have BX := Lib.hid hv
    have RW := Lib.hid hrow
    have QF := Lib.hid hfx
    have QB := Lib.hid hB
    have cR : W0.cell? ⟨w.heap.size, 0, none⟩ = some (.func (.func 84) #[] #[]) := Lib.cell_of_heap (FR.out W0 hfx) 0
    simp only [hi', hpc]
    clear hA hxs hkn hys hv hrow hfx hall hB hlen hi' hpc
    have hd : 1 ≤ N - 1 - 1 := by omega
    have F9 : (F.inRound ll).fn 84 := h4
    gi_wp2_with fail
    refine (RC.out _).mono ?_
    rintro e W2 ⟨⟨A, C, rfl, hC1, hC2⟩, b⟩
    have L2 : ∀ k o, W0.heap[k]? = some o → W2.heap[k]? = some o := fun k o h => (b.block k (lt_heap h)).trans h
    have BX2 : Hid (Boxed W2 (w.heap.size + 1 + 1 + 1) 64 v) := Lib.hid (L2 _ _ BX.out)
    have RW2 : Hid (W2.ownsRow w.heap.size 9 1 v kn xs) := Lib.hid (ownsRow_belowB RW.out b)
    have QF2 : Hid (Fix FX W2) := Lib.hid (QF.out.below b QF.out.lt)
    have KO2 : Hid (KeepsOthers W0 W2) := Lib.hid ⟨b.size, fun k o h _ => L2 k o h⟩
    have QB2 := Lib.hid (QB.out.trans (b.mono QB.out.size))
    clear b L2 BX RW QB cR
    cases hok : okE c with
    | true =>
      obtain ⟨rfl, rfl⟩ := hC1 hok
      have ALC := Lib.hid (AL.out hok)
      clear hC1 hC2 hok AL NO
      have cb := BX2.out.cell
      have HL2 : Hid (W2.heap.size ≥ w.heap.size) := Lib.hid QB2.out.size
      have R2A := Lib.hid (World.ownsRow.alloc RW2.out (.cells #[Value.string p1] 9))
      have BX2A : Hid (Boxed (W2.alloc (.cells #[Value.string p1] 9)) (w.heap.size + 1 + 1 + 1) 64 v) := Lib.hid (BX2.out.alloc _)
      have NR := Lib.hid (BX2A.out.not_row (by decide) R2A.out)
      have AC : Hid (∀ (j : Nat) u, [Value.string p1][j]? = some u → (W2.alloc (.cells #[Value.string p1] 9)).cell? ((⟨W2.heap.size, 0, none⟩ : Addr).add j) = some u) := Lib.hid fun j u e => by
        cases j with
        | zero =>
          simp at e
          subst e
          rw [Go.WideShapes.add_plain]
          exact (World.cell?_alloc_new _ _ _ _).trans rfl
        | succ j => simp at e
      have A1 : Hid (∀ u : Value, u ∈ [Value.string p1] → u.oneCell' = true) := Lib.hid fun u hu => by
        rw [List.mem_singleton] at hu
        subst hu
        rfl
      have AM : Hid (kn + 1 ≤ maxLen) := Lib.hid (by unfold maxLen; have := KN.out; omega)
      have AN : Hid ((kn + 1) * 16 ≤ 140737488355328) := Lib.hid (by have := KN.out; omega)
      have AZ : Hid (w.heap.size ≤ (W2.alloc (.cells #[Value.string p1] 9)).heap.size) := Lib.hid (by rw [World.size_alloc]; have := HL2.out; omega)
      gi_wp2_with (gi_at_builtin; refine wpListIn_append_own _ rfl (.tmp 32) (.tmp 34) 64 rfl w.heap.size 9 i0 _ 1 16 Try.underlying64 hi hz0 hz1 hz2 rfl Nat.one_pos v kn xs rfl R2A.out ⟨W2.heap.size, 0, none⟩ 1 1 [Value.string p1] rfl rfl AC.out A1.out AM.out AN.out AZ.out ?_; intro v5 W5 hown hgrow _; have HO5 := Lib.hid hown; have HG5 := Lib.hid hgrow; clear hown hgrow; have BX5 := Lib.hid (BX2A.out.kept HG5.out NR.out); have cb5 := BX5.out.cell; have cf5 := BX5.out.frozen; obtain ⟨g5, cap5, rfl⟩ := ownsRow_succ HO5.out)
      have FX5 : Hid (Fix FX W5) := Lib.hid ((QF2.out.alloc _).grown R2A.out FXT.out HG5.out)
      have KO5 : Hid (KeepsOthers W0 W5) := Lib.hid ((KO2.out.trans (KeepsOthers.alloc _ _)).trans (KeepsOthers.of_grownBy HG5.out (own_cells R2A.out)))
      have QB5 : Hid (Below w.heap.size w W5) := Lib.hid ((QB2.out.alloc HL2.out _).grown HG5.out (by rw [World.size_alloc]; have := HL2.out; omega) (fun k hk => (R2A.out.lt k hk).1))
      have FX6 := Lib.hid (FX5.out.set (w.heap.size + 1 + 1 + 1) FXN.out (.slice (some ⟨g5, 0, none⟩) (kn + 1) cap5))
      refine ⟨(KO5.out.trans (KeepsOthers.setCell _ _ _)).from _, ⟨(KO5.out.trans (KeepsOthers.setCell _ _ _)).size, (F4.out _ FX6.out).trans (F4.out _ QF.out).symm, (F5.out _ FX6.out).trans (F5.out _ QF.out).symm⟩, ⟨_, BX5.out.set _, ?_, trivial⟩, FX6.out, ALC.out, QB5.out.setCell (p := ⟨w.heap.size + 1 + 1 + 1, 0, none⟩) (by simp; omega) _⟩
      rw [NL.out, NX.out, YS.out]
      exact HO5.out.kept (grownBy_setCellF _ (w.heap.size + 1 + 1 + 1) _) (.inr (BX5.out.not_row (by decide) HO5.out).symm)
    | false =>
      have hC : (C != 0) = true := by simpa using hC2 hok
      have NOC := Lib.hid (NO.out hok)
      have c1 := (F1.out W2 QF2.out).cell
      have f1 := (F1.out W2 QF2.out).frozen
      have V2 := F2.out W2 QF2.out
      have c2 : (W2.setCell ⟨w.heap.size + 1, 0, none⟩ (.slice none 0 0)).cell? ⟨w.heap.size + 1 + 1, 0, none⟩ = some (.int .i64 0) := (V2.other (by omega) _).cell
      have f2 : (W2.setCell ⟨w.heap.size + 1, 0, none⟩ (.slice none 0 0)).frozen? ⟨w.heap.size + 1 + 1, 0, none⟩ = false := (V2.other (by omega) _).frozen
      have V1 := (F1.out W2 QF2.out).set (.slice none 0 0)
      have V3 : Hid (Boxed (W2.setCell ⟨w.heap.size + 1, 0, none⟩ (.slice none 0 0)) (w.heap.size + 1 + 1) 2 (.int .i64 0)) := Lib.hid (V2.other (by omega) _)
      have V4 := Lib.hid V1
      clear hC1 hC2 hok AL NO V2 V1
      gi_wp2
      exact ⟨((KO2.out.trans (KeepsOthers.setCell _ _ _)).trans (KeepsOthers.setCell _ _ _)).from _, rfl, V4.out.other (by omega) _, V3.out.set _, NOC.out, (QB2.out.setCell (p := ⟨w.heap.size + 1, 0, none⟩) (by simp) _).setCell (p := ⟨w.heap.size + 1 + 1, 0, none⟩) (by simp; omega) _⟩
  case done =>
    rintro D ys W hD hys ⟨⟨v, hv, hrow, -⟩, hfx, hall, hB⟩ hK
    rw [hys, cmL_len (Nat.le_refl _), thL_all E q q (Nat.le_refl _)] at hrow
    rw [hys] at hall
    have ALL : Hid (∀ k, k < q → okE k = true) := Lib.hid fun k hk => hall ⟨k, hk⟩ (mem_cmL hk (Nat.le_refl _))
    have hcv := hv.cell
    have c1 := (F1.out W hfx).cell
    have f1 := (F1.out W hfx).frozen
    have V1 := Lib.hid (F1.out W hfx)
    have V2 := Lib.hid (F2.out W hfx)
    have HR := Lib.hid hrow
    have HB := Lib.hid hB
    have HK := Lib.hid hK
    have HD := Lib.hid hD
    clear hrow hB hK hys hD hall hv hfx
    obtain ⟨av, nv, cv, rfl⟩ : ∃ a n c, v = .slice a n c := by
      rcases HR.out.2 with ⟨rfl, _⟩ | ⟨g', cap', cur', rfl, _⟩
      · exact ⟨_, _, _, rfl⟩
      · exact ⟨_, _, _, rfl⟩
    have c2 : (W.setCell ⟨w.heap.size + 1, 0, none⟩ (.slice av nv cv)).cell? ⟨w.heap.size + 1 + 1, 0, none⟩ = some (.int .i64 0) := (V2.out.other (by omega) _).cell
    have f2 : (W.setCell ⟨w.heap.size + 1, 0, none⟩ (.slice av nv cv)).frozen? ⟨w.heap.size + 1 + 1, 0, none⟩ = false := (V2.out.other (by omega) _).frozen
    gi_wp2
    obtain ⟨W1, hW1⟩ : ∃ x, W.setCell ⟨w.heap.size + 1, 0, none⟩ (.slice av nv cv) = x := ⟨_, rfl⟩
    have X1 : Hid (Boxed W1 (w.heap.size + 1) 64 (.slice av nv cv)) := Lib.hid (by rw [← hW1]; exact V1.out.set _)
    have X2 : Hid (Boxed W1 (w.heap.size + 1 + 1) 2 (.int .i64 0)) := Lib.hid (by rw [← hW1]; exact V2.out.other (by omega) _)
    have XR : Hid (W1.ownsRow w.heap.size 9 1 (.slice av nv cv) q ((List.range q).map E)) := Lib.hid (by rw [← hW1]; exact HR.out.kept (grownBy_setCellF _ (w.heap.size + 1) _) (.inr (V1.out.not_row (by decide) HR.out).symm))
    have XB : Hid (Below w.heap.size w W1) := Lib.hid (by rw [← hW1]; exact HB.out.setCell (p := ⟨w.heap.size + 1, 0, none⟩) (by simp) _)
    have XK : Hid (W1.heap[D]? = some (.deferred (some []))) := Lib.hid (by rw [← hW1]; exact (KeepsOthers.setCell _ _ _).same D _ HK.out rfl)
    rw [hW1]
    clear c1 f1 c2 f2 hcv V1 V2 HR HB HK hW1
    obtain ⟨W3, hW3⟩ : ∃ x, W1.setCell ⟨w.heap.size + 1 + 1, 0, none⟩ (.int .i64 0) = x := ⟨_, rfl⟩
    have Y1 : Hid (Boxed W3 (w.heap.size + 1) 64 (.slice av nv cv)) := Lib.hid (by rw [← hW3]; exact X1.out.other (by omega) _)
    have Y2 : Hid (Boxed W3 (w.heap.size + 1 + 1) 2 (.int .i64 0)) := Lib.hid (by rw [← hW3]; exact X2.out.set _)
    have YR : Hid (W3.ownsRow w.heap.size 9 1 (.slice av nv cv) q ((List.range q).map E)) := Lib.hid (by rw [← hW3]; exact XR.out.kept (grownBy_setCellF _ (w.heap.size + 1 + 1) _) (.inr (X2.out.not_row (by decide) XR.out).symm))
    have YB : Hid (Below w.heap.size w W3) := Lib.hid (by rw [← hW3]; exact XB.out.setCell (p := ⟨w.heap.size + 1 + 1, 0, none⟩) (by simp; omega) _)
    have YK : Hid (W3.heap[D]? = some (.deferred (some []))) := Lib.hid (by rw [← hW3]; exact (KeepsOthers.setCell _ _ _).same D _ XK.out rfl)
    rw [hW3]
    clear X1 X2 XR XB XK hW3
    refine ⟨by simp, .inl ⟨_, _, rfl, run_takeDeferred YK.out, ?_⟩⟩
    have Z1 : Boxed (W3.putObj D (.deferred none)) (w.heap.size + 1) 64 (.slice av nv cv) := Y1.out.kept (grownBy_putObj' W3 D _) (fun e => by cases e; have := YK.out; rw [show W3.heap[_]? = _ from Y1.out] at this; cases this)
    have Z2 : Boxed (W3.putObj D (.deferred none)) (w.heap.size + 1 + 1) 2 (.int .i64 0) := Y2.out.kept (grownBy_putObj' W3 D _) (fun e => by cases e; have := YK.out; rw [show W3.heap[_]? = _ from Y2.out] at this; cases this)
    have z1 := Z1.cell
    have z2 := Z2.cell
    refine ⟨_, (by simp [results, Try.results83, go_sem, z1, z2]), .slice av nv cv, 0, rfl, .inl ⟨ALL.out, rfl, ?_⟩, ?_⟩
    · refine YR.out.kept (putObj_grown W3 D _) ?_
      rcases YR.out.2 with ⟨e, _⟩ | ⟨g', cap', cur', e, _, hg', _⟩
      · rw [e]; exact .inl rfl
      · refine .inr fun e2 => ?_
        rw [e] at e2
        obtain rfl : g' = D := by simpa [Value.ownBlock] using e2
        have := YK.out
        rw [hg'] at this; cases this
    · exact YB.out.trans ((Below.refl _ W3).grown (grownBy_putObj' W3 D _) (by have := YB.out.size; omega) (fun k e => by cases e; have := HD.out; have := GZ.out; omega))
  case stop =>
    rintro D c pre W hD hsp ⟨rfl, hR1, hR2, hno, hB⟩ hK
    gi_wp2
    refine ⟨by simp, .inl ⟨_, _, rfl, run_takeDeferred hK, ?_⟩⟩
    have Z1 : Boxed (W.putObj D (.deferred none)) (w.heap.size + 1) 64 (.slice none 0 0) := hR1.kept (grownBy_putObj' W D _) (fun e => by cases e; rw [show W.heap[_]? = _ from hR1] at hK; cases hK)
    have Z2 : Boxed (W.putObj D (.deferred none)) (w.heap.size + 1 + 1) 2 (.int .i64 5) := hR2.kept (grownBy_putObj' W D _) (fun e => by cases e; rw [show W.heap[_]? = _ from hR2] at hK; cases hK)
    have z1 := Z1.cell
    have z2 := Z2.cell
    refine ⟨_, (by simp [results, Try.results83, go_sem, z1, z2]), .slice none 0 0, 5, rfl, .inr ⟨hno, rfl, rfl⟩, ?_⟩
    exact hB.trans ((Below.refl _ W).grown (grownBy_putObj' W D _) (by have := hB.size; omega) (fun k e => by cases e; have := GZ.out; omega))
end Go.Proofs.Ytkijgadkgfapgaa
