/-
  CONTRACTS: FramesOfBytes of both sides.
-/
import Derived.Test.YtligafgbknlofaaGi
namespace Go.Proofs.Ytligafgbknlofaa
open Go.ChangeShapes Go.WideShapes Go.ChangeAt Go.RowKit
theorem ownsRow_block {w w' : World} {base : Nat} {e : TypeId} {size : Nat} {v : Value} {n : Nat} {xs : List Value} (h : w.ownsRow base e size v n xs) (hb : ∀ k, v.ownBlock = some k → w'.heap[k]? = w.heap[k]?) : w'.ownsRow base e size v n xs := by
  refine ⟨h.1, ?_⟩
  rcases h.2 with h0 | ⟨g, cap, cur, rfl, h1, h2, h3⟩
  · exact .inl h0
  · exact .inr ⟨g, cap, cur, rfl, h1, (hb g rfl).trans h2, h3⟩
theorem ownsRow_below {w w' : World} {base : Nat} {e : TypeId} {size : Nat} {v : Value} {n : Nat} {xs : List Value} (h : w.ownsRow base e size v n xs) (hb : Below w.heap.size w w') : w'.ownsRow base e size v n xs :=
  ownsRow_block h fun k hk => hb.block k (h.lt k hk).2
/-- a slice's form and room -/
def SlOk (a : Option Addr) (n c : Nat) : Prop := n ≤ c ∧ c ≤ 4000000 ∧ ∀ x, a = some x → ∃ b off, x = ⟨b, off, none⟩
theorem toYc_any {a : Option Addr} {cap n : Nat} {f : Nat → Int} {B : Nat} {w : World} (hB : B ≤ w.heap.size) (h : YrR B w a n f) (hl : n ≤ 1048576) :
    Calls Try.prog 25 #[.slice a n cap] w fun e w' => ∃ v, e = .returned v ∧ PR 1 w.heap.size w'.heap.size w' v n (FF f) ∧ Below w.heap.size w w' ∧ ∀ a' n' c', v = .slice a' n' c' → SlOk a' n' c' :=
  (toYS_any a cap n f B w hB h hl).mono fun e w' ⟨he, hp, hb⟩ => ⟨_, he, hp, hb, fun a' n' c' e => by
    simp only [Value.slice.injEq] at e
    obtain ⟨rfl, rfl, rfl⟩ := e
    exact ⟨Nat.le_refl _, by omega, fun x hx => ⟨w.heap.size, 0, (Option.some.inj hx).symm⟩⟩⟩
set_option maxRecDepth 20000 in
set_option maxHeartbeats 4000000 in
theorem iFrames_any (n : Nat) (f : Nat → Int) (a : Option Addr) (c : Nat) (w : World) (h : YrR w.heap.size w a n f) (hk : SlOk a n c) :
    Calls Try.prog 42 #[.slice a n c] w fun e w' => ∃ v, e = .returned (.tuple #[v, .int .i64 (foR n), .int .i64 (foC n)]) ∧ PR 16 w.heap.size w'.heap.size w' v (foN n) (FF f) ∧ Below w.heap.size w w' := by
  by_cases hn : 700 < n / 16
  · have R : Hid (∀ (e : Ending) (w' : World), e = .returned (.tuple #[.slice none 0 0, .int .i64 0, .int .i64 3]) ∧ Below w.heap.size w w' → ∃ v, e = .returned (.tuple #[v, .int .i64 (foR n), .int .i64 (foC n)]) ∧ PR 16 w.heap.size w'.heap.size w' v (foN n) (FF f) ∧ Below w.heap.size w w') := Lib.hid (fun e w' ⟨h1, h2⟩ => by
      have hc : foC n = 3 := if_pos hn
      have hN : foN n = 0 := if_pos hn
      have hR : foR n = 0 := if_pos hn
      exact ⟨_, by rw [h1, hc, hR], by rw [hN]; exact PR.empty _ _ _ _ _ _ _, h2⟩)
    refine Calls.mono ?_ R.out
    obtain ⟨p, r, hpr, hr, hp⟩ : ∃ p r, n = p + r ∧ r = n % 16 ∧ 11200 < p := ⟨n - n % 16, n % 16, by omega, rfl, by omega⟩
    have hsl := fun w => slice_toF a n c p (by have := hk.1; omega) hk.2.2 (by have := hk.1; have := hk.2.1; omega) w
    have tn : (n : Int).tmod 16 = (r : Int) := by rw [Int.tmod_eq_emod_of_nonneg (by omega)]; omega
    have tn2 : (n : Int) % 16 = (r : Int) := by omega
    have tsub : (n : Int) - (r : Int) = (p : Int) := by omega
    have tge : (11200 : Int) < (p : Int) := by omega
    have tnr : (n : Int) ≤ 4000000 := by have := hk.1; have := hk.2.1; omega
    have trr : (0 : Int) ≤ (r : Int) := by omega
    have tr2 : (r : Int) < 16 := by omega
    clear h hn R hk hpr hr hp
    go_enter Try.func42, Try.ntmps42
    go_wp2
    refine bodyPost_ret (v := .tuple #[.slice none 0 0, .int .i64 0, .int .i64 3]) (by simp [results, Try.results42, go_sem]) rfl ⟨rfl, Below.refl _ _⟩
  · have hc : foC n = 0 := if_neg hn
    have hN : foN n = n / 16 := if_neg hn
    have hR : foR n = ((n % 16 : Nat) : Int) := if_neg hn
    rw [hc, hN, hR]
    refine (callsIn_wide.1 (iframes_in Fence.wide rfl 3 (Nat.le_refl _) (16 * (n / 16)) (n / 16) (n % 16) n rfl (by omega) (by omega) (by omega) f a c hk.1 (by have := hk.2.1; omega) w hk.2.2 h)).mono ?_
    rintro e w' ⟨v, h1, h2, h3⟩
    exact ⟨v, h1, h2.pr, h3⟩
set_option maxRecDepth 20000 in
set_option maxHeartbeats 8000000 in
theorem sFrames_any (n : Nat) (hn0 : n ≤ 4000000) (f : Nat → Int) (a : Option Addr) (c : Nat) (w : World) (h : YrR w.heap.size w a n f) :
    Calls Try.prog 41 #[.slice a n c] w fun e w' => ∃ v, e = .returned (.tuple #[v, .int .i64 (foR n), .int .i64 (foC n)]) ∧ PR 16 w.heap.size w'.heap.size w' v (foN n) (FF f) ∧ Below w.heap.size w w' := by
  have B0 : Hid (Below w.heap.size w (w.alloc (.cells #[] 29))) := Lib.hid ((Below.refl _ w).alloc (Nat.le_refl _) _)
  obtain ⟨q, r, hqr, hr⟩ : ∃ q r, n = 16 * q + r ∧ r < 16 := ⟨n / 16, n % 16, by omega, by omega⟩
  have hdiv : n / 16 = q := by omega
  have hmod : n % 16 = r := by omega
  have tq : (n : Int).tdiv 16 = (q : Int) := by rw [Int.tdiv_eq_ediv_of_nonneg (by omega)]; omega
  have tq2 : (n : Int) / 16 = (q : Int) := by omega
  have tn : (n : Int).tmod 16 = (r : Int) := by rw [Int.tmod_eq_emod_of_nonneg (by omega)]; omega
  have tn2 : (n : Int) % 16 = (r : Int) := by omega
  have nI : (n : Int) ≤ 4000000 := by omega
  have rI : (0 : Int) ≤ (r : Int) := by omega
  have qI : (0 : Int) ≤ (q : Int) := by omega
  by_cases hn : 700 < q
  · have R : Hid (∀ (e : Ending) (w' : World), e = .returned (.tuple #[.slice (some ⟨w.heap.size, 0, none⟩) 0 0, .int .i64 0, .int .i64 3]) ∧ Below w.heap.size w w' → ∃ v, e = .returned (.tuple #[v, .int .i64 (foR n), .int .i64 (foC n)]) ∧ PR 16 w.heap.size w'.heap.size w' v (foN n) (FF f) ∧ Below w.heap.size w w') := Lib.hid (fun e w' ⟨h1, h2⟩ => by
      have hn' : 700 < n / 16 := by omega
      have hc : foC n = 3 := if_pos hn'
      have hN : foN n = 0 := if_pos hn'
      have hR : foR n = 0 := if_pos hn'
      exact ⟨_, by rw [h1, hc, hR], by rw [hN]; exact PR.empty _ _ _ _ _ _ _, h2⟩)
    refine Calls.mono ?_ R.out
    have hn' : (700 : Int) < (q : Int) := by omega
    clear h hn R hqr hr hdiv hmod hn0
    go_enter Try.func41, Try.ntmps41
    go_wp2
    refine bodyPost_ret (v := .tuple #[.slice (some ⟨w.heap.size, 0, none⟩) 0 0, .int .i64 0, .int .i64 3]) (by simp [results, Try.results41, go_sem]) rfl ⟨rfl, B0.out⟩
  · have R : Hid (∀ (e : Ending) (w' : World), (∃ v, e = .returned (.tuple #[v, .int .i64 (r : Int), .int .i64 0]) ∧ OwnFr w.heap.size v q f w' ∧ Below w.heap.size w w') → ∃ v, e = .returned (.tuple #[v, .int .i64 (foR n), .int .i64 (foC n)]) ∧ PR 16 w.heap.size w'.heap.size w' v (foN n) (FF f) ∧ Below w.heap.size w w') := Lib.hid (fun e w' ⟨v, h1, h2, h3⟩ => by
      have hn' : ¬ 700 < n / 16 := by omega
      have hc : foC n = 0 := if_neg hn'
      have hN : foN n = n / 16 := if_neg hn'
      have hR : foR n = ((n % 16 : Nat) : Int) := if_neg hn'
      exact ⟨v, by rw [h1, hc, hR, hmod], by rw [hN, hdiv]; exact h2.pr, h3⟩)
    refine Calls.mono ?_ R.out
    have hn' : (q : Int) ≤ 700 := by omega
    have HN : Hid (q ≤ 700 ∧ n = 16 * q + r ∧ r < 16) := Lib.hid ⟨by omega, hqr, hr⟩
    have HF := Lib.hid h
    have O0 : Hid (OwnFr w.heap.size (.slice (some ⟨w.heap.size, 0, none⟩) 0 0) 0 f (w.alloc (.cells #[] 29))) := Lib.hid (OwnFr.made f w _ (Nat.le_refl _))
    have ZZ : Hid (#[Value.int .u8 0, Value.int .u8 0, Value.int .u8 0, Value.int .u8 0, Value.int .u8 0, Value.int .u8 0, Value.int .u8 0, Value.int .u8 0, Value.int .u8 0, Value.int .u8 0, Value.int .u8 0, Value.int .u8 0, Value.int .u8 0, Value.int .u8 0, Value.int .u8 0, Value.int .u8 0] = Q16 zI) := Lib.hid rfl
    clear h hn R hqr hr hdiv hmod hn0
    go_enter Try.func41, Try.ntmps41
    go_wp2_with fail
    generalize w.alloc (.cells #[] 29) = w1 at O0 B0 ⊢
    go_loopw [5, 6, 7, 8] (fun o i _ _ wr => ∃ k : Nat, k ≤ q ∧ i = .int .i64 ((16 * k : Nat) : Int) ∧ OwnFr w.heap.size o k f wr ∧ Below w.heap.size w wr) (fun _ i _ _ _ => n + 16 - (intOf i).toNat)
    case atStart => exact ⟨0, Nat.zero_le _, rfl, O0.out, B0.out⟩
    case round =>
      rename World => wq
      obtain ⟨k, hk, rfl, ho, hb⟩ := hrel
      have HO := Lib.hid ho
      have HB := Lib.hid hb
      have WZ : Hid (w.heap.size ≤ wq.heap.size) := Lib.hid hb.size
      clear ho hb O0 B0
      obtain ⟨i, hi⟩ : ∃ i, 16 * k = i := ⟨_, rfl⟩
      have HI := Lib.hid hi
      rw [hi]
      have iI : (i : Int) ≤ 20000 := by have := HN.out; omega
      by_cases hlt : k < q
      · obtain ⟨g, off, rfl, hg, hc⟩ : ∃ g off, a = some ⟨g, off, none⟩ ∧ g < w.heap.size ∧ ∀ j, j < n → w.cell? ⟨g, off + j, none⟩ = some (.int .u8 (f j)) := by
          rcases HF.out with h | h
          · have := HN.out; omega
          · exact h
        have HC : Hid (∀ W, Below w.heap.size w W → ∀ j, j < 16 → W.cell? ⟨g, off + (i + j), none⟩ = some (.int .u8 (frK f k j))) := Lib.hid fun W hW j hj => by
          have := HN.out
          rw [hW.cell (p := ⟨g, off + (i + j), none⟩) hg, hc (i + j) (by omega)]
          unfold frK
          rw [show i + j = k * 16 + j by omega]
        have tle : (i : Int) + 16 ≤ (n : Int) := by have := HN.out; omega
        have HK := Lib.hid hlt
        have FE : Hid (∀ j, j < 16 → f (k * 16 + j) = frK f k j) := Lib.hid fun j _ => rfl
        obtain ⟨m, hm⟩ : ∃ m, frK f k = m := ⟨_, rfl⟩
        rw [hm] at HC FE
        clear hlt hk hg hc hi hm
        obtain ⟨wa, hwa⟩ : ∃ x, wq.alloc (.cells #[Value.int .u8 0, Value.int .u8 0, Value.int .u8 0, Value.int .u8 0, Value.int .u8 0, Value.int .u8 0, Value.int .u8 0, Value.int .u8 0, Value.int .u8 0, Value.int .u8 0, Value.int .u8 0, Value.int .u8 0, Value.int .u8 0, Value.int .u8 0, Value.int .u8 0, Value.int .u8 0] 29) = x := ⟨_, rfl⟩
        have T1 : Hid (wa.heap[wq.heap.size]? = some (.cells #[Value.int .u8 0, Value.int .u8 0, Value.int .u8 0, Value.int .u8 0, Value.int .u8 0, Value.int .u8 0, Value.int .u8 0, Value.int .u8 0, Value.int .u8 0, Value.int .u8 0, Value.int .u8 0, Value.int .u8 0, Value.int .u8 0, Value.int .u8 0, Value.int .u8 0, Value.int .u8 0] 29 (0, 0))) := Lib.hid (by rw [← hwa]; exact World.alloc_heap_new wq _)
        have bb : Below wq.heap.size wq wa := by rw [← hwa]; exact (Below.refl _ _).alloc (Nat.le_refl _) _
        have S1 : Hid (wa.setRow wq.heap.size #[Value.int .u8 0, Value.int .u8 0, Value.int .u8 0, Value.int .u8 0, Value.int .u8 0, Value.int .u8 0, Value.int .u8 0, Value.int .u8 0, Value.int .u8 0, Value.int .u8 0, Value.int .u8 0, Value.int .u8 0, Value.int .u8 0, Value.int .u8 0, Value.int .u8 0, Value.int .u8 0] = wa) := Lib.hid (setRow_self _ _ _ _ _ T1.out)
        have T2 : Hid (wa.heap[wq.heap.size]? = some (.cells (Q16 (mixI zI m 0)) 29 (0, 0))) := Lib.hid (by rw [mixI_zero, ← ZZ.out]; exact T1.out)
        have BA := Lib.hid bb
        clear bb
        have ZO : Hid ((#[Value.int .u8 0, Value.int .u8 0, Value.int .u8 0, Value.int .u8 0, Value.int .u8 0, Value.int .u8 0, Value.int .u8 0, Value.int .u8 0, Value.int .u8 0, Value.int .u8 0, Value.int .u8 0, Value.int .u8 0, Value.int .u8 0, Value.int .u8 0, Value.int .u8 0, Value.int .u8 0] : Array Value).all (·.oneCell') = true) := Lib.hid (by rw [ZZ.out]; exact arr_cells _ _ _)
        go_wp2_with (refine wpList_store_row rfl 29 _ _ rfl wq.heap.size _ rfl rfl 29 _ T1.out (fr_info _ rfl) rfl ZO.out ?_; rw [S1.out])
        clear hwa S1 T1
        go_loopw [8] (fun x wx => ∃ j : Nat, j ≤ 16 ∧ x = .int .i64 (j : Int) ∧ wx.heap[wq.heap.size]? = some (.cells (Q16 (mixI zI m j)) 29 (0, 0)) ∧ Below wq.heap.size wq wx) (fun x _ => 16 - (intOf x).toNat)
        case atStart => exact ⟨0, by omega, rfl, T2.out, BA.out⟩
        case round =>
          obtain ⟨j, hj, rfl, h2, hb⟩ := hrel
          have K2 := Lib.hid h2
          have KB := Lib.hid hb
          clear h2 hb T2 BA
          by_cases hjl : j < 16
          · have hjl' : (j : Int) < 16 := by omega
            have HJ := Lib.hid hjl
            have tix : (i : Int) + (j : Int) < (n : Int) := by omega
            have tin : ((i : Int) + (j : Int)).toNat = i + j := by omega
            have c0 : wr.cell? ⟨g, off + (i + j), none⟩ = some (.int .u8 (m j)) := HC.out wr (HB.out.trans (KB.out.mono WZ.out)) j hjl
            have c2 : wr.cell? ⟨wq.heap.size, j, none⟩ = some (.int .u8 (mixI zI m j j)) := (Lib.cell_of_heap K2.out j).trans (arr_get _ _ _ _ hjl)
            have f2 : wr.frozen? ⟨wq.heap.size, j, none⟩ = false := Lib.frozen_of_heap K2.out j
            generalize mixI zI m j j = v at c2
            clear hjl hj
            go_wp2
            go_roundw
            case rel => exact ⟨j + 1, HJ.out, by go_num, by rw [fset_at K2.out, arr_set _ _ _ _ _ HJ.out, mixI_step], KB.out.setCell (p := ⟨_, _, none⟩) (Nat.le_refl _) _⟩
            case measure => have := HJ.out; simp [intOf]; omega
          · obtain rfl : j = 16 := by omega
            clear hjl hj
            have K3 : Hid (wr.heap[wq.heap.size]? = some (.cells (Q16 m) 29 (0, 0))) := Lib.hid (by have := K2.out; rwa [show Q16 (mixI zI m 16) = Q16 m from arr_mix .u8 16 zI m] at this)
            have OW : Hid (OwnFr w.heap.size _ k f wr) := Lib.hid (ownsRow_below HO.out KB.out)
            have WB : Hid (Below w.heap.size w wr) := Lib.hid (HB.out.trans (KB.out.mono WZ.out))
            have WL : Hid (w.heap.size ≤ wr.heap.size) := Lib.hid (Nat.le_trans WZ.out KB.out.size)
            have A16 : Hid ((Q16 m).size = 16) := Lib.hid (arr_size _ _ _)
            have AG : Hid (∀ j, j < 16 → (Q16 m)[j]? = some (.int .u8 (m j))) := Lib.hid fun j hj => arr_get _ _ _ _ hj
            obtain ⟨A, hA⟩ : ∃ A, Q16 m = A := ⟨_, rfl⟩
            rw [hA] at K3 A16 AG
            have sA := A16.out
            have TC : Hid (∀ B : Array Value, B = A → ∀ j, j < 1 * 16 → (wr.alloc (.cells B 29)).cell? ⟨wr.heap.size, 0 + j, none⟩ = some (.int .u8 (m j))) := Lib.hid (fun B hB j hj => by rw [hB, Nat.zero_add]; exact (World.cell?_alloc_new wr A _ j).trans (AG.out j (by omega)))
            clear hA K2
            go_wp2_with (first | (refine wpList_load_row rfl 29 _ rfl wq.heap.size rfl 29 _ _ _ K3.out Try.underlying29 rfl (fr_info _ A16.out) ?_) | (at_builtin; refine wpList_append_fr rfl _ _ rfl w.heap.size _ k f rfl (OW.out.alloc _) wr.heap.size 0 1 1 m rfl (TC.out _ (fold16 A A16.out)) (by have := HK.out; have := HN.out; omega) (by have := WL.out; rw [World.size_alloc]; omega) w (WB.out.alloc WL.out _) ?_; intro v' w' h1 h2; have H1 := Lib.hid h1; have H2 := Lib.hid h2; clear h1 h2))
            go_roundw
            case rel => exact ⟨k + 1, HK.out, by have := HI.out; rw [Nat.mul_succ, this]; push_cast; rfl, (H1.out).congr (fun j hj => by
              unfold catU
              split
              · rfl
              · rw [← FE.out _ (by omega), show k * 16 + (j - k * 16) = j by omega]), H2.out⟩
            case measure => have := HK.out; have := HI.out; have := HN.out; simp [intOf]; omega
      · obtain rfl : k = q := by omega
        have tle : (n : Int) < (i : Int) + 16 := by have := HN.out; omega
        clear hlt hk hi
        go_wp2_with fail
        go_ret3
        exact ⟨_, rfl, HO.out, HB.out⟩
end Go.Proofs.Ytligafgbknlofaa
