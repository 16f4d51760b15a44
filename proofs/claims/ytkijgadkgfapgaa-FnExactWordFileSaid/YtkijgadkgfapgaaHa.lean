/-
  CONTRACT: the program's openFrames.
-/
import Derived.Test.YtkijgadkgfapgaaGe
import Derived.Test.YtkijgadkgfapgaaGb
namespace Go.Proofs.Ytkijgadkgfapgaa
open Go.ChangeShapes Go.WideShapes Go.ChangeAt Go.RowKit
/-- is the frame k sound at its place, the first one's place being p? -/
def okAt (f : Nat → Int) (p : Int) (k : Nat) : Bool := sndX (p + (k : Int)) (frK f k)
/-- the payloads of frames, one behind the other -/
def payF (f : Nat → Int) : Nat → Int := fun j => f ((j / 12) * 16 + j % 12)
def ofPost (f : Nat → Int) (p : Int) (n : Nat) (w : World) : Ending → World → Prop := fun e w' =>
  (∃ v, e = .returned (.tuple #[v, .nilIface]) ∧ (∀ k, k < n → okAt f p k = true) ∧ OwnU w.heap.size v (12 * n) (payF f) w' ∧ Below w.heap.size w w') ∨
  (∃ k, k < n ∧ (∀ j, j < k → okAt f p j = true) ∧ okAt f p k = false ∧ e = .returned (.tuple #[.slice none 0 0, .iface 140 (.agg #[.int .i64 (p + (k : Int))])]) ∧ Below w.heap.size w w')
theorem ownsRow_belowB {w w' : World} {base : Nat} {e : TypeId} {size : Nat} {v : Value} {n : Nat} {xs : List Value} (h : w.ownsRow base e size v n xs) (hb : Below w.heap.size w w') : w'.ownsRow base e size v n xs := by
  have hl := h.lt
  refine ⟨h.1, ?_⟩
  rcases h.2 with h0 | ⟨g, cap, cur, rfl, h1, h2, h3⟩
  · exact .inl h0
  · exact .inr ⟨g, cap, cur, rfl, h1, (hb.block g (hl g rfl).2).trans h2, h3⟩
set_option maxRecDepth 20000 in
set_option maxHeartbeats 8000000 in
theorem open_any (a : Option Addr) (n cap : Nat) (f : Nat → Int) (p : Int) (w : World) (hp : 0 ≤ p) (hpn : p + (n : Int) ≤ 100000) (hf : ByF (16 * n) f) (h : FrR w.heap.size w a n f) :
    Calls Try.prog 64 #[.slice a n cap, .int .i64 p] w (ofPost f p n w) := by
  have PA : Hid (∀ v w', (∀ k, k < n → okAt f p k = true) → OwnU w.heap.size v (12 * n) (payF f) w' → Below w.heap.size w w' → ofPost f p n w (.returned (.tuple #[v, .nilIface])) w') := Lib.hid fun v w' h1 h2 h3 => .inl ⟨v, rfl, h1, h2, h3⟩
  have PB : Hid (∀ k w', k < n → (∀ j, j < k → okAt f p j = true) → okAt f p k = false → Below w.heap.size w w' → ofPost f p n w (.returned (.tuple #[.slice none 0 0, .iface 140 (.agg #[.int .i64 (p + (k : Int))])])) w') := Lib.hid fun k w' h1 h2 h3 h4 => .inr ⟨k, h1, h2, h3, rfl, h4⟩
  have HF := Lib.hid h
  have HY := Lib.hid hf
  have HP : Hid (0 ≤ p ∧ p + (n : Int) ≤ 100000) := Lib.hid ⟨hp, hpn⟩
  have nI : (n : Int) ≤ 100000 := by omega
  have O0 : Hid (OwnU w.heap.size (.slice none 0 0) 0 (payF f) w) := Lib.hid (OwnU.nil _ _ _)
  clear h hf hpn hp
  go_enter Try.func64, Try.ntmps64
  go_wp2_with fail
  go_loopw [1, 6, 8, 9, 10, 11, 14] (fun pl d _ _ _ _ i wr => ∃ k : Nat, k ≤ n ∧ i = .int .i64 (k : Int) ∧ pl = .int .i64 (p + (k : Int)) ∧ (∀ j, j < k → okAt f p j = true) ∧ OwnU w.heap.size d (12 * k) (payF f) wr ∧ Below w.heap.size w wr) (fun _ _ _ _ _ _ i _ => n - (intOf i).toNat)
  case atStart => exact ⟨0, Nat.zero_le _, rfl, by simp, fun j hj => absurd hj (Nat.not_lt_zero _), O0.out, Below.refl _ _⟩
  case round =>
    obtain ⟨k, hk, rfl, rfl, hs, ho, hb⟩ := hrel
    have HS := Lib.hid hs
    have HO := Lib.hid ho
    have HB := Lib.hid hb
    have WZ : Hid (w.heap.size ≤ wr.heap.size) := Lib.hid hb.size
    clear hs ho hb O0
    by_cases hlt : k < n
    · obtain ⟨g, off, rfl, hg, hc⟩ : ∃ g off, a = some ⟨g, off, none⟩ ∧ g < w.heap.size ∧ ∀ j, j < 16 * n → w.cell? ⟨g, off + j, none⟩ = some (.int .u8 (f j)) := by
        rcases HF.out with h | h
        · omega
        · exact h
      have HC : Hid (∀ j u, (Q16 (frK f k))[j]? = some u → wr.cell? ⟨g, off + k * 16 + j, none⟩ = some u) := Lib.hid fun j u e => by
        have hj : j < 16 := by
          rcases Nat.lt_or_ge j 16 with h | h
          · exact h
          · rw [arr_none _ _ _ _ h] at e; cases e
        rw [HB.out.cell (p := ⟨g, off + k * 16 + j, none⟩) hg, Nat.add_assoc, hc (k * 16 + j) (by omega), ← e, arr_get _ _ _ _ hj]
        rfl
      have tk : (k : Int) < (n : Int) := by omega
      have HK := Lib.hid hlt
      have FB : Hid (ByF 16 (frK f k)) := Lib.hid fun j hj => HY.out (k * 16 + j) (by omega)
      have IS := Lib.hid (iSound_any (p + (k : Int)) (frK f k) FB.out)
      have IP := Lib.hid (iPay_any (frK f k))
      have OK : Hid (okAt f p k = sndX (p + (k : Int)) (frK f k)) := Lib.hid rfl
      have FE : Hid (∀ j, j < 12 → payF f (12 * k + j) = frK f k j) := Lib.hid fun j hj => by
        unfold payF frK
        rw [show (12 * k + j) / 12 = k by omega, show (12 * k + j) % 12 = j by omega]
      obtain ⟨P, hP⟩ : ∃ P, p + (k : Int) = P := ⟨_, rfl⟩
      have EP := Lib.hid hP
      obtain ⟨C, hC⟩ : ∃ C, codeX (p + (k : Int)) = C := ⟨_, rfl⟩
      rw [hC, hP] at IS
      rw [hP] at OK ⊢
      obtain ⟨m, hm⟩ : ∃ m, frK f k = m := ⟨_, rfl⟩
      rw [hm] at HC FB IS IP OK FE
      obtain ⟨wa, hwa⟩ : ∃ x, wr.alloc (.cells #[Value.int .u8 0, Value.int .u8 0, Value.int .u8 0, Value.int .u8 0, Value.int .u8 0, Value.int .u8 0, Value.int .u8 0, Value.int .u8 0, Value.int .u8 0, Value.int .u8 0, Value.int .u8 0, Value.int .u8 0, Value.int .u8 0, Value.int .u8 0, Value.int .u8 0, Value.int .u8 0] 93) = x := ⟨_, rfl⟩
      have T1 : Hid (wa.heap[wr.heap.size]? = some (.cells #[Value.int .u8 0, Value.int .u8 0, Value.int .u8 0, Value.int .u8 0, Value.int .u8 0, Value.int .u8 0, Value.int .u8 0, Value.int .u8 0, Value.int .u8 0, Value.int .u8 0, Value.int .u8 0, Value.int .u8 0, Value.int .u8 0, Value.int .u8 0, Value.int .u8 0, Value.int .u8 0] 93 (0, 0))) := Lib.hid (by rw [← hwa]; exact World.alloc_heap_new wr _)
      obtain ⟨wb, hwb⟩ : ∃ x, wa.setRow wr.heap.size (Q16 m) = x := ⟨_, rfl⟩
      have T2 : Hid (wb.heap[wr.heap.size]? = some (.cells (Q16 m) 93 (0, 0))) := Lib.hid (by rw [← hwb]; exact setRow_heap _ _ _ _ _ _ T1.out)
      have U2 : Hid (Below wr.heap.size wr wb) := Lib.hid (by rw [← hwb, ← hwa]; exact below_setRow ((Below.refl _ _).alloc (Nat.le_refl _) _) (Nat.le_refl _) _)
      have Z2 : Hid (wb.heap.size = wr.heap.size + 1) := Lib.hid (by rw [← hwb, ← hwa]; simp)
      clear hlt hk hP hC hm hg hc
      go_wp2_with (first | (refine wpList_load_part rfl 93 _ rfl g (off + k * 16) rfl (Q16 m) _ HC.out Try.underlying93 rfl (fr_info _ (arr_size _ _ _)) ?_) | (refine wpList_store_row rfl 93 _ _ rfl wr.heap.size (Q16 m) rfl rfl 93 _ T1.out (fr_info _ rfl) rfl (arr_cells _ _ _) ?_; rw [hwb]) | (refine wpList_load_row rfl 93 _ rfl wr.heap.size rfl 93 _ _ _ T2.out Try.underlying93 rfl (fr_info _ (arr_size _ _ _)) ?_))
      refine (IS.out wb).mono ?_
      rintro e wc ⟨rfl, b⟩
      have T3 := Lib.hid ((b.block wr.heap.size (by have := Z2.out; omega)).trans T2.out)
      have U3 : Hid (Below wr.heap.size wr wc) := Lib.hid (U2.out.trans (b.mono U2.out.size))
      clear b hwa hwb T1 T2 U2 Z2 IS
      cases hsd : sndX P m with
      | false =>
        have SB : Hid (okAt f p k = false) := Lib.hid (OK.out.trans hsd)
        have BB : Hid (Below w.heap.size w wc) := Lib.hid (HB.out.trans (U3.out.mono WZ.out))
        clear hsd T3 U3 IP HO FE OK
        go_wp2
        go_ret2
        have := PB.out k wc HK.out HS.out SB.out BB.out
        rw [EP.out] at this
        exact this
      | true =>
        have SB : Hid (okAt f p k = true) := Lib.hid (OK.out.trans hsd)
        clear hsd OK
        go_wp2_with (refine wpList_load_row rfl 93 _ rfl wr.heap.size rfl 93 _ _ _ T3.out Try.underlying93 rfl (fr_info _ (arr_size _ _ _)) ?_)
        refine (IP.out wc).mono ?_
        rintro e wd ⟨rfl, b⟩
        have U4 : Hid (Below wr.heap.size wr wd) := Lib.hid (U3.out.trans (b.mono U3.out.size))
        clear b T3 U3 IP
        obtain ⟨we, hwe⟩ : ∃ x, wd.alloc (.cells #[Value.int .u8 0, Value.int .u8 0, Value.int .u8 0, Value.int .u8 0, Value.int .u8 0, Value.int .u8 0, Value.int .u8 0, Value.int .u8 0, Value.int .u8 0, Value.int .u8 0, Value.int .u8 0, Value.int .u8 0] 141) = x := ⟨_, rfl⟩
        have V1 : Hid (we.heap[wd.heap.size]? = some (.cells #[Value.int .u8 0, Value.int .u8 0, Value.int .u8 0, Value.int .u8 0, Value.int .u8 0, Value.int .u8 0, Value.int .u8 0, Value.int .u8 0, Value.int .u8 0, Value.int .u8 0, Value.int .u8 0, Value.int .u8 0] 141 (0, 0))) := Lib.hid (by rw [← hwe]; exact World.alloc_heap_new wd _)
        obtain ⟨wf, hwf⟩ : ∃ x, we.setRow wd.heap.size (Q12 m) = x := ⟨_, rfl⟩
        have V2 : Hid (∀ j, j < 12 → wf.cell? ⟨wd.heap.size, 0 + j, none⟩ = some (.int .u8 (m j))) := Lib.hid (fun j hj => by
          have : wf.heap[wd.heap.size]? = some (.cells (Q12 m) 141 (0, 0)) := by rw [← hwf]; exact setRow_heap _ _ _ _ _ _ V1.out
          rw [Nat.zero_add]
          exact (Lib.cell_of_heap this j).trans (arr_get _ _ _ _ hj))
        have U5 : Hid (Below wr.heap.size wr wf) := Lib.hid (by rw [← hwf, ← hwe]; exact below_setRow (U4.out.alloc U4.out.size _) U4.out.size _)
        have O5 : Hid (OwnU w.heap.size _ (12 * k) (payF f) wf) := Lib.hid (ownsRow_belowB HO.out U5.out)
        have B5 : Hid (Below w.heap.size w wf) := Lib.hid (HB.out.trans (U5.out.mono WZ.out))
        have Z5 : Hid (w.heap.size ≤ wf.heap.size) := Lib.hid B5.out.size
        clear U4
        go_wp2_with (first | (refine wpList_store_row rfl 141 _ _ rfl wd.heap.size (Q12 m) rfl rfl 141 _ V1.out (p12_info _ rfl) rfl (arr_cells _ _ _) ?_; rw [hwf]) | (at_builtin; refine wpList_append_u rfl _ _ rfl w.heap.size _ (12 * k) (payF f) rfl O5.out wd.heap.size 0 12 12 m rfl V2.out (by have := HK.out; have := HP.out; omega) Z5.out w B5.out ?_; intro v' w' h1 h2; have H1 := Lib.hid h1; have H2 := Lib.hid h2; clear h1 h2))
        go_roundw
        case rel => exact ⟨k + 1, HK.out, by go_num, by rw [← EP.out, show p + ((k + 1 : Nat) : Int) = p + (k : Int) + 1 by push_cast; omega, show wrap64 (p + (k : Int) + 1) = p + (k : Int) + 1 by have := HP.out; have := HK.out; unfold wrap64; omega], fun j hj => by
          rcases Nat.lt_or_ge j k with h | h
          · exact HS.out j h
          · obtain rfl : j = k := by omega
            exact SB.out, by
          rw [show 12 * (k + 1) = 12 * k + 12 by omega]
          refine H1.out.congr fun j hj => ?_
          unfold catU
          split
          · rfl
          · rw [← FE.out _ (by omega), show 12 * k + (j - 12 * k) = j by omega], H2.out⟩
        case measure => have := HK.out; simp [intOf]; omega
    · obtain rfl : k = n := by omega
      clear hlt hk
      go_wp2
      go_ret2
      exact PA.out _ _ HS.out HO.out HB.out
end Go.Proofs.Ytkijgadkgfapgaa
