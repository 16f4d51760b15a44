/-
  CONTRACTS: SpoilFrame of both sides.
-/
import Derived.Test.YtligafgbknlofaaDoorGe
import Derived.Test.YtligafgbknlofaaDoorGb
namespace Go.Proofs.YtligafgbknlofaaDoor
open Go.ChangeShapes Go.WideShapes Go.ChangeAt Go.RowKit
def spOk (n : Nat) (t b : Int) : Bool := decide (0 ≤ t) && decide (t < n) && decide (0 ≤ b) && decide (b < 128)
def spC (n : Nat) (t b : Int) : Int := if 700 < n then 3 else if spOk n t b then 0 else 2
def spN (n : Nat) (t b : Int) : Nat := if spC n t b = 0 then n else 0
def spF (f : Nat → Int) (t b : Int) : Nat → Int := updI f (t.toNat * 16 + b.toNat / 8) (bits .xor .u8 (f (t.toNat * 16 + b.toNat / 8)) (2 ^ (b.toNat % 8)))
def SpPost (f : Nat → Int) (n : Nat) (t b : Int) (w : World) (e : Ending) (w' : World) : Prop :=
  ∃ v, e = .returned (.tuple #[v, .int .i64 (spC n t b)]) ∧ PR 16 w.heap.size w'.heap.size w' v (spN n t b) (FF (spF f t b)) ∧ Below w.heap.size w w'
theorem spOk_nat {n : Nat} {t b : Int} (h : spOk n t b = true) : ∃ T B : Nat, t = T ∧ b = B ∧ T < n ∧ B < 128 := by
  simp [spOk] at h
  exact ⟨t.toNat, b.toNat, by omega, by omega, by omega, by omega⟩
theorem PR.empty (s lo hi : Nat) (w : World) (a : Option Addr) (c : Nat) (f : Nat → Value) : PR s lo hi w (.slice a 0 c) 0 f := ⟨a, c, rfl, .inl rfl⟩
theorem OwnFr.form {base : Nat} {v : Value} {n : Nat} {f : Nat → Int} {w : World} (h : OwnFr base v n f w) (hn : 0 < n) : ∃ g cap, v = .slice (some ⟨g, 0, none⟩) n cap ∧ n ≤ cap ∧ base ≤ g ∧ g < w.heap.size ∧ (∀ j, j < n * 16 → w.cell? ⟨g, j, none⟩ = some (.int .u8 (f j))) ∧ ∀ j, j < n * 16 → w.frozen? ⟨g, j, none⟩ = false := by
  have hp := h.pr
  rcases h.2 with ⟨_, h0⟩ | ⟨g, cap, cur, rfl, hb, hg, h3, _⟩
  · omega
  · obtain ⟨a, c, e, h0 | ⟨g', h1, h2, h4, h5, h6, h7⟩⟩ := hp
    · omega
    · subst h1
      simp only [Value.slice.injEq, Option.some.injEq, Addr.mk.injEq] at e
      obtain ⟨⟨rfl, -⟩, -, rfl⟩ := e
      exact ⟨g, cap, rfl, h3, hb, h4, fun j hj => h6 j hj, h7⟩
theorem PR.upd {lo hi g n cap i : Nat} {w : World} {f : Nat → Int} (x : Int) (h1 : lo ≤ g) (h2 : g < hi) (h3 : hi ≤ w.heap.size) (h4 : ∀ j, j < n * 16 → w.cell? ⟨g, j, none⟩ = some (.int .u8 (f j))) (h5 : ∀ j, j < n * 16 → w.frozen? ⟨g, j, none⟩ = false) :
    PR 16 lo hi (w.setCell ⟨g, i, none⟩ (.int .u8 x)) (.slice (some ⟨g, 0, none⟩) n cap) n (FF (updI f i x)) :=
  ⟨_, cap, rfl, .inr ⟨g, rfl, h1, h2, by simpa using h3, fun j hj => by
    rw [fcell_set (h4 j hj)]
    unfold FF updI
    by_cases e : i = j
    · rw [if_pos e, if_pos e.symm]
    · rw [if_neg e, if_neg (fun h => e h.symm)], fun j hj => by rw [World.frozen?_setCell]; exact h5 j hj⟩⟩
theorem shl8 (r : Nat) (h : r < 8) : (2 : Int) ^ r % 256 = 2 ^ r := by
  have : r = 0 ∨ r = 1 ∨ r = 2 ∨ r = 3 ∨ r = 4 ∨ r = 5 ∨ r = 6 ∨ r = 7 := by omega
  rcases this with rfl | rfl | rfl | rfl | rfl | rfl | rfl | rfl <;> rfl
set_option maxRecDepth 20000 in
set_option maxHeartbeats 4000000 in
theorem iSpoil_any (a : Option Addr) (n cap : Nat) (f : Nat → Int) (t b : Int) (w : World) (h : FrR w.heap.size w a n f) :
    Calls Tryd.prog 22 #[.slice a n cap, .int .i64 t, .int .i64 b] w (SpPost f n t b w) := by
  by_cases hn : 700 < n
  · have R : Hid (∀ e w', e = .returned (.tuple #[.slice none 0 0, .int .i64 3]) ∧ Below w.heap.size w w' → SpPost f n t b w e w') := Lib.hid (fun e w' ⟨h1, h2⟩ => by
      have hc : spC n t b = 3 := by unfold spC; exact if_pos hn
      have hN : spN n t b = 0 := by unfold spN; rw [hc]; exact if_neg (by decide)
      exact ⟨_, by rw [h1, hc], by rw [hN]; exact PR.empty _ _ _ _ _ _ _, h2⟩)
    refine Calls.mono ?_ R.out
    have hn' : (700 : Int) < (n : Int) := by omega
    clear h hn R
    go_enter Tryd.func22, Tryd.ntmps22
    go_wp2
    go_ret2
    exact ⟨rfl, Below.refl _ _⟩
  · cases ho : spOk n t b
    · have hc0 : spC n t b = 2 := by unfold spC; rw [if_neg hn, ho]; exact if_neg (by decide)
      have hN0 : spN n t b = 0 := by unfold spN; rw [hc0]; exact if_neg (by decide)
      have R : Hid (∀ e w', e = .returned (.tuple #[.slice none 0 0, .int .i64 2]) ∧ Below w.heap.size w w' → SpPost f n t b w e w') := Lib.hid (fun e w' ⟨h1, h2⟩ =>
        ⟨.slice none 0 0, by rw [h1, hc0], by rw [hN0]; exact PR.empty _ _ _ _ _ _ _, h2⟩)
      refine Calls.mono ?_ R.out
      have hn' : (n : Int) ≤ 700 := by omega
      clear h R hc0 hN0
      by_cases h1 : t < 0
      · clear ho
        go_enter Tryd.func22, Tryd.ntmps22
        go_wp2
        go_ret2
        exact ⟨rfl, Below.refl _ _⟩
      have h1' : 0 ≤ t := by omega
      by_cases h2 : (n : Int) ≤ t
      · clear ho h1
        go_enter Tryd.func22, Tryd.ntmps22
        go_wp2
        go_ret2
        exact ⟨rfl, Below.refl _ _⟩
      have h2' : t < (n : Int) := by omega
      by_cases h3 : b < 0
      · clear ho h1 h2
        go_enter Tryd.func22, Tryd.ntmps22
        go_wp2
        go_ret2
        exact ⟨rfl, Below.refl _ _⟩
      have h3' : 0 ≤ b := by omega
      have h4' : 128 ≤ b := by simp [spOk] at ho; omega
      clear ho h1 h2 h3
      go_enter Tryd.func22, Tryd.ntmps22
      go_wp2
      go_ret2
      exact ⟨rfl, Below.refl _ _⟩
    · obtain ⟨T, B, rfl, rfl, hT, hB⟩ := spOk_nat ho
      obtain ⟨g, off, rfl, hg, hc⟩ : ∃ g off, a = some ⟨g, off, none⟩ ∧ g < w.heap.size ∧ ∀ j, j < 16 * n → w.cell? ⟨g, off + j, none⟩ = some (.int .u8 (f j)) := by
        rcases h with h | h
        · omega
        · exact h
      have hn' : (n : Int) ≤ 700 := by omega
      have hT' : (T : Int) < (n : Int) := by omega
      have hB' : (B : Int) < 128 := by omega
      have CL := Lib.hid (clone_any g off n cap f w hg (by omega) (fun j hj => hc j (by omega)))
      have HN : Hid (n ≤ 700) := Lib.hid (by omega)
      have HO := Lib.hid ho
      clear hc h hg hn ho
      go_enter Tryd.func22, Tryd.ntmps22
      go_wp2_with fail
      refine Calls.mono (CL.out) ?_
      rintro e w' ⟨v', rfl, h1, h2⟩
      have H1 := Lib.hid h1
      have H2 := Lib.hid h2
      clear h1 h2
      obtain ⟨g2, cap2, rfl, hcap2, hg2, hg2s, hc2, hz2⟩ := (H1.out).form (by omega)
      have C2 : Hid (∀ j, j < n * 16 → w'.cell? ⟨g2, j, none⟩ = some (.int .u8 (f j))) := Lib.hid (fun j hj => hc2 j hj)
      have F2 : Hid (∀ j, j < n * 16 → w'.frozen? ⟨g2, j, none⟩ = false) := Lib.hid (fun j hj => hz2 j (by omega))
      have G2 : Hid (w.heap.size ≤ g2 ∧ g2 < w'.heap.size) := Lib.hid ⟨hg2, hg2s⟩
      obtain ⟨q, r, hqr, hr8, hq16⟩ : ∃ q r, B = 8 * q + r ∧ r < 8 ∧ q < 16 := ⟨B / 8, B % 8, by omega, by omega, by omega⟩
      have tq : (B : Int).tdiv 8 = (q : Int) := by rw [Int.tdiv_eq_ediv_of_nonneg (by omega)]; omega
      have tr : (B : Int).tmod 8 = (r : Int) := by rw [Int.tmod_eq_emod_of_nonneg (by omega)]; omega
      have tq' : (B : Int) / 8 = (q : Int) := by omega
      have tr' : (B : Int) % 8 = (r : Int) := by omega
      have hq' : (q : Int) < 16 := by omega
      have hr' : (r : Int) < 8 := by omega
      have SW := shl8 r hr8
      have wq : IntKind.i64.wrap (q : Int) = (q : Int) := by rw [IntKind.wrap_i64]; omega
      have wr : IntKind.i64.wrap (r : Int) = (r : Int) := by rw [IntKind.wrap_i64]; omega
      have wr2 : IntKind.u64.wrap (r : Int) = (r : Int) := by rw [IntKind.wrap_u64]; omega
      have wp : IntKind.u8.wrap (2 ^ r) = 2 ^ r := by rw [IntKind.wrap_u8]; exact SW
      have q0 : (0 : Int) ≤ (q : Int) := by omega
      have r0 : (0 : Int) ≤ (r : Int) := by omega
      have T0 : (0 : Int) ≤ (T : Int) := by omega
      have qn : ((q : Int)).toNat = q := by omega
      have rn : ((r : Int)).toNat = r := by omega
      have Tn : ((T : Int)).toNat = T := by omega
      have IX : T * 16 + q < n * 16 := by omega
      have c2 : w'.drew.cell? ⟨g2, T * 16 + q, none⟩ = some (.int .u8 (f (T * 16 + q))) := C2.out _ IX
      have f2 : w'.drew.frozen? ⟨g2, T * 16 + q, none⟩ = false := F2.out _ IX
      have SF : Hid (spF f T B = updI f (T * 16 + q) (bits .xor .u8 (f (T * 16 + q)) (2 ^ r))) := Lib.hid (by
        unfold spF
        rw [Int.toNat_natCast, Int.toNat_natCast, show B / 8 = q by omega, show B % 8 = r by omega])
      have HQR := Lib.hid hqr
      have R : Hid (∀ e w', e = .returned (.tuple #[.slice (some ⟨g2, 0, none⟩) n cap2, .int .i64 0]) ∧ PR 16 w.heap.size w'.heap.size w' (.slice (some ⟨g2, 0, none⟩) n cap2) n (FF (spF f T B)) ∧ Below w.heap.size w w' → SpPost f n T B w e w') := Lib.hid (fun e w' ⟨h1, h2, h3⟩ => by
        have hc : spC n T B = 0 := by unfold spC; rw [if_neg (by have := HN.out; omega), if_pos HO.out]
        have hN : spN n T B = n := by unfold spN; exact if_pos hc
        exact ⟨_, by rw [h1, hc], by rw [hN]; exact h2, h3⟩)
      clear hc2 hz2 hg2 hg2s hcap2 H1 hqr hr8 hq16
      have C3 : Hid (∀ j, j < n * 16 → w'.drew.cell? ⟨g2, j, none⟩ = some (.int .u8 (f j))) := Lib.hid C2.out
      have F3 : Hid (∀ j, j < n * 16 → w'.drew.frozen? ⟨g2, j, none⟩ = false) := Lib.hid F2.out
      have G3 : Hid (w.heap.size ≤ g2 ∧ g2 < w'.drew.heap.size) := Lib.hid G2.out
      have B3 : Hid (Below w.heap.size w w'.drew) := Lib.hid H2.out.drew
      clear C2 F2 G2 H2 CL
      obtain ⟨y, hy⟩ : ∃ y, f (T * 16 + q) = y := ⟨_, rfl⟩
      rw [hy] at c2 SF
      clear hy
      go_wp2_with fail
      go_still_tail 12, (by kernel_rfl)
      change wpList _ _ _ _ _ w'.drew
      generalize w'.drew = W2 at c2 f2 C3 F3 G3 B3 ⊢
      go_wp2
      go_ret2
      exact R.out _ _ ⟨rfl, by rw [SF.out]; exact PR.upd _ G3.out.1 (by simpa using G3.out.2) (by simp) C3.out F3.out, B3.out.setCell (p := ⟨g2, _, none⟩) G3.out.1 _⟩
end Go.Proofs.YtligafgbknlofaaDoor
