/-
  ComposeImages of both sides; blocks of texts that are marked.
-/
import Derived.Test.YtdcphheeapmjcaaMks
import Derived.Test.YtdcphheeapmjcaaSz
namespace Go.Proofs.Ytdcphheeapmjcaa
open Go.ChangeShapes Go.WideShapes Go.ChangeAt Go.RowKit Go.Deep
open Wd
theorem cmR_len (F G : List (List UInt8)) : (cmR F G).length ≤ 4 := by
  unfold cmR
  split
  · rename_i h
    split
    · have := imgB_len h.1
      simp [cmT, this]
    · simp
  · simp
theorem scompose_any (a a1 : Option Addr) (cap cap1 : Nat) (F G : List (List UInt8)) (hF : SFew F) (hG : SFew G) (w : World) (h : SRow w.heap.size w a F) (h1 : SRow w.heap.size w a1 G) :
    Calls Try.prog 33 #[.slice a F.length cap, .slice a1 G.length cap1] w (CmPost (cmR F G) (cmC F G) w) := by
  by_cases hn : imgB F = true ∧ imgB G = true
  · have e1 : cmR F G = if cmF F G = true then cmT F G else [] := by unfold cmR; rw [if_pos hn]
    have e2 : cmC F G = if cmF F G = true then 0 else 3 := by unfold cmC; rw [if_pos hn]
    rw [e1, e2]
    exact scompose_yes a a1 cap cap1 F G hF hG hn.1 hn.2 w h h1
  · have e1 : cmR F G = [] := by unfold cmR; rw [if_neg hn]
    have e2 : cmC F G = 1 := by unfold cmC; rw [if_neg hn]
    rw [e1, e2]
    exact scompose_no a a1 cap cap1 F G hF hG hn w h h1
theorem icompose_any (a a1 : Option Addr) (cap cap1 : Nat) (F G : List (List UInt8)) (hF : SFew F) (hG : SFew G) (w : World) (h : SRow w.heap.size w a F) (h1 : SRow w.heap.size w a1 G) :
    Calls Try.prog 34 #[.slice a F.length cap, .slice a1 G.length cap1] w (ImPost (cmR F G) (cmC F G) w) := by
  by_cases hn : imgB F = true ∧ imgB G = true
  · have e1 : cmR F G = if cmF F G = true then cmT F G else [] := by unfold cmR; rw [if_pos hn]
    have e2 : cmC F G = if cmF F G = true then 0 else 3 := by unfold cmC; rw [if_pos hn]
    rw [e1, e2]
    exact icompose_yes a a1 cap cap1 F G hF hG hn.1 hn.2 w h h1
  · have e1 : cmR F G = [] := by unfold cmR; rw [if_neg hn]
    have e2 : cmC F G = 1 := by unfold cmC; rw [if_neg hn]
    rw [e1, e2]
    exact icompose_no a a1 cap cap1 F G hF hG hn w h h1
theorem OwnT.form {base : Nat} {v : Value} {q : List (List UInt8)} {w : World} (h : OwnT base v q w) : ∃ a cap, v = .slice a q.length cap ∧ SRow w.heap.size w a q := by
  have h' := h
  obtain ⟨h1, h2⟩ := h
  rcases h2 with ⟨rfl, h0⟩ | ⟨g, cap, cur, rfl, hb, hg, hn2, hm, hs, ht⟩
  · exact ⟨none, 0, by rw [h0], .inl h0⟩
  · refine ⟨_, cap, rfl, .inr ⟨g, 0, rfl, (Array.getElem?_eq_some_iff.1 hg).1, fun i hi => ?_⟩⟩
    have := World.ownsRow.cells h' (g := g) rfl i (.string (txt q[i])) (by simp [txtC, hi])
    rw [addr_off, Nat.zero_add] at this
    rw [Nat.zero_add]; exact this
theorem BlkT.form {B : Nat} {v : Value} {R : List (List UInt8)} {w : World} : BlkT B v R w → ∃ a cap, v = .slice a R.length cap ∧ SRow w.heap.size w a R
  | .inl ⟨h1, h2⟩ => ⟨none, 0, by rw [h1, h2]; rfl, .inl (by rw [h2]; rfl)⟩
  | .inr ⟨g, h1, _, h3⟩ => ⟨_, _, h1, strC_row h3⟩
theorem BlkT.only {B p : Nat} {v : Value} {R : List (List UInt8)} {w w' : World} (hp : p < B) (h : Only p w w') : BlkT B v R w → BlkT B v R w'
  | .inl e => .inl e
  | .inr ⟨g, h1, h2, h3⟩ => .inr ⟨g, h1, h2, (h.block g (Array.getElem?_eq_some_iff.1 h3).1 (fun e => Nat.ne_of_gt (Nat.lt_of_lt_of_le hp h2) (Option.some.inj e))).trans h3⟩
theorem BlkT.keep {B : Nat} {v : Value} {R : List (List UInt8)} {w w' : World} (h : Below w.heap.size w w') : BlkT B v R w → BlkT B v R w'
  | .inl e => .inl e
  | .inr ⟨g, h1, h2, h3⟩ => .inr ⟨g, h1, h2, (h.block g (Array.getElem?_eq_some_iff.1 h3).1).trans h3⟩
theorem markB_any (B k0 : Nat) (v : Value) (R : List (List UInt8)) (hR : R.length ≤ 1048576) (h1 : 1 ≤ k0) (hk : k0 ≤ 4000000) (w : World) (hB : B ≤ w.heap.size) (h : BlkT B v R w) :
    Calls Try.prog 35 #[v, .int .i64 (k0 : Int)] w fun e w' => e = .returned (.int .i64 (((k0 + R.length : Nat)) : Int)) ∧ BlkT B v (mks k0 R.length) w' ∧ Below B w w' := by
  rcases h with ⟨rfl, rfl⟩ | ⟨g, rfl, hg, hc⟩
  · exact (mark_nil k0 w).mono fun e w' ⟨h1, h2⟩ => ⟨h1, .inl ⟨rfl, rfl⟩, by rw [h2]; exact Below.refl _ _⟩
  · exact (mark_any g k0 R hR h1 hk w hc).mono fun e w' ⟨e1, e2, e3⟩ => ⟨e1, .inr ⟨g, by rw [mks_len], hg, by rw [mks_len]; exact e2⟩, e3.below hg hB⟩
theorem heldB_any (B k0 n : Nat) (v : Value) (hR : n ≤ 1048576) (h1 : 1 ≤ k0) (hk : k0 ≤ 4000000) (w : World) (h : BlkT B v (mks k0 n) w) :
    Calls Try.prog 36 #[v, .int .i64 (k0 : Int)] w fun e w' => e = .returned (.int .i64 (((k0 + n : Nat)) : Int)) ∧ Below w.heap.size w w' := by
  rcases h with ⟨rfl, hr⟩ | ⟨g, rfl, hg, hc⟩
  · have : n = 0 := by have := congrArg List.length hr; rwa [mks_len] at this
    subst this
    exact (held_nil k0 w).mono fun e w' ⟨h1, h2⟩ => ⟨h1, by rw [h2]; exact Below.refl _ _⟩
  · rw [mks_len] at hc ⊢
    exact held_any g k0 n hR h1 hk w hc
end Go.Proofs.Ytdcphheeapmjcaa
