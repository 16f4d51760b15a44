import Derived.Test.YtanepboepeijoaaDoorSpt
import Derived.Test.YtanepboepeijoaaDoorCx
namespace Go.Proofs.YtanepboepeijoaaDoor
open Go.ChangeShapes Go.WideShapes Go.ChangeAt Go.RowKit
open Fl
/-- what the specification's inner function hands back -/
def PtPost (t : ByteArray) (e : Ending) : Prop := ∃ x y, e = .returned (.tuple #[.complex .f32 x y, .bool (pointW t).isSome]) ∧ ∀ a b, pointW t = some (a, b) → Sim x a ∧ Sim y b
theorem l02Read_any (t : ByteArray) (hm : t.size ≤ 1048576) (w : World) :
    Calls Tryd.prog 38 #[.string t] w fun e w' => PtPost t e ∧ Below w.heap.size w w' := by
  have HS := Lib.hid (l01Split_any t 32 hm w)
  go_enter Tryd.func38, Tryd.ntmps38
  go_wp2_with fail
  refine HS.out.mono ?_
  rintro e w1 ⟨⟨g, cap, q, rfl, hq, hg, hc⟩, b1⟩
  have B1 := Lib.hid b1
  clear b1 HS
  by_cases h2 : q.length = 2
  · match q, h2 with
    | [q0, q1], _ =>
      have c0 : w1.cell? ⟨g, 0, none⟩ = some (.string q0) := hc 0 (by simp)
      have c1 : w1.cell? ⟨g, 1, none⟩ = some (.string q1) := hc 1 (by simp)
      have hgl := World.block_lt_of_cell? _ _ c0
      have HQ := Lib.hid (pointW_two t q0 q1 hq)
      have hsz : ∀ p : ByteArray, p.data.toList ∈ splitL 32 t.data.toList → p.size ≤ 1048576 := fun p hp => by
        have h := splitL_le 32 _ _ hp
        rw [Array.length_toList, Array.length_toList] at h
        have e1 : p.size = p.data.size := rfl
        have e2 : t.size = t.data.size := rfl
        omega
      have hs0 := hsz q0 (by rw [hq]; simp)
      have hs1 := hsz q1 (by rw [hq]; simp)
      have h0 := l01ReadE q0 hs0
      have h1 := l01ReadE q1 hs1
      have hQ := HQ.out
      clear hsz
      generalize readE q0 = r0 at h0 hQ
      generalize readE q1 = r1 at h1 hQ
      have H0 := Lib.hid h0
      have H1 := Lib.hid h1
      have C1 := Lib.hid c1
      have HG := Lib.hid hgl
      have HP : Hid (pointW t = _) := Lib.hid hQ
      clear hc hq hs0 hs1 c1 hgl hg h0 h1 hQ HQ
      rcases r0 with _ | a <;> rcases r1 with _ | b
      all_goals
        go_wp2_with fail
        refine (H0.out _).mono ?_
        rintro e w2 ⟨⟨x, rfl, hx⟩, b2⟩
        have B2 := Lib.hid (B1.out.trans (b2.mono B1.out.size))
        have c1 : w2.cell? ⟨g, 1, none⟩ = some (.string q1) := by rw [b2.cell (p := ⟨g, 1, none⟩) HG.out]; exact C1.out
        have HX := Lib.hid hx
        clear b2 hx B1 c0
        go_wp2_with fail
        refine (H1.out _).mono ?_
        rintro e w3 ⟨⟨y, rfl, hy⟩, b3⟩
        have B3 := Lib.hid (B2.out.trans (b3.mono B2.out.size))
        have HY := Lib.hid hy
        clear b3 hy B2 c1
        go_wp2
        go_ret2
        refine ⟨⟨x, y, ?_, ?_⟩, B3.out⟩
        · rw [HP.out]; rfl
        · rw [HP.out]
          first
            | (intro a' b' hab; cases hab; exact ⟨HX.out _ rfl, HY.out _ rfl⟩)
            | (intro a' b' hab; cases hab)
  · have HP := Lib.hid (pointW_not t (by rw [hq, List.length_map]; exact h2))
    have hq2 : ((q.length : Int) != 2) = true := by simp; omega
    clear hq hc hg
    go_wp2
    go_ret2
    refine ⟨⟨0, 0, ?_, ?_⟩, B1.out⟩
    · rw [HP.out]; rfl
    · rw [HP.out]; intro a b hab; cases hab
theorem specPoint_none (t : ByteArray) (hm : t.size ≤ 1048576) (h : pointW t = none) (w : World) :
    Calls Tryd.prog 12 #[.string t] w fun e w' => e = .returned (.tuple #[.complex .f32 0 0, .int .i64 5]) ∧ Below w.heap.size w w' := by
  have hl := l02Read_any t hm w
  unfold PtPost at hl
  rw [h] at hl
  have HL := Lib.hid hl
  clear hl h hm
  go_enter Tryd.func12, Tryd.ntmps12
  go_wp2_with (go_at_call 38; refine HL.out.mono ?_; rintro e w1 ⟨⟨x, y, rfl, _⟩, b1⟩; have B1 := Lib.hid b1; clear b1; simp only [Option.isSome])
  go_ret2
  exact ⟨rfl, B1.out⟩
def SomePost (a b : Nat) (e : Ending) : Prop := ∃ x y, e = .returned (.tuple #[.complex .f32 x y, .int .i64 0]) ∧ Sim x a ∧ Sim y b
theorem specPoint_some (t : ByteArray) (hm : t.size ≤ 1048576) (a b : Nat) (h : pointW t = some (a, b)) (w : World) :
    Calls Tryd.prog 12 #[.string t] w fun e w' => SomePost a b e ∧ Below w.heap.size w w' := by
  have hl := l02Read_any t hm w
  unfold PtPost at hl
  rw [h] at hl
  have HL := Lib.hid hl
  clear hl h hm
  go_enter Tryd.func12, Tryd.ntmps12
  go_wp2_with (go_at_call 38; refine HL.out.mono ?_; rintro e w1 ⟨⟨x, y, rfl, hs⟩, b1⟩; have B1 := Lib.hid b1; have HS := Lib.hid hs; clear b1 hs; simp only [Option.isSome])
  go_ret2
  exact ⟨⟨x, y, rfl, HS.out a b rfl⟩, B1.out⟩
theorem wd_nan {x : Nat} (h : kd x = 4) (w : World) : nan64 (wd x w) = true := by unfold wd; rw [if_pos h]; exact nanC64_nan x w
theorem alk_sim {x a : Nat} (h : Sim x a) (w w' : World) : Alk (wd a w) (wd x w') := by
  rcases h with ⟨rfl, _⟩ | ⟨h1, h2⟩
  · exact wd_alk _ _ _
  · exact .inr ⟨wd_nan h2 w, wd_nan h1 w'⟩
theorem big_point (t : ByteArray) (hb : 1048576 < t.size) (w : World) :
    Calls Tryd.prog 5 #[.string t] w fun e w' => e = .returned (.bool true) ∧ Below w.heap.size w w' := by
  have hb' : (1048576 : Int) < (t.size : Int) := by omega
  go_enter Tryd.func5, Tryd.ntmps5
  go_wp2
  go_ret
  exact ⟨rfl, Below.refl _ _⟩
set_option maxRecDepth 8000 in
theorem fnExactReadPoint_walk (t : ByteArray) (hwf : t.size ≤ maxLen) (w : World) (hT : Tab4 w) (hG : 6 < w.heap.size) (hE : ErrCell w) (hG2 : 2 < w.heap.size) :
    Calls Tryd.prog 5 #[.string t] w fun e w' => e = .returned (.bool true) ∧ Below w.heap.size w w' := by
  by_cases hb : 1048576 < t.size
  · exact big_point t hb w
  have hm : t.size ≤ 1048576 := by omega
  have hm' : ((1048576 : Int) < (t.size : Int)) = False := by simp; omega
  have HA := Lib.hid (Amb.mk hE hG2 hT hG)
  have hi := implPoint t hm
  clear hb hwf hE hG2 hT hG
  cases hp : pointW t with
  | none =>
    rw [hp] at hi
    have HI := Lib.hid hi
    have HS := Lib.hid (specPoint_none t hm hp)
    clear hi hp hm
    go_enter Tryd.func5, Tryd.ntmps5
    go_wp2_with fail
    refine (HS.out _).mono ?_
    rintro e w1 ⟨rfl, b1⟩
    have B1 := Lib.hid b1
    clear b1
    go_wp2_with fail
    refine (HI.out _ (HA.out.below B1.out)).mono ?_
    rintro e w2 ⟨rfl, b2⟩
    have B2 := Lib.hid (B1.out.trans (b2.mono B1.out.size))
    clear b2 B1
    simp only [outP]
    go_wp2_with (first | simp only [conv_cx] | (go_at_call 14; refine (sameCx_alk _ _ _ _ (wd_alk _ _ _) (wd_alk _ _ _) _).mono ?_; rintro e w' ⟨rfl, rfl⟩))
    go_ret
    exact ⟨rfl, by repeat (first | exact B2.out | refine wdW_below _ _ ?_)⟩
  | some ab =>
    obtain ⟨a, b⟩ := ab
    rw [hp] at hi
    have HI := Lib.hid hi
    have HS := Lib.hid (specPoint_some t hm a b hp)
    clear hi hp hm
    go_enter Tryd.func5, Tryd.ntmps5
    go_wp2_with fail
    refine (HS.out _).mono ?_
    rintro e w1 ⟨⟨x, y, rfl, hx, hy⟩, b1⟩
    have B1 := Lib.hid b1
    have HX := Lib.hid hx
    have HY := Lib.hid hy
    clear b1 hx hy
    go_wp2_with fail
    refine (HI.out _ (HA.out.below B1.out)).mono ?_
    rintro e w2 ⟨rfl, b2⟩
    have B2 := Lib.hid (B1.out.trans (b2.mono B1.out.size))
    clear b2 B1
    simp only [outP]
    go_wp2_with (first | simp only [conv_cx] | (go_at_call 14; refine (sameCx_alk _ _ _ _ (alk_sim HX.out _ _) (alk_sim HY.out _ _) _).mono ?_; rintro e w' ⟨rfl, rfl⟩))
    go_ret
    exact ⟨rfl, by repeat (first | exact B2.out | refine wdW_below _ _ ?_)⟩
end Go.Proofs.YtanepboepeijoaaDoor
