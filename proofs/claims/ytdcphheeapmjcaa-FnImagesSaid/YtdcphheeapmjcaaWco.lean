/-
  CONTRACT: ComposeImages of the specification.
-/
import Derived.Test.YtdcphheeapmjcaaWapa
import Derived.Test.YtdcphheeapmjcaaGa
namespace Go.Proofs.Ytdcphheeapmjcaa
open Go.ChangeShapes Go.WideShapes Go.ChangeAt Go.RowKit Go.Deep
open Wd
def txtC (q : List (List UInt8)) : List Value := q.map fun l => .string (txt l)
/-- v is a slice of the call's own that holds the texts q -/
def OwnT (base : Nat) (v : Value) (q : List (List UInt8)) (w : World) : Prop := w.ownsRow base 9 1 v q.length (txtC q)
theorem OwnT.alloc {base : Nat} {v : Value} {q : List (List UInt8)} {w : World} (h : OwnT base v q w) (o : Obj) : OwnT base v q (w.alloc o) := World.ownsRow.alloc h o
theorem OwnT.lower {b1 b2 : Nat} (h : b1 ≤ b2) {v : Value} {l : List (List UInt8)} {w : World} : OwnT b2 v l w → OwnT b1 v l w := by
  rintro ⟨h1, h2⟩
  refine ⟨h1, h2.imp id ?_⟩
  rintro ⟨g, cap, cur, e, hb, hr⟩
  exact ⟨g, cap, cur, e, Nat.le_trans h hb, hr⟩
theorem OwnT.keep {base : Nat} {v : Value} {l : List (List UInt8)} {w w' : World} (hb : Below w.heap.size w w') : OwnT base v l w → OwnT base v l w' := by
  rintro ⟨h1, h2⟩
  refine ⟨h1, h2.imp id ?_⟩
  rintro ⟨g, cap, cur, e, hb', hg, hr⟩
  exact ⟨g, cap, cur, e, hb', (hb.block g (Array.getElem?_eq_some_iff.1 hg).1).trans hg, hr⟩
/-- 'out = append(out, s)' -/
theorem wpList_append_txt {ops : Array Oper} {rest : List Oper} {o : Oper} {a : Act} {W : World} {Q : Exit → Act → World → Prop} (hgd : o.guard = none) (s x : Operand)
    (ho : o.op = .call { callee := .builtin .append, args := #[s, x], argTypes := #[38, 38] })
    (base : Nat) (v : Value) (q : List (List UInt8)) (c : List UInt8) (hs : a.eval s = v) (hown : OwnT base v q W) (g : Nat) (hx : a.eval x = .slice (some ⟨g, 0, none⟩) 1 1)
    (hc : W.cell? ⟨g, 0, none⟩ = some (.string (txt c))) (hl : q.length ≤ 100000000) (hbase : base ≤ W.heap.size)
    (w0 : World) (hb : Below base w0 W)
    (h : ∀ v' w', OwnT base v' (q ++ [c]) w' → Below base w0 w' → wpList Try.prog ops Q rest (a.put o.dst v') w') : wpList Try.prog ops Q (o :: rest) a W := by
  obtain ⟨i0, hi, hz0, hz1, hz2⟩ := info_parts info_str
  refine wpList_append_own W hgd s x 38 ho base 9 i0 (.string ⟨#[]⟩) 1 16 Try.underlying38 hi hz0 hz1 hz2 rfl (by decide) v q.length (txtC q) hs hown ⟨g, 0, none⟩ 1 1 [.string (txt c)] hx rfl ?_ ?_ (by unfold maxLen; omega) (by omega) hbase ?_
  · intro j u hj
    match j, hj with
    | 0, hj => simp at hj; subst hj; exact hc
    | j + 1, hj => simp at hj
  · intro u hu; simp at hu; subst hu; rfl
  · intro v' w' h1 h2 _
    refine h v' w' ?_ ?_
    · unfold OwnT
      rw [List.length_append, show txtC (q ++ [c]) = txtC q ++ [.string (txt c)] from by simp [txtC]]
      exact h1
    · exact hb.grown h2 hbase (fun k hk => (World.ownsRow.lt hown k hk).1)
theorem ownT_start (w : World) : OwnT w.heap.size (.slice (some ⟨w.heap.size, 0, none⟩) 0 0) [] (w.alloc (.cells #[] 9)) := World.ownsRow_made (size := 1) w #[] 0 (Nat.le_refl _) (by unfold maxLen; omega) rfl
/-- the images of images -/
def cmT (F G : List (List UInt8)) : List (List UInt8) := F.map fun f => red (apL G f)
def cmF (F G : List (List UInt8)) : Bool := F.all fun f => decide ((red (apL G f)).length ≤ 40)
def cmR (F G : List (List UInt8)) : List (List UInt8) := if imgB F = true ∧ imgB G = true then (if cmF F G = true then cmT F G else []) else []
def cmC (F G : List (List UInt8)) : Int := if imgB F = true ∧ imgB G = true then (if cmF F G = true then 0 else 3) else 1
theorem cmF_no {F G : List (List UInt8)} {k : Nat} (hk : k < F.length) (h : ¬ (red (apL G F[k])).length ≤ 40) : cmF F G = false := by
  unfold cmF
  rw [List.all_eq_false]
  exact ⟨_, List.getElem_mem hk, by simpa using h⟩
theorem cmF_all {F G : List (List UInt8)} (h : ∀ i (hi : i < F.length), (red (apL G F[i])).length ≤ 40) : cmF F G = true := by
  unfold cmF
  rw [List.all_eq_true]
  intro x hx
  obtain ⟨i, hi, rfl⟩ := List.getElem_of_mem hx
  exact decide_eq_true (h i hi)
theorem cmT_take (F G : List (List UInt8)) (k : Nat) (hk : k < F.length) : (cmT F G).take k ++ [red (apL G F[k])] = (cmT F G).take (k + 1) := by
  have : k < (cmT F G).length := by simpa [cmT] using hk
  rw [List.take_succ_eq_append_getElem this]
  simp [cmT]
def CmPost (R : List (List UInt8)) (C : Int) (w : World) (e : Ending) (w' : World) : Prop := ∃ v, e = .returned (.tuple #[v, .int .i64 C]) ∧ OwnT w.heap.size v R w' ∧ Below w.heap.size w w'
set_option maxHeartbeats 4000000 in
theorem scompose_no (a a1 : Option Addr) (cap cap1 : Nat) (F G : List (List UInt8)) (hF : SFew F) (hG : SFew G) (hn : ¬ (imgB F = true ∧ imgB G = true)) (w : World) (h : SRow w.heap.size w a F) (h1 : SRow w.heap.size w a1 G) :
    Calls Try.prog 33 #[.slice a F.length cap, .slice a1 G.length cap1] w (CmPost [] 1 w) := by
  have HI := Lib.hid (simages_any a cap F hF w h)
  have HJ := Lib.hid (fun w' (b : Below w.heap.size w w') => simages_any a1 cap1 G hG w' (h1.later b))
  clear h h1
  cases hb : imgB F
  · rw [hb] at HI
    clear hb hn HJ
    go_enter Try.func33, Try.ntmps33
    go_wp2_with (go_at_call 66; refine HI.out.mono ?_; rintro e w' ⟨rfl, b⟩)
    go_ret2
    exact ⟨_, rfl, (ownT_start w').lower b.size, b.alloc b.size _⟩
  · have hg : imgB G = false := by
      cases hg : imgB G
      · rfl
      · exact absurd ⟨hb, hg⟩ hn
    rw [hb] at HI
    rw [hg] at HJ
    clear hb hg hn
    go_enter Try.func33, Try.ntmps33
    go_wp2_with fail
    refine HI.out.mono ?_
    rintro e w' ⟨rfl, b⟩
    have HJ2 := Lib.hid (HJ.out _ b)
    clear HI HJ
    go_wp2_with fail
    refine HJ2.out.mono ?_
    rintro e w2 ⟨rfl, b2⟩
    go_wp2
    go_ret2
    exact ⟨_, rfl, (ownT_start w2).lower (Nat.le_trans b.size b2.size), (b.trans (b2.mono b.size)).alloc (Nat.le_trans b.size b2.size) _⟩
set_option maxRecDepth 20000 in
set_option maxHeartbeats 4000000 in
theorem scompose_yes (a a1 : Option Addr) (cap cap1 : Nat) (F G : List (List UInt8)) (hF : SFew F) (hG : SFew G) (hbF : imgB F = true) (hbG : imgB G = true) (w : World) (h : SRow w.heap.size w a F) (h1 : SRow w.heap.size w a1 G) :
    Calls Try.prog 33 #[.slice a F.length cap, .slice a1 G.length cap1] w (CmPost (if cmF F G = true then cmT F G else []) (if cmF F G = true then 0 else 3) w) := by
  have HI := Lib.hid (simages_any a cap F hF w h)
  have HJ := Lib.hid (fun w' (b : Below w.heap.size w w') => simages_any a1 cap1 G hG w' (h1.later b))
  rw [hbF] at HI
  rw [hbG] at HJ
  have h4 := imgB_len hbF
  have R := Lib.hid h
  have AP : Hid (∀ k (hk : k < F.length) w', Below w.heap.size w w' → Calls Try.prog 69 #[.slice a1 G.length cap1, .string (txt F[k])] w' (StrPost (red (apL G F[k])) w')) := Lib.hid fun k hk w' b => apply_any a1 cap1 G hbG F[k] (redB_word (imgB_at hbF k hk)) w' (h1.later b)
  have NO : Hid (∀ k (hk : k < F.length), ¬ (red (apL G F[k])).length ≤ 40 → (if cmF F G = true then cmT F G else []) = [] ∧ (if cmF F G = true then (0 : Int) else 3) = 3) := Lib.hid fun k hk hn => by
    rw [cmF_no hk hn]
    exact ⟨rfl, rfl⟩
  have YES : Hid ((∀ i (hi : i < F.length), (red (apL G F[i])).length ≤ 40) → (if cmF F G = true then cmT F G else []) = (cmT F G).take 4 ∧ (if cmF F G = true then (0 : Int) else 3) = 0) := Lib.hid fun ha => by
    rw [cmF_all ha, if_pos rfl, if_pos rfl, List.take_of_length_le (by simp [cmT, h4])]
    exact ⟨rfl, rfl⟩
  have TK : Hid (∀ k (hk : k < F.length), (cmT F G).take k ++ [red (apL G F[k])] = (cmT F G).take (k + 1)) := Lib.hid fun k hk => cmT_take F G k hk
  have LN : Hid (∀ k (hk : k < F.length), (red (apL G F[k])).length ≤ 1600) := Lib.hid fun k hk => apR_len hbG (redB_word (imgB_at hbF k hk))
  have TL : Hid (∀ k, ((cmT F G).take k).length ≤ 100000000) := Lib.hid fun k => by
    rw [List.length_take]
    simp [cmT, h4]
    omega
  have T0 : Hid ((cmT F G).take 0 = []) := Lib.hid rfl
  generalize (if cmF F G = true then cmT F G else []) = rr at *
  generalize (if cmF F G = true then (0 : Int) else 3) = cc at *
  generalize cmT F G = TT at *
  clear h h1 hF hG hbF hbG
  go_enter Try.func33, Try.ntmps33
  rw [h4]
  rw [h4] at HI
  go_wp2_with fail
  refine HI.out.mono ?_
  rintro e w' ⟨rfl, b⟩
  have HJ2 := Lib.hid (HJ.out _ b)
  have B := Lib.hid b
  clear HI HJ b
  go_wp2_with fail
  refine HJ2.out.mono ?_
  rintro e w2 ⟨rfl, b2⟩
  have B2 := Lib.hid (B.out.trans (b2.mono B.out.size))
  clear HJ2 b2
  have O0 := Lib.hid ((ownT_start w2).lower B2.out.size)
  go_wp2
  go_loopw [6, 7] (fun v i wr => ∃ k : Nat, k ≤ 4 ∧ i = .int .i64 (k : Int) ∧ OwnT w.heap.size v (TT.take k) wr ∧ (∀ i (hi : i < F.length), i < k → (red (apL G F[i])).length ≤ 40) ∧ Below w.heap.size w wr) (fun _ i _ => 4 - (intOf i).toNat)
  case atStart => exact ⟨0, by omega, rfl, O0.out, fun i _ h => by omega, B2.out.alloc B2.out.size _⟩
  case round =>
    obtain ⟨k, hk, rfl, hO, hall, hB⟩ := hrel
    have O := Lib.hid hO
    have ALL := Lib.hid hall
    have HB := Lib.hid hB
    clear hO hall hB O0
    by_cases hlt : k < 4
    · have t2 : decide ((k : Int) < 4) = true := by simp; omega
      have hkF : k < F.length := by omega
      have hk3 : (k : Int) ≤ 3 := by omega
      obtain ⟨b, off, rfl, hb, hc⟩ := R.out.at hkF
      have c1 : wr.cell? ⟨b, off + k, none⟩ = some (.string (txt F[k])) := (HB.out.cell (p := ⟨b, off + k, none⟩) hb).trans hc
      have APK := Lib.hid (fun w' b => AP.out k hkF w' b)
      have LNK := LN.out k hkF
      have TKK := Lib.hid (TK.out k hkF)
      have hsz := txt_size (red (apL G F[k]))
      have HK := Lib.hid hlt
      have AL2 : Hid ((red (apL G F[k])).length ≤ 40 → ∀ i (hi : i < F.length), i < k + 1 → (red (apL G F[i])).length ≤ 40) := Lib.hid fun hl i hi hik => by
        by_cases e : i = k
        · subst e; exact hl
        · exact ALL.out i hi (by omega)
      have NOK := Lib.hid (NO.out k hkF)
      generalize hx : red (apL G F[k]) = x at *
      generalize F[k] = f at *
      clear hx hc hlt hk hkF
      by_cases h40 : x.length ≤ 40
      · have t3 : decide ((40 : Int) < (x.length : Int)) = false := by simp; omega
        have AL3 := Lib.hid (AL2.out h40)
        clear h40 AL2 NOK
        have LK := Lib.hid (TL.out k)
        generalize TT.take k = tk at *
        go_wp2_with (first | (go_at_call 69; refine (APK.out _ (by exact HB.out)).mono ?_; rintro e w3 ⟨rfl, b3⟩) | (refine wpList_append_txt rfl (.tmp 35) (.tmp 37) rfl w.heap.size _ _ x rfl ((O.out.keep b3).alloc _) w3.heap.size rfl (by simp) LK.out (by have h1 := HB.out.size; have h2 := b3.size; simp; omega) w ((HB.out.trans (b3.mono HB.out.size)).alloc (Nat.le_trans HB.out.size b3.size) _) ?_; intro v2 w4 o2 b4))
        have O4 : Hid (OwnT w.heap.size v2 (TT.take (k + 1)) w4) := Lib.hid (by rw [← TKK.out]; exact o2)
        have B4 := Lib.hid b4
        clear o2 b4 b3
        go_roundw
        case rel => exact ⟨k + 1, HK.out, by go_num, O4.out, AL3.out, B4.out⟩
        case measure => have := HK.out; simp [intOf]; omega
      · have t3 : decide ((40 : Int) < (x.length : Int)) = true := by simp; omega
        obtain ⟨n1, n2⟩ := NOK.out h40
        have N1 := Lib.hid n1
        have N2 := Lib.hid n2
        clear h40 AL2 NOK n1 n2
        go_wp2_with (go_at_call 69; refine (APK.out _ (by exact HB.out)).mono ?_; rintro e w3 ⟨rfl, b3⟩)
        have B3 := Lib.hid (HB.out.trans (b3.mono HB.out.size))
        clear b3
        go_ret2
        exact ⟨_, by rw [N2.out]; rfl, by rw [N1.out]; exact (ownT_start w3).lower B3.out.size, B3.out.alloc B3.out.size _⟩
    · have hk4 : k = 4 := by omega
      subst hk4
      obtain ⟨y1, y2⟩ := YES.out (fun i hi => ALL.out i hi (by omega))
      have Y1 := Lib.hid y1
      have Y2 := Lib.hid y2
      clear hlt hk y1 y2
      go_wp2
      go_ret2
      exact ⟨_, by rw [Y2.out]; rfl, by rw [Y1.out]; exact O.out, HB.out⟩
end Go.Proofs.Ytdcphheeapmjcaa
