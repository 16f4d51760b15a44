/-
  CONTRACT: A2Images: four reduced words are drawn.
-/
import Derived.Test.YtdcphheeapmjcaaFim
import Derived.Test.YtdcphheeapmjcaaFd
namespace Go.Proofs.Ytdcphheeapmjcaa
open Go.ChangeShapes Go.WideShapes Go.ChangeAt Go.RowKit Go.Deep
open Wd
theorem OwnT.only {base p : Nat} {v : Value} {l : List (List UInt8)} {w w' : World} (hp : p < base) (h : Only p w w') (ho : OwnT base v l w) : OwnT base v l w' := by
  refine World.ownsRow.kept ho h ?_
  cases hv : v.ownBlock with
  | none => exact .inl rfl
  | some k =>
    refine .inr fun e => ?_
    have := (World.ownsRow.lt ho k hv).1
    injection e with e
    omega
theorem SrcAt.past {B p len cap i : Nat} {a : Option Addr} {w w' : World} (h : SrcAt B p a len cap i w) (hb : Below (p + 1) w w') : SrcAt B p a len cap i w' := by
  obtain ⟨⟨seed, hs, hr⟩, h2, h3⟩ := h
  exact ⟨⟨seed, hs, (hb.block p (Nat.lt_succ_self p)).trans hr⟩, h2, h3.below (hb.mono (by omega))⟩
/-- few short reduced words -/
def Shrt (m : Nat) (L : List (List UInt8)) : Prop := ∀ i (h : i < L.length), (∀ c ∈ L[i], isL c = true) ∧ L[i].length ≤ m ∧ red L[i] = L[i]
theorem Shrt.snoc {m : Nat} {L : List (List UInt8)} (h : Shrt m L) {x : List UInt8} (hx : ∀ c ∈ x, isL c = true) (hm : x.length ≤ m) : Shrt m (L ++ [red x]) := by
  intro i hi
  by_cases e : i < L.length
  · rw [List.getElem_append_left e]
    exact h i e
  · have e2 : i = L.length := by simp at hi; omega
    subst e2
    rw [List.getElem_append_right (Nat.le_refl _)]
    simp only [Nat.sub_self, List.getElem_cons_zero]
    exact ⟨red_letters hx, Nat.le_trans (red_length x) hm, red_red x⟩
theorem Shrt.imgs {m : Nat} {L : List (List UInt8)} (h : Shrt m L) (h4 : L.length = 4) (hm : m ≤ 40) : imgB L = true := by
  rw [img_all (fun i hi => ?_), h4]
  · rfl
  · obtain ⟨h1, h2, h3⟩ := h i hi
    unfold redB
    rw [decide_eq_true h3, Bool.and_true]
    unfold wordB
    rw [decide_eq_true (by omega), Bool.and_true]
    unfold lets
    rw [List.all_eq_true]
    exact h1
def ImgsPost (m : Nat) (w : World) (e : Ending) (w' : World) : Prop := ∃ v L, e = .returned v ∧ OwnT w.heap.size v L w' ∧ Shrt m L ∧ L.length = 4 ∧ Below w.heap.size w w'
set_option maxHeartbeats 4000000 in
theorem a2images_any (len cap : Nat) (a : Option Addr) (m : Nat) (hm1 : 1 ≤ m) (hm : m ≤ 40) (hl : len ≤ 4096) (w : World) (h : BRow w.heap.size w a len) :
    Calls Try.prog 50 #[.slice a len cap, .int .i64 (m : Int)] w (ImgsPost m w) := by
  have H := Lib.hid h
  clear h
  go_enter Try.func50, Try.ntmps50
  go_wp2_with fail
  refine (from_any len cap a _ H.out).mono ?_
  rintro e w1 ⟨⟨rfl, s1⟩, b1⟩
  have hlt : w.heap.size < w1.heap.size := s1.lt
  have S1 := Lib.hid s1
  have B1 := Lib.hid b1
  have O0 : Hid (OwnT (w.heap.size + 1) (.slice (some ⟨w1.heap.size, 0, none⟩) 0 0) [] (w1.alloc (.cells #[] 9))) := Lib.hid ((ownT_start w1).lower (by omega))
  have HLT := Lib.hid hlt
  clear s1 b1 hlt
  go_wp2
  go_loopw [6, 7] (fun v i wr => ∃ (k j : Nat) (L : List (List UInt8)), k ≤ 4 ∧ i = .int .i64 (k : Int) ∧ L.length = k ∧ Shrt m L ∧ OwnT (w.heap.size + 1) v L wr ∧ SrcAt w.heap.size w.heap.size a len cap j wr ∧ j ≤ 200 * k ∧ Below w.heap.size w wr) (fun _ i _ => 4 - (intOf i).toNat)
  case atStart => exact ⟨0, 0, [], by omega, rfl, rfl, fun i h => by simp at h, O0.out, S1.out.alloc _ B1.out.size, by omega, B1.out.alloc B1.out.size _⟩
  case round =>
    obtain ⟨k, j, L, hk, rfl, hL, hsh, ho, hsrc, hj, hB⟩ := hrel
    have O := Lib.hid ho
    have SH := Lib.hid hsh
    have SR := Lib.hid hsrc
    have HB := Lib.hid hB
    have HLk := Lib.hid hL
    have HJ := Lib.hid hj
    have hpw : Hid (w.heap.size + 1 ≤ wr.heap.size) := Lib.hid hsrc.lt
    clear hL hsh ho hsrc hB O0
    by_cases hlt : k < 4
    · have t2 : decide ((k : Int) < 4) = true := by simp; omega
      have hk3 : (k : Int) ≤ 3 := by omega
      have DR := Lib.hid (drawn_any w.heap.size w.heap.size len cap j a 4 (by omega) (by omega) m hm1 hm hl (by omega) wr SR.out)
      have HK := Lib.hid hlt
      have LL : Hid (L.length ≤ 100000000) := Lib.hid (by have := HLk.out; omega)
      clear hj hlt hk
      go_wp2_with fail
      refine DR.out.mono ?_
      rintro e w2 ⟨⟨l, j2, hlet, hlm, rfl, hj1, hj2, s2⟩, o2⟩
      have O2 := Lib.hid (O.out.only (Nat.lt_succ_self _) o2)
      have RD := Lib.hid (reduce_any l hlet (by omega) w2)
      have S2 := Lib.hid s2
      have B2 : Hid (Below w.heap.size w w2) := Lib.hid (HB.out.trans (o2.below (Nat.le_refl _) HB.out.size))
      have P2 : Hid (w.heap.size + 1 ≤ w2.heap.size) := Lib.hid s2.lt
      have SN := Lib.hid (SH.out.snoc hlet hlm)
      have J2 : Hid (j2 ≤ 200 * (k + 1)) := Lib.hid (by have := HJ.out; omega)
      clear hlet hlm hj1 hj2 s2 o2 DR
      go_wp2_with fail
      refine RD.out.mono ?_
      rintro e w3 ⟨rfl, b3⟩
      generalize red l = x at *
      go_wp2_with (refine wpList_append_txt rfl (.tmp 15) (.tmp 20) rfl (w.heap.size + 1) _ _ x rfl ((O2.out.keep b3).alloc _) w3.heap.size rfl (by simp) LL.out (by have h1 := P2.out; have h2 := b3.size; simp; omega) w3 (((Below.refl _ _).mono (Nat.le_trans P2.out b3.size)).alloc (Nat.le_trans P2.out b3.size) _) ?_; intro v4 w4 o4 b4)
      have S4 := Lib.hid ((S2.out.later b3).past b4)
      have B4 := Lib.hid ((B2.out.trans (b3.mono B2.out.size)).trans (b4.mono (Nat.le_succ _)))
      have O4 := Lib.hid o4
      clear b3 b4 o4 RD O2 S2
      go_roundw
      case rel => exact ⟨k + 1, j2, L ++ [x], HK.out, by go_num, by rw [List.length_append, HLk.out]; rfl, SN.out, O4.out, S4.out, J2.out, B4.out⟩
      case measure => have := HK.out; simp [intOf]; omega
    · have hk4 : k = 4 := by omega
      subst hk4
      clear hlt hk
      go_wp2
      go_ret
      exact ⟨_, L, rfl, O.out.lower (Nat.le_succ _), SH.out, HLk.out, HB.out⟩
end Go.Proofs.Ytdcphheeapmjcaa
