/-
  CONTRACTS: the program's sign of a sum of products.
-/
import Derived.Test.YtgjejolfkfpobaaSgf
import Derived.Test.YtgjejolfkfpobaaSrcO
import Derived.Deep.MidRow
namespace Go.Proofs.Ytgjejolfkfpobaa
open Go.ChangeShapes Go.WideShapes Go.ChangeAt Go.RowKit Go.Deep
open Fl
theorem Off.only {b : Nat} {w w1 : World} {o : Obj} (h : Off b (w.alloc o) w1) : Only b w w1 := by
  obtain ⟨h1, h2, h3, h4, h5⟩ := h
  refine ⟨h1, h2, h3, by rw [h4]; simp, fun j hj hn => ?_⟩
  rw [h5 j (fun e => hn (by rw [e]))]
  exact ((Below.refl w.heap.size w).alloc (Nat.le_refl _) o).block j hj
theorem plus_at (b : Nat) (f : Nat → Nat) (o : Bool × Bool × Bool) (fr p : Nat) (x y : Int) (w : World) (hx : x = (fr : Int)) (hp : y + 640 = p) (hp2 : p < 1472) (hf : fr ≤ 9007199254740992)
    (hF : ∀ i, f i < B64) (hb : b < w.heap.size) (hS : SumAt w b f o) :
    Calls Try.prog 127 #[.pointer (some ⟨b, 0, none⟩), .bool false, .int .i64 x, .int .i64 y] w fun e w' => e = .returned (.tuple #[]) ∧ SumAt w' b (mix f (termF fr p) 24) o ∧ Only b w w' := by
  subst hx
  exact (addPlus_any b f o fr p y w hp hp2 hf hF (fun i => termF_lt hf i) hb hS).mono fun e w' ⟨h1, h2, h3⟩ => ⟨h1, h2, h3.only⟩
theorem minus_at (b : Nat) (f : Nat → Nat) (o : Bool × Bool × Bool) (fr p : Nat) (x y : Int) (w : World) (hx : x = (fr : Int)) (hp : y + 640 = p) (hp2 : p < 1472) (hf : fr ≤ 9007199254740992)
    (hF : ∀ i, f i < B64) (hb : b < w.heap.size) (hS : SumAt w b f o) :
    Calls Try.prog 127 #[.pointer (some ⟨b, 0, none⟩), .bool true, .int .i64 x, .int .i64 y] w fun e w' => e = .returned (.tuple #[]) ∧ SumAt w' b (mixd f (termF fr p) 24) o ∧ Only b w w' := by
  subst hx
  exact (addMinus_any b f o fr p y w hp hp2 hf hF (fun i => termF_lt hf i) hb hS).mono fun e w' ⟨h1, h2, h3⟩ => ⟨h1, h2, h3.only⟩
def ImplAcc (b : Nat) (bs cs : List Nat) (k : Nat) (w : World) : Prop := b < w.heap.size ∧ ∃ f, Sum2 bs cs k f ∧ SumAt w b f (false, false, false)
def MulPost (b : Nat) (bs cs : List Nat) (k : Nat) (w : World) (e : Ending) (w' : World) : Prop := e = .returned (.tuple #[]) ∧ ImplAcc b bs cs k w' ∧ Only b w w'
set_option maxRecDepth 8000 in
theorem addProduct_any (b len k : Nat) (bs cs : List Nat) (w : World) (hb : AllFin bs len) (hc : AllFin cs len) (hk : k < len)
    (wb : W32 (bs[k]?.getD 0)) (wc : W32 (cs[k]?.getD 0)) (hS : ImplAcc b bs cs k w) :
    Calls Try.prog 94 #[.pointer (some ⟨b, 0, none⟩), .float .f32 (bs[k]?.getD 0), .float .f32 (cs[k]?.getD 0)] w (MulPost b bs cs (k + 1) w) := by
  obtain ⟨hlt, f, hsum, hat⟩ := hS
  have hsh := tsh_le hb hc hk
  have hfr := tfr_lt bs cs k
  have hti := tfr_int bs cs k
  have hte := tsh_eq bs cs k
  have x1 := expo_ge (bs[k]?.getD 0)
  have x2 := expo_ge (cs[k]?.getD 0)
  have x3 := expo_le (hb k hk)
  have x4 := expo_le (hc k hk)
  have y1 := frac_lt (bs[k]?.getD 0)
  have y2 := frac_lt (cs[k]?.getD 0)
  have f1 : Hid (kd (bs[k]?.getD 0) < 3) := Lib.hid (hb k hk)
  have f2 : Hid (kd (cs[k]?.getD 0) < 3) := Lib.hid (hc k hk)
  have b1 : 0 ≤ ((frac (bs[k]?.getD 0) : Nat) : Int) * ((frac (cs[k]?.getD 0) : Nat) : Int) := by rw [hti]; omega
  have b2 : ((frac (bs[k]?.getD 0) : Nat) : Int) * ((frac (cs[k]?.getD 0) : Nat) : Int) ≤ 281474976710655 := by rw [hti]; omega
  have HI := Lib.hid hti
  have HE : Hid (expo (bs[k]?.getD 0) + expo (cs[k]?.getD 0) + 640 = ((tsh bs cs k + 342 : Nat) : Int)) := Lib.hid (by omega)
  have HP : Hid (tsh bs cs k + 342 < 1472) := Lib.hid (by omega)
  have HF : Hid (tfr bs cs k ≤ 9007199254740992) := Lib.hid (by omega)
  have HB : Hid (∀ i, f i < B64) := Lib.hid hsum.1
  have HL := Lib.hid hlt
  have HA := Lib.hid hat
  cases hs : tsm bs cs k
  · have ht : (neg (bs[k]?.getD 0) == neg (cs[k]?.getD 0)) = false := hs
    have R := Lib.hid (hsum.minus hs hsh)
    clear hsum hlt hat hb hc hs hsh hfr hti hte hk
    go_enter Try.func94, Try.ntmps94
    go_wp2_with (go_at_call 125; first | ((with_reducible refine (implSplit_fin _ wb f1.out _).mono ?_); rintro e w' ⟨rfl, rfl⟩) | ((with_reducible refine (implSplit_fin _ wc f2.out _).mono ?_); rintro e w' ⟨rfl, rfl⟩))
    refine (minus_at b f _ (tfr bs cs k) (tsh bs cs k + 342) _ _ _ HI.out HE.out HP.out HF.out HB.out HL.out HA.out).mono ?_
    rintro e w' ⟨rfl, h2, h3⟩
    have Q : Hid (MulPost b bs cs (k + 1) w (.returned (.tuple #[])) w') := Lib.hid ⟨rfl, ⟨Nat.lt_of_lt_of_le HL.out h3.size, _, R.out, h2⟩, h3⟩
    clear h2 h3
    go_wp2
    go_end0
    exact Q.out
  · have ht : (neg (bs[k]?.getD 0) == neg (cs[k]?.getD 0)) = true := hs
    have R := Lib.hid (hsum.plus hs hsh)
    clear hsum hlt hat hb hc hs hsh hfr hti hte hk
    go_enter Try.func94, Try.ntmps94
    go_wp2_with (go_at_call 125; first | ((with_reducible refine (implSplit_fin _ wb f1.out _).mono ?_); rintro e w' ⟨rfl, rfl⟩) | ((with_reducible refine (implSplit_fin _ wc f2.out _).mono ?_); rintro e w' ⟨rfl, rfl⟩))
    refine (plus_at b f _ (tfr bs cs k) (tsh bs cs k + 342) _ _ _ HI.out HE.out HP.out HF.out HB.out HL.out HA.out).mono ?_
    rintro e w' ⟨rfl, h2, h3⟩
    have Q : Hid (MulPost b bs cs (k + 1) w (.returned (.tuple #[])) w') := Lib.hid ⟨rfl, ⟨Nat.lt_of_lt_of_le HL.out h3.size, _, R.out, h2⟩, h3⟩
    clear h2 h3
    go_wp2
    go_end0
    exact Q.out
end Go.Proofs.Ytgjejolfkfpobaa
