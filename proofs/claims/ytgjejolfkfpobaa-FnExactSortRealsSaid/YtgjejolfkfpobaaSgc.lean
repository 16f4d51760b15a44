/-
  CONTRACTS: the specification's exact sum in limbs of 32 bits: a carry, a term.
-/
import Derived.Test.YtgjejolfkfpobaaSg
import Derived.Test.YtgjejolfkfpobaaUn
import Derived.Test.YtgjejolfkfpobaaBase
namespace Go.Proofs.Ytgjejolfkfpobaa
open Go.ChangeShapes Go.WideShapes Go.ChangeAt Go.RowKit Go.Deep
open Fl
/-- a block of 24 limbs -/
def LimbAt (w : World) (b : Nat) (g : Nat → Nat) : Prop := w.heap[b]? = some (.cells (limbC g) 83 (0, 0))
theorem LimbAt.cell {w : World} {b : Nat} {g : Nat → Nat} (h : LimbAt w b g) (i : Nat) (hi : i < 24) : w.cell? ⟨b, i, none⟩ = some (.int .u64 (g i)) := by
  unfold World.cell?
  rw [show w.heap[b]? = _ from h]
  simp [limbC_get g i hi]
theorem LimbAt.free {w : World} {b : Nat} {g : Nat → Nat} (h : LimbAt w b g) (i : Nat) : w.frozen? ⟨b, i, none⟩ = false := by
  unfold World.frozen?
  rw [show w.heap[b]? = _ from h]
  simp
theorem LimbAt.put {w : World} {b : Nat} {g : Nat → Nat} (h : LimbAt w b g) (i v : Nat) (hi : i < 24) : LimbAt (w.setCell ⟨b, i, none⟩ (.int .u64 (v : Nat))) b (upd g i v) := by
  unfold LimbAt at h ⊢
  simp only [World.setCell, Array.getElem?_modify, ↓reduceIte, h, Option.map_some]
  simp [limbC_set g i v hi]
theorem LimbAt.other {w w' : World} {b p : Nat} {g : Nat → Nat} (h : LimbAt w b g) (ho : Off p w w') (hn : b ≠ p) : LimbAt w' b g := by
  unfold LimbAt at h ⊢
  rw [ho.2.2.2.2 b hn]; exact h
def CarryPost (b T : Nat) (w : World) (e : Ending) (w' : World) : Prop := e = .returned (.tuple #[]) ∧ (∃ g, (∀ i, g i < B32) ∧ pw g 24 = T ∧ LimbAt w' b g) ∧ Off b w w'
theorem and32 (n : Nat) (h : n < 18446744073709551616) : bits .and .u64 (n : Int) 4294967295 = ((n % B32 : Nat) : Int) := by
  rw [show (4294967295 : Int) = ((4294967295 : Nat) : Int) from rfl, bits_and_u64_nat n 4294967295 (by omega) (by omega)]
  congr 1
  have : (4294967295 : Nat) = 2 ^ 32 - 1 := by decide
  rw [this, Nat.and_two_pow_sub_one_eq_mod]; rfl
theorem upd_lt {g : Nat → Nat} {i v : Nat} (hg : ∀ i, g i < B32) (hv : v < B32) : ∀ j, upd g i v j < B32 := fun j => by
  unfold upd; split
  · exact hv
  · exact hg j
def CarryRel (b T : Nat) (w wr : World) (a n : Nat) : Prop := a ≤ 100 ∧ n < B32 ∧ T < B32 ^ 24 ∧ (∃ g, (∀ i, g i < B32) ∧ pw g 24 + n * B32 ^ a = T ∧ LimbAt wr b g) ∧ Off b w wr
theorem shr32 (n : Nat) : (n : Int) / 2 ^ 32 = ((n / B32 : Nat) : Int) := by
  rw [Int.natCast_ediv]; rfl
set_option maxRecDepth 8000 in
theorem carry_any (b a n : Nat) (g : Nat → Nat) (w : World) (hg : ∀ i, g i < B32) (hn : n < B32) (ha : a ≤ 100) (hT : pw g 24 + n * B32 ^ a < B32 ^ 24) (hL : LimbAt w b g) :
    Calls Try.prog 139 #[.slice (some ⟨b, 0, none⟩) 24 24, .int .i64 (a : Nat), .int .u64 (n : Nat)] w (CarryPost b (pw g 24 + n * B32 ^ a) w) := by
  have HR : Hid (CarryRel b (pw g 24 + n * B32 ^ a) w w a n) := Lib.hid ⟨ha, hn, hT, ⟨g, hg, rfl, hL⟩, Off.refl _ _⟩
  generalize pw g 24 + n * B32 ^ a = T at HR
  clear hT hg hL ha hn
  go_enter Try.func139, Try.ntmps139
  go_wp2
  go_loopw [1, 2] (fun x y wr => ∃ a n : Nat, x = .int .i64 a ∧ y = .int .u64 n ∧ CarryRel b T w wr a n) (fun x _ _ => 101 - (intOf x).toNat)
  case atStart => exact ⟨a, n, rfl, rfl, HR.out⟩
  case round =>
    obtain ⟨a, n, rfl, rfl, ha, hn, hT, ⟨g, hg, hv, hL⟩, hO⟩ := hrel
    clear HR
    by_cases h0 : n = 0
    · subst h0
      have E : Hid (CarryPost b T w (.returned (.tuple #[])) wr) := Lib.hid ⟨rfl, ⟨g, hg, by rw [← hv, Nat.zero_mul, Nat.add_zero], hL⟩, hO⟩
      clear ha hn hT hg hv hL hO
      go_wp2
      go_end0
      exact E.out
    · have h1 : a < 24 := carry_in (g := g) (n := n) (by omega) (by rw [hv]; exact hT)
      have hn32 : n < 4294967296 := hn
      have hga : g a < 4294967296 := hg a
      have b1 : (n : Int) ≤ 4294967295 := by omega
      have b2 : ((g a : Nat) : Int) ≤ 4294967295 := by omega
      have b3 : (a : Int) ≤ 23 := by omega
      have g0 : decide (0 < n) = true := by simp; omega
      have g1 := hL.cell a h1
      have g2 := hL.free a
      have g3 := and32 (n + g a) (by omega)
      have g4 := shr32 (n + g a)
      rw [Int.natCast_add] at g3 g4
      have R : Hid (CarryRel b T w (wr.setCell ⟨b, a, none⟩ (.int .u64 (((n + g a) % B32 : Nat) : Nat))) (a + 1) ((n + g a) / B32)) := Lib.hid ⟨by omega, by have : B32 = 4294967296 := rfl; omega, hT, ⟨upd g a ((n + g a) % B32), upd_lt hg (Nat.mod_lt _ B32_pos), by rw [carry_step g a n h1]; exact hv, hL.put a _ h1⟩, hO.put⟩
      clear ha hn hT hg hv hL hO hn32 hga h0
      go_wp2
      go_roundw
      case rel => exact ⟨a + 1, (n + g a) / B32, by go_num, by first | rfl | exact congrArg (Value.int .u64) g4, R.out⟩
      case measure => simp [intOf]; omega
theorem and24 (n : Nat) (h : n < 18446744073709551616) : bits .and .u64 (n : Int) 16777215 = ((n % 16777216 : Nat) : Int) := by
  rw [show (16777215 : Int) = ((16777215 : Nat) : Int) from rfl, bits_and_u64_nat n 16777215 (by omega) (by omega)]
  congr 1
  have : (16777215 : Nat) = 2 ^ 24 - 1 := by decide
  rw [this, Nat.and_two_pow_sub_one_eq_mod]
theorem Off.trans {b : Nat} {w w1 w2 : World} (h : Off b w w1) (k : Off b w1 w2) : Off b w w2 := by
  obtain ⟨h1, h2, h3, h4, h5⟩ := h
  obtain ⟨k1, k2, k3, k4, k5⟩ := k
  exact ⟨k1.trans h1, k2.trans h2, k3.trans h3, k4.trans h4, fun j hj => (k5 j hj).trans (h5 j hj)⟩
theorem carry_at (b a n : Nat) (x y : Int) (g : Nat → Nat) (w : World) (hx : x = (a : Int)) (hy : y = (n : Int)) (hg : ∀ i, g i < B32) (hn : n < B32) (ha : a ≤ 100) (hT : pw g 24 + n * B32 ^ a < B32 ^ 24) (hL : LimbAt w b g) :
    Calls Try.prog 139 #[.slice (some ⟨b, 0, none⟩) 24 24, .int .i64 x, .int .u64 y] w (CarryPost b (pw g 24 + n * B32 ^ a) w) := by
  subst hx; subst hy
  exact carry_any b a n g w hg hn ha hT hL
set_option maxRecDepth 8000 in
theorem put_any0 (b n sh lo hi : Nat) (g : Nat → Nat) (w : World) (hg : ∀ i, g i < B32) (hs : sh ≤ 506) (hn : n < 281474976710656)
    (h2 : IntKind.u64.wrap ((n : Int) % 16777216 * 2 ^ (sh % 32)) = (lo : Int)) (h3 : IntKind.u64.wrap ((n : Int) / 16777216 * 2 ^ ((sh + 24) % 32)) = (hi : Int))
    (hlo : lo < 18446744073709551616) (hhi : hi < 18446744073709551616) (hlo2 : lo / B32 < B32) (hhi2 : hi / B32 < B32)
    (hT : pw g 24 + lo % B32 * B32 ^ (sh / 32) + lo / B32 * B32 ^ (sh / 32 + 1) + hi % B32 * B32 ^ ((sh + 24) / 32) + hi / B32 * B32 ^ ((sh + 24) / 32 + 1) < B32 ^ 24) (hL : LimbAt w b g) :
    Calls Try.prog 123 #[.slice (some ⟨b, 0, none⟩) 24 24, .int .u64 (n : Nat), .int .i64 (sh : Nat)] w (CarryPost b (pw g 24 + lo % B32 * B32 ^ (sh / 32) + lo / B32 * B32 ^ (sh / 32 + 1) + hi % B32 * B32 ^ ((sh + 24) / 32) + hi / B32 * B32 ^ ((sh + 24) / 32 + 1)) w) := by
  have h1 := and24 n (by omega)
  have h4 := and32 lo hlo
  have h5 := and32 hi hhi
  have h6 := shr32 lo
  have h7 := shr32 hi
  have hs' : (sh : Int) ≤ 506 := by omega
  have hn' : (n : Int) ≤ 281474976710655 := by omega
  have e1 : Hid ((sh : Int) / 32 = ((sh / 32 : Nat) : Int)) := Lib.hid (by omega)
  have e2 : Hid (((sh : Int) + 24) / 32 = (((sh + 24) / 32 : Nat) : Int)) := Lib.hid (by omega)
  have a1 : Hid (sh / 32 + 1 ≤ 100) := Lib.hid (by omega)
  have a2 : Hid ((sh + 24) / 32 + 1 ≤ 100) := Lib.hid (by omega)
  have HG := Lib.hid hg
  have HT := Lib.hid hT
  have HL := Lib.hid hL
  have HLO := Lib.hid hlo2
  have HHI := Lib.hid hhi2
  clear hg hT hL hn hs hlo hhi hlo2 hhi2
  go_enter Try.func123, Try.ntmps123
  go_wp2_with fail
  refine (carry_at b (sh / 32) (lo % B32) _ _ g _ (by omega) (by simp <;> rfl) HG.out (Nat.mod_lt _ B32_pos) (by have := a1.out; omega) (Nat.lt_of_le_of_lt (by omega) HT.out) HL.out).mono ?_
  rintro e w1 ⟨rfl, ⟨g1, hg1, hv1, hl1⟩, ho1⟩
  have G1 := Lib.hid hg1
  have V1 := Lib.hid hv1
  have L1 := Lib.hid hl1
  have O1 := Lib.hid ho1
  clear hg1 hv1 hl1 ho1
  go_wp2_with fail
  refine (carry_at b (sh / 32 + 1) (lo / B32) _ _ g1 _ (by omega) (by simp <;> rfl) G1.out HLO.out (by have := a1.out; omega) (by rw [V1.out]; exact Nat.lt_of_le_of_lt (by omega) HT.out) L1.out).mono ?_
  rintro e w2 ⟨rfl, ⟨g2, hg2, hv2, hl2⟩, ho2⟩
  have G2 := Lib.hid hg2
  have V2 := Lib.hid (hv2.trans (by rw [V1.out]))
  have L2 := Lib.hid hl2
  have O2 := Lib.hid (O1.out.trans ho2)
  clear hg2 hv2 hl2 ho2 G1 V1 L1 O1
  go_wp2_with fail
  refine (carry_at b ((sh + 24) / 32) (hi % B32) _ _ g2 _ (by omega) (by simp <;> rfl) G2.out (Nat.mod_lt _ B32_pos) (by have := a2.out; omega) (by rw [V2.out]; exact Nat.lt_of_le_of_lt (by omega) HT.out) L2.out).mono ?_
  rintro e w3 ⟨rfl, ⟨g3, hg3, hv3, hl3⟩, ho3⟩
  have G3 := Lib.hid hg3
  have V3 := Lib.hid (hv3.trans (by rw [V2.out]))
  have L3 := Lib.hid hl3
  have O3 := Lib.hid (O2.out.trans ho3)
  clear hg3 hv3 hl3 ho3 G2 V2 L2 O2
  go_wp2_with fail
  refine (carry_at b ((sh + 24) / 32 + 1) (hi / B32) _ _ g3 _ (by omega) (by simp <;> rfl) G3.out HHI.out (by have := a2.out; omega) (by rw [V3.out]; exact HT.out) L3.out).mono ?_
  rintro e w4 ⟨rfl, ⟨g4, hg4, hv4, hl4⟩, ho4⟩
  have R : Hid (CarryPost b _ w (.returned (.tuple #[])) w4) := Lib.hid ⟨rfl, ⟨g4, hg4, hv4.trans (by rw [V3.out]), hl4⟩, O3.out.trans ho4⟩
  clear hg4 hv4 hl4 ho4 G3 V3 L3 O3
  go_wp2
  go_end0
  exact R.out
theorem shl_in {x y : Nat} {s : Nat} (h : x * 2 ^ s < 18446744073709551616) (e : y = x * 2 ^ s) : IntKind.u64.wrap ((x : Int) * 2 ^ s) = (y : Int) := by
  rw [IntKind.wrap_u64, e, Int.natCast_mul, Int.natCast_pow]
  have h2 : (x : Int) * 2 ^ s < 18446744073709551616 := by
    have := Int.ofNat_lt.2 h
    rw [Int.natCast_mul, Int.natCast_pow] at this
    exact this
  have h3 : (0 : Int) ≤ (x : Int) * 2 ^ s := Int.mul_nonneg (by omega) (Int.pow_nonneg (by omega))
  exact Int.emod_eq_of_lt h3 h2
theorem put_any (b n sh : Nat) (g : Nat → Nat) (w : World) (hg : ∀ i, g i < B32) (hn : n < 281474976710656) (hs : sh ≤ 506) (hT : pw g 24 + n * 2 ^ sh < B32 ^ 24) (hL : LimbAt w b g) :
    Calls Try.prog 123 #[.slice (some ⟨b, 0, none⟩) 24 24, .int .u64 (n : Nat), .int .i64 (sh : Nat)] w (CarryPost b (pw g 24 + n * 2 ^ sh) w) := by
  have hp : ∀ k, 2 ^ (k % 32) ≤ 2147483648 := fun k => Nat.pow_le_pow_right (n := 2) (by omega) (show k % 32 ≤ 31 by omega)
  have k1 : n % 16777216 * 2 ^ (sh % 32) ≤ 16777215 * 2147483648 := Nat.mul_le_mul (by omega) (hp sh)
  have k2 : n / 16777216 * 2 ^ ((sh + 24) % 32) ≤ 16777215 * 2147483648 := Nat.mul_le_mul (by omega) (hp (sh + 24))
  have hB : B32 = 4294967296 := rfl
  have key := put_pieces n sh hn
  have e : pw g 24 + n * 2 ^ sh = pw g 24 + n % 16777216 * 2 ^ (sh % 32) % B32 * B32 ^ (sh / 32) + n % 16777216 * 2 ^ (sh % 32) / B32 * B32 ^ (sh / 32 + 1) + n / 16777216 * 2 ^ ((sh + 24) % 32) % B32 * B32 ^ ((sh + 24) / 32) + n / 16777216 * 2 ^ ((sh + 24) % 32) / B32 * B32 ^ ((sh + 24) / 32 + 1) := by
    rw [← key]; omega
  rw [e] at hT ⊢
  refine put_any0 b n sh _ _ g w hg hs hn ?_ ?_ (by omega) (by omega) ?_ ?_ hT hL
  · rw [show (n : Int) % 16777216 = ((n % 16777216 : Nat) : Int) from by omega]
    exact shl_in (by omega) rfl
  · rw [show (n : Int) / 16777216 = ((n / 16777216 : Nat) : Int) from by omega]
    exact shl_in (by omega) rfl
  · rw [hB]; omega
  · rw [hB]; omega
end Go.Proofs.Ytgjejolfkfpobaa
