/-
  CONTRACT: szStringS at any number that is left.
-/
import Derived.Test.YtdcphheeapmjcaaSr
namespace Go.Proofs.Ytdcphheeapmjcaa
open Go.ChangeShapes Go.WideShapes Go.ChangeAt Go.RowKit Go.Deep
set_option maxHeartbeats 1000000 in
theorem szl_any (y : Int) (y0 : 0 ≤ y) (y1 : y ≤ 1048576) (a : Option Addr) (cap : Nat) (L : List (List UInt8)) (hL : SLen L) (w : World) (h : SRow w.heap.size w a L) :
    Calls Try.prog 26 #[.slice a L.length cap, .int .i64 y] w fun e w' => (∃ z : Int, e = .returned (.int .i64 z) ∧ z ≤ y ∧ (0 ≤ z → SFew L)) ∧ w = w' := by
  have H := Lib.hid h
  have HL := Lib.hid hL.2
  have hl := hL.1
  have hl' : (L.length : Int) ≤ 9223372036854775807 := by omega
  clear h hL
  by_cases hm : (L.length : Int) ≤ y
  · have t1 : decide (y - (L.length : Int) < 0) = false := by simp; omega
    have HM : Hid (L.length ≤ 1048576) := Lib.hid (by omega)
    have hm' : (L.length : Int) ≤ 1048576 := by omega
    clear hl hl'
    go_enter Try.func26, Try.ntmps26
    go_wp2
    go_loopw [1, 5] (fun x i wr => ∃ (k : Nat) (z : Int), k ≤ L.length ∧ i = .int .i64 (k : Int) ∧ x = .int .i64 z ∧ 0 ≤ z ∧ z ≤ y ∧ (∀ i (h : i < L.length), i < k → L[i].length ≤ 1048576) ∧ w = wr) (fun _ i _ => L.length - (intOf i).toNat)
    case atStart => exact ⟨0, _, Nat.zero_le _, rfl, rfl, by omega, by omega, fun i _ h => by omega, rfl⟩
    case round =>
      obtain ⟨k, z, hk, rfl, rfl, z0, z1, hall, rfl⟩ := hrel
      have ALL := Lib.hid hall
      clear hall
      by_cases hlt : k < L.length
      · have t2 : decide (k < L.length) = true := by simpa using hlt
        obtain ⟨b, off, rfl, hb, hc⟩ := H.out.at hlt
        have hs := txt_size L[k]
        have hlk := HL.out k hlt
        have hk' : (k : Int) < (L.length : Int) := by omega
        have HK := Lib.hid hlt
        have hlk' : (L[k].length : Int) ≤ 9223372036854775807 := by omega
        have LK : Hid (∀ q : Nat, L[k].length ≤ q → q ≤ 1048576 → ∀ i (h : i < L.length), i < k + 1 → L[i].length ≤ 1048576) := Lib.hid fun q h1 h2 i hi hik => by
          by_cases e : i = k
          · subst e; omega
          · exact ALL.out i hi (by omega)
        generalize L[k].length = q at hs hlk hlk' LK
        obtain ⟨tx, htx⟩ : ∃ tx, txt (L[k]'hlt) = tx := ⟨_, rfl⟩
        rw [htx] at hc hs
        clear htx
        by_cases hz : z - (q : Int) < 0
        · have t3 : decide (z - (q : Int) < 0) = true := by simpa using hz
          clear hlt hk
          go_wp2
          go_ret
          exact ⟨⟨_, rfl, by omega, fun h => absurd h (by omega)⟩, rfl⟩
        · have t3 : decide (z - (q : Int) < 0) = false := by simpa using hz
          clear hlt hk
          go_wp2
          go_roundw
          case rel => exact ⟨k + 1, _, HK.out, by go_num, rfl, by omega, by omega, LK.out q (Nat.le_refl _) (by omega), trivial⟩
          case measure => have := HK.out; simp [intOf]; omega
      · obtain rfl : k = L.length := by omega
        clear hlt hk
        go_wp2
        go_ret
        exact ⟨⟨_, rfl, z1, fun _ => ⟨HM.out, fun i hi => ALL.out i hi hi⟩⟩, rfl⟩
  · have t1 : decide (y - (L.length : Int) < 0) = true := by simp; omega
    clear hl
    go_enter Try.func26, Try.ntmps26
    go_wp2
    go_ret
    exact ⟨⟨-1, rfl, by omega, fun h => absurd h (by omega)⟩, rfl⟩
end Go.Proofs.Ytdcphheeapmjcaa
