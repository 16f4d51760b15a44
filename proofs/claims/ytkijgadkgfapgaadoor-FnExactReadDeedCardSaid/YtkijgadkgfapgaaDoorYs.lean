/-
  CONTRACTS: digits (three at most; nine at most), a text's parts in a row of the call's own.
-/
import Derived.Test.YtkijgadkgfapgaaDoorQm
import Derived.Test.YtkijgadkgfapgaaDoorSpw
namespace Go.Proofs.YtkijgadkgfapgaaDoor
open Go.ChangeShapes Go.WideShapes Go.ChangeAt Go.RowKit
/-- the number of one to so many digits -/
def smN (m : Nat) (l : List UInt8) : Option Nat := if l = [] ∨ m < l.length then none else digV 0 l
def digR : Option Nat → Value
  | some v => .tuple #[.int .i64 (v : Int), .int .i64 0]
  | none => .tuple #[.int .i64 0, .int .i64 5]
def smallI : Option Nat → Int
  | some v => (v : Int)
  | none => -1
theorem digV_at {l : List UInt8} {k a : Nat} {V : Option Nat} (h : digV a (l.drop k) = V) (hk : k < l.length) :
    ((48 ≤ (l[k]'hk).toNat ∧ (l[k]'hk).toNat ≤ 57) → digV (10 * a + ((l[k]'hk).toNat - 48)) (l.drop (k + 1)) = V) ∧ (¬ (48 ≤ (l[k]'hk).toNat ∧ (l[k]'hk).toNat ≤ 57) → V = none) := by
  rw [List.drop_eq_getElem_cons hk, digV] at h
  constructor
  · intro hd; rw [if_pos hd] at h; exact h
  · intro hd; rw [if_neg hd] at h; exact h.symm
theorem byte_lt (x : UInt8) : x.toNat < 256 := x.toNat_lt
set_option maxHeartbeats 2000000 in
set_option maxRecDepth 8000 in
theorem readDigits3_any (t : ByteArray)  (w : World) :
    Calls Tryd.prog 36 #[.string t, .int .i64 3] w fun e w' => e = .returned (digR (smN 3 t.data.toList)) ∧ w = w' := by
  obtain ⟨l, hl, hs, HX⟩ : ∃ l : List UInt8, t.data.toList = l ∧ l.length = t.size ∧ Hid (∀ (k : Nat) (hk : k < l.length) w, (Instr.index 9 (.string t) (.int .i64 (k : Int))).run Tryd.prog w = .ok (.int .u8 (((l[k]'hk).toNat : Nat) : Int)) w) :=
    ⟨t.data.toList, rfl, by rw [Array.length_toList]; rfl, Lib.hid (idx_str t)⟩
  rw [hl]
  by_cases h0 : t.size = 0
  · have e0 : smN 3 l = none := by
      have : l = [] := List.eq_nil_of_length_eq_zero (by omega)
      simp [smN, this]
    rw [e0]
    have h0' : (t.size : Int) = 0 := by omega
    clear hs HX hl
    go_enter Tryd.func36, Tryd.ntmps36
    go_wp2
    go_ret2
    exact ⟨rfl, rfl⟩
  by_cases h6 : 3 < t.size
  · have e0 : smN 3 l = none := by
      unfold smN; rw [if_pos (Or.inr (by omega))]
    rw [e0]
    have h6' : (3 : Int) < (t.size : Int) := by omega
    have h0' : ¬ ((t.size : Int) = 0) := by omega
    clear hs HX hl
    go_enter Tryd.func36, Tryd.ntmps36
    go_wp2
    go_ret2
    exact ⟨rfl, rfl⟩
  obtain ⟨V, hV⟩ : ∃ V, digV 0 l = V := ⟨_, rfl⟩
  have eV : smN 3 l = V := by
    unfold smN
    rw [if_neg (by
      rintro (h | h)
      · rw [h] at hs; simp at hs; omega
      · omega), hV]
  rw [eV]
  have D0 : Hid (digV 0 (l.drop 0) = V ∧ (0 : Nat) < 10 ^ 0) := Lib.hid ⟨by rw [List.drop_zero, hV], by decide⟩
  have n0 : (1 : Int) ≤ (t.size : Int) := by omega
  have n6 : (t.size : Int) ≤ 3 := by omega
  have nz : ((t.size : Int) == 0) = false := beq_eq_false_iff_ne.2 (by omega)
  clear eV hV hl
  go_enter Tryd.func36, Tryd.ntmps36
  go_wp2
  go_loopw [6, 19] (fun vn vk wr => ∃ (a k : Nat), k ≤ t.size ∧ vk = .int .i64 (k : Int) ∧ vn = .int .i64 (a : Int) ∧ wr = w ∧ Hid (digV a (l.drop k) = V ∧ a < 10 ^ k)) (fun _ vk _ => t.size - (intOf vk).toNat)
  case atStart => exact ⟨0, 0, by omega, rfl, rfl, rfl, D0⟩
  case round =>
    obtain ⟨a, k, hk, rfl, rfl, rfl, HD⟩ := hrel
    by_cases hlt : k < t.size
    · have tk : (k : Int) < (t.size : Int) := by omega
      have hx := HX.out k (by omega)
      have hat := digV_at HD.out.1 (by omega : k < l.length)
      have hb := byte_lt (l[k]'(by omega))
      have hp : 10 ^ k ≤ 10 ^ 2 := Nat.pow_le_pow_right (by decide) (by omega)
      have ha : (a : Int) < 100 := by have := HD.out.2; have e5 : (10 : Nat) ^ 2 = 100 := (by decide); omega
      have hnx : 10 * a + ((l[k]'(by omega)).toNat - 48) < 10 ^ (k + 1) ∨ ¬ ((l[k]'(by omega)).toNat ≤ 57) := by
        have := HD.out.2
        rw [Nat.pow_succ]
        omega
      generalize (l[k]'(by omega)).toNat = x at hx hat hb hnx
      by_cases hd : 48 ≤ x ∧ x ≤ 57
      · have HN : Hid (digV (10 * a + (x - 48)) (l.drop (k + 1)) = V ∧ 10 * a + (x - 48) < 10 ^ (k + 1)) := Lib.hid ⟨hat.1 hd, by rcases hnx with h | h; exact h; omega⟩
        have d1 : (48 : Int) ≤ (x : Int) := by omega
        have d2 : (x : Int) ≤ 57 := by omega
        have b1 : decide ((x : Int) < 48) = false := by simp; omega
        have b2 : decide ((57 : Int) < (x : Int)) = false := by simp; omega
        have ew : IntKind.u8.wrap ((x : Int) - 48) = (x : Int) - 48 := by rw [IntKind.wrap_u8]; omega
        have ei : IntKind.i64.wrap ((x : Int) - 48) = (x : Int) - 48 := by rw [IntKind.wrap_i64]; omega
        have m0 : (0 : Int) ≤ (a : Int) := by omega
        have m1 : (0 : Int) ≤ (x : Int) - 48 := by omega
        have m2 : (x : Int) - 48 ≤ 9 := by omega
        clear hat hnx HD hp
        go_wp2
        go_roundw
        case rel => exact ⟨10 * a + (x - 48), k + 1, by omega, by go_num, by go_num, (by first | rfl | trivial), HN⟩
        case measure => simp [intOf]; omega
      · have hV := hat.2 hd
        subst hV
        clear hat hnx HD hp D0
        by_cases d1 : x < 48
        · have d1' : (x : Int) < 48 := by omega
          go_wp2
          go_ret2
          exact ⟨rfl, rfl⟩
        · have d1' : ¬ ((x : Int) < 48) := by omega
          have d2' : (57 : Int) < (x : Int) := by omega
          go_wp2
          go_ret2
          exact ⟨rfl, rfl⟩
    · obtain rfl : k = t.size := by omega
      have hV : V = some a := by
        have := HD.out.1
        rw [List.drop_of_length_le (by omega)] at this
        exact this.symm
      subst hV
      clear HD D0
      go_wp2
      go_ret2
      exact ⟨rfl, rfl⟩
set_option maxHeartbeats 2000000 in
set_option maxRecDepth 8000 in
theorem l01Small9_any (t : ByteArray) (w : World) :
    Calls Tryd.prog 34 #[.string t] w fun e w' => e = .returned (.int .i64 <| smallI (smN 9 t.data.toList)) ∧ w = w' := by
  obtain ⟨l, hl, hs, HX⟩ : ∃ l : List UInt8, t.data.toList = l ∧ l.length = t.size ∧ Hid (∀ (k : Nat) (hk : k < l.length) w, (Instr.index 9 (.string t) (.int .i64 (k : Int))).run Tryd.prog w = .ok (.int .u8 (((l[k]'hk).toNat : Nat) : Int)) w) :=
    ⟨t.data.toList, rfl, by rw [Array.length_toList]; rfl, Lib.hid (idx_str t)⟩
  rw [hl]
  by_cases h0 : t.size = 0
  · have e0 : smN 9 l = none := by
      have : l = [] := List.eq_nil_of_length_eq_zero (by omega)
      simp [smN, this]
    rw [e0]
    have h0' : (t.size : Int) = 0 := by omega
    clear hs HX hl
    go_enter Tryd.func34, Tryd.ntmps34
    go_wp2
    go_ret
    exact ⟨rfl, rfl⟩
  by_cases h6 : 9 < t.size
  · have e0 : smN 9 l = none := by
      unfold smN; rw [if_pos (Or.inr (by omega))]
    rw [e0]
    have h6' : (9 : Int) < (t.size : Int) := by omega
    have h0' : ¬ ((t.size : Int) < 1) := by omega
    clear hs HX hl
    go_enter Tryd.func34, Tryd.ntmps34
    go_wp2
    go_ret
    exact ⟨rfl, rfl⟩
  obtain ⟨V, hV⟩ : ∃ V, digV 0 l = V := ⟨_, rfl⟩
  have eV : smN 9 l = V := by
    unfold smN
    rw [if_neg (by
      rintro (h | h)
      · rw [h] at hs; simp at hs; omega
      · omega), hV]
  rw [eV]
  have D0 : Hid (digV 0 (l.drop 0) = V ∧ (0 : Nat) < 10 ^ 0) := Lib.hid ⟨by rw [List.drop_zero, hV], by decide⟩
  have n0 : (1 : Int) ≤ (t.size : Int) := by omega
  have n6 : (t.size : Int) ≤ 9 := by omega
  have nz : ((t.size : Int) == 0) = false := beq_eq_false_iff_ne.2 (by omega)
  clear eV hV hl
  go_enter Tryd.func34, Tryd.ntmps34
  go_wp2
  go_loopw [3, 4] (fun vn vk wr => ∃ (a k : Nat), k ≤ t.size ∧ vk = .int .i64 (k : Int) ∧ vn = .int .i64 (a : Int) ∧ wr = w ∧ Hid (digV a (l.drop k) = V ∧ a < 10 ^ k)) (fun _ vk _ => t.size - (intOf vk).toNat)
  case atStart => exact ⟨0, 0, by omega, rfl, rfl, rfl, D0⟩
  case round =>
    obtain ⟨a, k, hk, rfl, rfl, rfl, HD⟩ := hrel
    by_cases hlt : k < t.size
    · have tk : (k : Int) < (t.size : Int) := by omega
      have hx := HX.out k (by omega)
      have hat := digV_at HD.out.1 (by omega : k < l.length)
      have hb := byte_lt (l[k]'(by omega))
      have hp : 10 ^ k ≤ 10 ^ 8 := Nat.pow_le_pow_right (by decide) (by omega)
      have ha : (a : Int) < 100000000 := by have := HD.out.2; have e5 : (10 : Nat) ^ 8 = 100000000 := (by decide); omega
      have hnx : 10 * a + ((l[k]'(by omega)).toNat - 48) < 10 ^ (k + 1) ∨ ¬ ((l[k]'(by omega)).toNat ≤ 57) := by
        have := HD.out.2
        rw [Nat.pow_succ]
        omega
      generalize (l[k]'(by omega)).toNat = x at hx hat hb hnx
      by_cases hd : 48 ≤ x ∧ x ≤ 57
      · have HN : Hid (digV (10 * a + (x - 48)) (l.drop (k + 1)) = V ∧ 10 * a + (x - 48) < 10 ^ (k + 1)) := Lib.hid ⟨hat.1 hd, by rcases hnx with h | h; exact h; omega⟩
        have d1 : (48 : Int) ≤ (x : Int) := by omega
        have d2 : (x : Int) ≤ 57 := by omega
        have b1 : decide ((x : Int) < 48) = false := by simp; omega
        have b2 : decide ((57 : Int) < (x : Int)) = false := by simp; omega
        have ew : IntKind.u8.wrap ((x : Int) - 48) = (x : Int) - 48 := by rw [IntKind.wrap_u8]; omega
        have ei : IntKind.i64.wrap ((x : Int) - 48) = (x : Int) - 48 := by rw [IntKind.wrap_i64]; omega
        have m0 : (0 : Int) ≤ (a : Int) := by omega
        have m1 : (0 : Int) ≤ (x : Int) - 48 := by omega
        have m2 : (x : Int) - 48 ≤ 9 := by omega
        clear hat hnx HD hp
        have em : IntKind.i64.wrap ((a : Int) * 10) = (a : Int) * 10 := by rw [IntKind.wrap_i64]; omega
        have en : IntKind.i64.wrap ((a : Int) * 10 + ((x : Int) - 48)) = (a : Int) * 10 + ((x : Int) - 48) := by rw [IntKind.wrap_i64]; omega
        go_wp2
        go_roundw
        case rel => exact ⟨10 * a + (x - 48), k + 1, by omega, by go_num, by go_num, (by first | rfl | trivial), HN⟩
        case measure => simp [intOf]; omega
      · have hV := hat.2 hd
        subst hV
        clear hat hnx HD hp D0
        by_cases d1 : x < 48
        · have d1' : (x : Int) < 48 := by omega
          go_wp2
          go_ret
          exact ⟨rfl, rfl⟩
        · have d1' : ¬ ((x : Int) < 48) := by omega
          have d2' : (57 : Int) < (x : Int) := by omega
          go_wp2
          go_ret
          exact ⟨rfl, rfl⟩
    · obtain rfl : k = t.size := by omega
      have hV : V = some a := by
        have := HD.out.1
        rw [List.drop_of_length_le (by omega)] at this
        exact this.symm
      subst hV
      clear HD D0
      go_wp2
      go_ret
      exact ⟨rfl, rfl⟩
def SplO (c : UInt8) (t : ByteArray) (B : Nat) (e : Ending) (w' : World) : Prop := ∃ (v : Value) (q : List ByteArray), e = .returned v ∧ splitL c t.data.toList = q.map (·.data.toList) ∧ OwnS B v q w'
set_option maxRecDepth 8000 in
set_option maxHeartbeats 2000000 in
theorem l01SplitO_any (t : ByteArray) (c : UInt8) (hm : t.size ≤ 1048576) (w : World) :
    Calls Tryd.prog 33 #[.string t, .int .u8 ((c.toNat : Nat) : Int)] w fun e w' => SplO c t w.heap.size e w' ∧ Below w.heap.size w w' := by
  obtain ⟨l, HL, hs, HX, HE⟩ : ∃ l : List UInt8, Hid (l = t.data.toList) ∧ l.length = t.size ∧ Hid (∀ (k : Nat) (hk : k < l.length) w, (Instr.index 9 (.string t) (.int .i64 (k : Int))).run Tryd.prog w = .ok (.int .u8 (((l[k]'hk).toNat : Nat) : Int)) w) ∧ Hid (∀ a b, (t.extract a b).data.toList = (l.drop a).take (b - a)) :=
    ⟨t.data.toList, Lib.hid rfl, by rw [Array.length_toList]; rfl, Lib.hid (idx_str t), Lib.hid (extract_list t)⟩
  have O0 : Hid (OwnS w.heap.size (.slice (some ⟨w.heap.size, 0, none⟩) 0 0) [] (w.alloc (.cells #[] 9))) := Lib.hid (World.ownsRow_made (size := 1) w #[] 0 (Nat.le_refl _) (by unfold maxLen; omega) rfl)
  have B0 : Hid (Below w.heap.size w (w.alloc (.cells #[] 9))) := Lib.hid ((Below.refl _ _).alloc (Nat.le_refl _) _)
  go_enter Tryd.func33, Tryd.ntmps33
  go_wp2
  go_loopw [5, 6, 7] (fun v vb vi wr => ∃ (q : List ByteArray) (b k : Nat), k ≤ t.size ∧ vb = .int .i64 b ∧ vi = .int .i64 k ∧ Hid (OwnS w.heap.size v q wr) ∧ Hid (Below w.heap.size w wr) ∧ Hid (Spl c l q b k))
    (fun _ _ vi _ => t.size - (intOf vi).toNat)
  case atStart => exact ⟨[], 0, 0, by omega, rfl, rfl, O0, B0, Lib.hid (Spl.start c l)⟩
  case round =>
    obtain ⟨q, b, k, hk, rfl, rfl, HO, HB, HS⟩ := hrel
    have hbk := HS.out.le
    have hqk := HS.out.len
    have hbs := HB.out.size
    have hsl : ∀ w, (Instr.slice 9 (.string t) (some (.int .i64 (b : Int))) (some (.int .i64 (k : Int))) none).run Tryd.prog w = .ok (.string (t.extract b k)) w := fun w => by
      rw [run_slice_string w 9 t .i64 .i64 b k Tryd.underlying9 (by omega) (by omega) (by omega)]
      simp
    by_cases hkn : k < t.size
    · have hkn' : (k : Int) < (t.size : Int) := by omega
      have hx := HX.out k (by omega)
      by_cases hc : l[k]'(by omega) = c
      · have HN := Lib.hid (HS.out.cut (by omega) hc (t.extract b k) (HE.out b k))
        rw [hc] at hx
        clear hc HS
        go_wp2_with (refine wpList_append_str rfl (.tmp 20) (.tmp 25) rfl w.heap.size _ q (t.extract b k) rfl (HO.out.alloc _) _ rfl (by simp) (by omega) (by simp; omega) w (HB.out.alloc (by omega) _) ?_; intro v' w' o' b'; have O' := Lib.hid o'; have B' := Lib.hid b'; clear o' b')
        refine ⟨⟨q ++ [t.extract b k], k + 1, k + 1, by omega, by go_num, by go_num, O', B', HN⟩, by simp [intOf]; omega⟩
      · have HN := Lib.hid (HS.out.next (by omega) hc)
        have hne : (((l[k]'(by omega)).toNat : Int) == ((c.toNat : Nat) : Int)) = false := by
          have : (l[k]'(by omega)).toNat ≠ c.toNat := fun h => hc (UInt8.toNat_inj.1 h)
          simp; omega
        generalize (l[k]'(by omega)).toNat = n at hx hne
        clear hc HS
        go_wp2
        refine ⟨⟨q, b, k + 1, by omega, rfl, by go_num, HO, HB, HN⟩, by simp [intOf]; omega⟩
    · obtain rfl : k = t.size := by omega
      have hsf : ∀ w, (Instr.slice 9 (.string t) (some (.int .i64 (b : Int))) none none).run Tryd.prog w = .ok (.string (t.extract b t.size)) w := fun w => by
        rw [run_slice_string_from_if w 9 t .i64 b Tryd.underlying9, if_pos ⟨by omega, by omega⟩]
        simp
      have hp : (t.extract b t.size).data.toList = l.drop b := by rw [HE.out, List.take_of_length_le (by rw [List.length_drop]; omega)]
      have HF := Lib.hid (Spl.fin (hs ▸ HS.out) (t.extract b t.size) hp)
      clear HS hp hsl
      go_wp2_with (refine wpList_append_str rfl (.tmp 29) (.tmp 33) rfl w.heap.size _ q (t.extract b t.size) rfl (HO.out.alloc _) _ rfl (by simp) (by omega) (by simp; omega) w (HB.out.alloc (by omega) _) ?_; intro v' w' o' b'; have O' := Lib.hid o'; have B' := Lib.hid b'; clear o' b')
      go_ret
      refine ⟨⟨_, q ++ [t.extract b t.size], rfl, ?_, O'.out⟩, B'.out⟩
      rw [← HL.out]; exact HF.out
end Go.Proofs.YtkijgadkgfapgaaDoor
