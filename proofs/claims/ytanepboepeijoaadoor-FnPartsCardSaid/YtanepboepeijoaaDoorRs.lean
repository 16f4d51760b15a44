/-
  ReadReal: the specification's reading of a text.
-/
import Derived.Test.YtanepboepeijoaaDoorRr
namespace Go.Proofs.YtanepboepeijoaaDoor
open Go.ChangeShapes Go.WideShapes Go.ChangeAt Go.RowKit
open Fl
theorem or_nib (a d : Nat) (ha : a < 268435456) (hd : d < 16) : bits .or .u32 ((a : Int) * 16) (d : Int) = ((a * 16 + d : Nat) : Int) := by
  rw [show (a : Int) * 16 = ((a * 16 : Nat) : Int) from by omega, u32_or_nat _ _ (by omega) (by omega)]
  have := Nat.shiftLeft_add_eq_or_of_lt (show d < 2 ^ 4 from hd) a
  rw [Nat.shiftLeft_eq, show (2 : Nat) ^ 4 = 16 from rfl] at this
  rw [← this]
/-- what has been read: the number of the first k bytes -/
def Low (bs : List UInt8) (k acc : Nat) : Prop := acc < 16 ^ k ∧ lowV 0 bs = lowV acc (bs.drop k)
theorem Low.start (bs : List UInt8) : Low bs 0 0 := ⟨by omega, rfl⟩
theorem Low.bound {bs : List UInt8} {k acc : Nat} (h : Low bs k acc) (hk : k ≤ 7) : acc < 268435456 := by
  have : 16 ^ k ≤ 16 ^ 7 := Nat.pow_le_pow_right (by omega) hk
  have := h.1
  omega
theorem Low.step {bs : List UInt8} {k d acc : Nat} (h : Low bs k acc) (hk : k < bs.length) (hd : lowD (bs[k]'hk).toNat = some d) : Low bs (k + 1) (acc * 16 + d) := by
  obtain ⟨h1, h2⟩ := h
  have hd16 := (lowD_back hd).2
  refine ⟨by rw [Nat.pow_succ]; omega, ?_⟩
  rw [h2, List.drop_eq_getElem_cons hk, lowV_some hd]
theorem Low.fail {bs : List UInt8} {k acc : Nat} (h : Low bs k acc) (hk : k < bs.length) (hd : lowD (bs[k]'hk).toNat = none) : lowV 0 bs = none := by
  rw [h.2, List.drop_eq_getElem_cons hk, lowV_none hd]
theorem Low.fin {bs : List UInt8} {k acc : Nat} (h : Low bs k acc) (hk : bs.length = k) : lowV 0 bs = some acc := by
  rw [h.2, List.drop_eq_nil_of_le (by omega)]; rfl
/-- what the specification's inner function hands back -/
def sret : Option Nat → Value
  | some v => .tuple #[.float .f32 v, .bool (!decide (kd v = 4))]
  | none => .tuple #[.float .f32 0, .bool false]
theorem idx_text (t : ByteArray) (k : Nat) (hk : k < t.size) (w : World) :
    (Instr.index 9 (.string t) (.int .i64 (k : Int))).run Tryd.prog w = .ok (.int .u8 (((t.data.toList[k]'(by rw [Array.length_toList]; exact hk)).toNat : Nat) : Int)) w := by
  rw [run_index_string w 9 t .i64 _ Tryd.underlying9, dif_pos ⟨by omega, by omega⟩]
  simp
  rfl
set_option maxRecDepth 8000 in
set_option maxHeartbeats 2000000 in
theorem l01Read_8 (t : ByteArray) (h8 : t.size = 8) (w : World) :
    Calls Tryd.prog 35 #[.string t] w fun e w' => e = .returned (sret (lowV 0 t.data.toList)) ∧ w = w' := by
  have h8' : ((t.size : Int) != 8) = false := by simp; omega
  have hne := ne_nan (t := t) (fun h => by rw [h] at h8; cases h8)
  have hX := fun (k : Nat) (hk : k < t.size) w => idx_text t k hk w
  obtain ⟨bs, hbs⟩ : ∃ bs, bs = t.data.toList := ⟨_, rfl⟩
  have hLn : bs.length = 8 := by rw [hbs, Array.length_toList]; exact h8
  have HX : Hid (∀ (k : Nat) (hk : k < bs.length) w, (Instr.index 9 (.string t) (.int .i64 (k : Int))).run Tryd.prog w = .ok (.int .u8 (((bs[k]'hk).toNat : Nat) : Int)) w) := Lib.hid (by subst hbs; intro k hk w; exact hX k (by rw [Array.length_toList] at hk; exact hk) w)
  rw [← hbs]
  clear hbs hX h8
  go_enter Tryd.func35, Tryd.ntmps35
  go_wp2
  go_loop [4, 5] (fun vb vi => ∃ (k acc : Nat), vb = .int .u32 acc ∧ vi = .int .i64 k ∧ k ≤ 8 ∧ Hid (Low bs k acc))
    (fun _ vi => 8 - (intOf vi).toNat)
  case atStart => exact ⟨0, 0, rfl, rfl, by omega, Lib.hid (Low.start bs)⟩
  case round =>
    obtain ⟨k, acc, rfl, rfl, hk, HG⟩ := hrel
    by_cases hkn : k < 8
    · have ha := HG.out.bound (by omega)
      have hx := HX.out k (by omega)
      have hst := fun d => HG.out.step (d := d) (show k < bs.length by omega)
      have hfl := HG.out.fail (show k < bs.length by omega)
      generalize bs[k]'(by omega) = c at hx hst hfl
      have hc256 : c.toNat < 256 := c.toNat_lt
      generalize c.toNat = n at hx hst hfl hc256
      have hn1 : (n : Int) ≤ 255 := by omega
      have ha1 : (acc : Int) ≤ 268435455 := by omega
      have HP := Lib.hid hfl
      have HS := Lib.hid hst
      clear hfl hst HG
      by_cases hd : 48 ≤ n ∧ n ≤ 57
      · have HN := Lib.hid (HS.out (n - 48) (by unfold lowD; rw [if_pos hd]))
        have e1 : (n : Int) - 48 = ((n - 48 : Nat) : Int) := by omega
        have ho := or_nib acc (n - 48) ha (by omega)
        have d1 : (48 : Int) ≤ (n : Int) := by omega
        have d2 : (n : Int) ≤ 57 := by omega
        generalize n - 48 = d at HN e1 ho
        clear HS HP hd
        go_wp2
        refine ⟨⟨k + 1, acc * 16 + d, by go_num, by go_num, by omega, HN⟩, by simp [intOf]; omega⟩
      · by_cases hd2 : 97 ≤ n ∧ n ≤ 102
        · have HN := Lib.hid (HS.out (n - 87) (by unfold lowD; rw [if_neg hd, if_pos hd2]))
          have e1 : (n : Int) - 97 + 10 = ((n - 87 : Nat) : Int) := by omega
          have ho := or_nib acc (n - 87) ha (by omega)
          have d1 : (97 : Int) ≤ (n : Int) := by omega
          have d2 : (n : Int) ≤ 102 := by omega
          generalize n - 87 = d at HN e1 ho
          clear HS HP hd hd2
          go_wp2
          refine ⟨⟨k + 1, acc * 16 + d, by go_num, by go_num, by omega, HN⟩, by simp [intOf]; omega⟩
        · have HF := Lib.hid (HP.out (by unfold lowD; rw [if_neg hd, if_neg hd2]))
          have hcl : (n : Int) < 48 ∨ (57 < (n : Int) ∧ (n : Int) < 97) ∨ 102 < (n : Int) := by omega
          clear HS HP hd hd2
          rcases hcl with d1 | ⟨d1, d2⟩ | d1
          all_goals
            go_wp2
            go_ret2
            exact ⟨by rw [HF.out]; rfl, rfl⟩
    · obtain rfl : k = 8 := by omega
      have HF := Lib.hid (HG.out.fin hLn)
      have hac : acc < 16 ^ 8 := HG.out.1
      have hac1 : (acc : Int) ≤ 4294967295 := by omega
      clear HG hac
      go_wp2_with (go_at_call 43; refine (l01NaN_any _ _).mono ?_; rintro e w' ⟨rfl, rfl⟩)
      go_ret2
      exact ⟨by rw [HF.out]; rfl, rfl⟩
theorem l01Read_len (t : ByteArray) (hn : t ≠ nanT) (h8 : t.size ≠ 8) (hm : t.size ≤ 1048576) (w : World) :
    Calls Tryd.prog 35 #[.string t] w fun e w' => e = .returned (sret none) ∧ w = w' := by
  have h8' : ((t.size : Int) != 8) = true := by simp; omega
  have hne := ne_nan hn
  go_enter Tryd.func35, Tryd.ntmps35
  go_wp2
  go_ret2
  exact ⟨rfl, rfl⟩
/-- the inner function at a text other than "nan" -/
theorem l01Read_any (t : ByteArray) (hn : t ≠ nanT) (hm : t.size ≤ 1048576) (w : World) :
    Calls Tryd.prog 35 #[.string t] w fun e w' => e = .returned (if t.size = 8 then sret (lowV 0 t.data.toList) else sret none) ∧ w = w' := by
  by_cases h8 : t.size = 8
  · rw [if_pos h8]; exact l01Read_8 t h8 w
  · rw [if_neg h8]; exact l01Read_len t hn h8 hm w
theorem specRead_any (t : ByteArray) (hn : t ≠ nanT) (hm : t.size ≤ 1048576) (w : World) :
    Calls Tryd.prog 9 #[.string t] w fun e w' => e = .returned (outR (readT t)) ∧ w = w' := by
  have H := l01Read_any t hn hm w
  unfold readT readW
  by_cases h8 : t.size = 8
  · rw [if_pos h8] at H ⊢
    cases hv : lowV 0 t.data.toList with
    | none =>
      rw [hv] at H
      have HH := Lib.hid H
      clear H hv hn hm h8
      go_enter Tryd.func9, Tryd.ntmps9
      go_wp2_with (go_at_call 35; refine HH.out.mono ?_; rintro e w' ⟨rfl, rfl⟩; simp only [sret])
      go_ret2
      exact ⟨rfl, rfl⟩
    | some v =>
      rw [hv] at H
      by_cases hk : kd v = 4
      · have e1 : sret (some v) = .tuple #[.float .f32 v, .bool false] := by simp [sret, hk]
        rw [e1] at H
        simp only
        rw [if_pos hk]
        have HH := Lib.hid H
        clear H hv hn hm h8 hk e1
        go_enter Tryd.func9, Tryd.ntmps9
        go_wp2_with (go_at_call 35; refine HH.out.mono ?_; rintro e w' ⟨rfl, rfl⟩)
        go_ret2
        exact ⟨rfl, rfl⟩
      · have e1 : sret (some v) = .tuple #[.float .f32 v, .bool true] := by simp [sret, hk]
        rw [e1] at H
        simp only
        rw [if_neg hk]
        have HH := Lib.hid H
        clear H hv hn hm h8 hk e1
        go_enter Tryd.func9, Tryd.ntmps9
        go_wp2_with (go_at_call 35; refine HH.out.mono ?_; rintro e w' ⟨rfl, rfl⟩)
        go_ret2
        exact ⟨rfl, rfl⟩
  · rw [if_neg h8] at H ⊢
    have HH := Lib.hid H
    clear H hn hm h8
    go_enter Tryd.func9, Tryd.ntmps9
    go_wp2_with (go_at_call 35; refine HH.out.mono ?_; rintro e w' ⟨rfl, rfl⟩; simp only [sret])
    go_ret2
    exact ⟨rfl, rfl⟩
end Go.Proofs.YtanepboepeijoaaDoor
