/-
  strconv.ParseUint AT BASE 16 AND 32 BITS, for texts of at most eight bytes.
-/
import Derived.Test.YtanepboepeijoaaDoorHex
import Derived.Test.YtanepboepeijoaaDoorTk
import Derived.Test.YtanepboepeijoaaDoorShd
import Derived.Lib.ConvBytes
import Derived.Lib.AtoiErrMem
namespace Go.Proofs.YtanepboepeijoaaDoor
open Go.ChangeShapes Go.WideShapes Go.ChangeAt Go.RowKit
open Fl
def hexD (c : Nat) : Option Nat := if 48 ≤ c ∧ c ≤ 57 then some (c - 48) else if 97 ≤ c ∧ c ≤ 102 then some (c - 87) else if 65 ≤ c ∧ c ≤ 70 then some (c - 55) else none
def hexV : Nat → List UInt8 → Option Nat
  | acc, [] => some acc
  | acc, c :: r => match hexD c.toNat with
    | some d => hexV (acc * 16 + d) r
    | none => none
theorem hexV_some {acc d : Nat} {c : UInt8} {r : List UInt8} (h : hexD c.toNat = some d) : hexV acc (c :: r) = hexV (acc * 16 + d) r := by simp [hexV, h]
theorem hexV_none {acc : Nat} {c : UInt8} {r : List UInt8} (h : hexD c.toNat = none) : hexV acc (c :: r) = none := by simp [hexV, h]
theorem hexD_lt {c d : Nat} (h : hexD c = some d) : d < 16 := by
  unfold hexD at h
  repeat (split at h <;> try (cases h; omega))
  cases h
/-- what the inner function hands back -/
def pret : Option Nat → Value
  | some v => .tuple #[.int .u64 v, .nilIface]
  | none => .tuple #[.int .u64 0, .iface 115 (.int .i64 2)]
theorem or32_all : ∀ c : Fin 256, (97 ≤ c.val ∧ c.val ≤ 122 → c.val ||| 32 = c.val) ∧ (65 ≤ c.val ∧ c.val ≤ 90 → c.val ||| 32 = c.val + 32) ∧ (¬(97 ≤ c.val ∧ c.val ≤ 122) → ¬(65 ≤ c.val ∧ c.val ≤ 90) → c.val ||| 32 < 97 ∨ 122 < c.val ||| 32) ∧ c.val ||| 32 < 256 := by decide +kernel
theorem or32 (c : Nat) (h : c < 256) : bits .or .u8 (c : Int) 32 = ((c ||| 32 : Nat) : Int) := by
  rw [show (32 : Int) = ((32 : Nat) : Int) from rfl, u8_or_nat c 32 h (by omega)]
/-- the classes of a byte -/
theorem classes (c : Nat) (h : c < 256) :
    (48 ≤ c ∧ c ≤ 57 ∧ hexD c = some (c - 48)) ∨
    (∃ v : Int, bits .or .u8 (c : Int) 32 = v ∧ ((c < 48 ∨ 57 < c) ∧ c ≠ 95) ∧ 97 ≤ v ∧ v ≤ 102 ∧ hexD c = some (v - 87).toNat) ∨
    (∃ v : Int, bits .or .u8 (c : Int) 32 = v ∧ ((c < 48 ∨ 57 < c) ∧ c ≠ 95) ∧ 103 ≤ v ∧ v ≤ 122 ∧ hexD c = none) ∨
    (∃ v : Int, bits .or .u8 (c : Int) 32 = v ∧ ((c < 48 ∨ 57 < c) ∧ c ≠ 95) ∧ 0 ≤ v ∧ v < 97 ∧ hexD c = none) ∨
    (∃ v : Int, bits .or .u8 (c : Int) 32 = v ∧ (c < 48 ∨ 57 < c) ∧ 123 ≤ v ∧ v < 256 ∧ hexD c = none) := by
  obtain ⟨h1, h2, h3, h4⟩ := or32_all ⟨c, h⟩
  simp only at h1 h2 h3 h4
  rw [or32 c h]
  by_cases hd : 48 ≤ c ∧ c ≤ 57
  · exact .inl ⟨hd.1, hd.2, by unfold hexD; rw [if_pos hd]⟩
  · have hn : c < 48 ∨ 57 < c := by omega
    right
    by_cases ha : 97 ≤ c ∧ c ≤ 122
    · have e := h1 ha
      by_cases hf : c ≤ 102
      · exact .inl ⟨_, rfl, ⟨hn, by omega⟩, by omega, by omega, by unfold hexD; rw [if_neg hd, if_pos ⟨ha.1, hf⟩]; congr 1; omega⟩
      · exact .inr (.inl ⟨_, rfl, ⟨hn, by omega⟩, by omega, by omega, by unfold hexD; rw [if_neg hd, if_neg (by omega), if_neg (by omega)]⟩)
    · by_cases hA : 65 ≤ c ∧ c ≤ 90
      · have e := h2 hA
        by_cases hf : c ≤ 70
        · exact .inl ⟨_, rfl, ⟨hn, by omega⟩, by omega, by omega, by unfold hexD; rw [if_neg hd, if_neg (by omega), if_pos ⟨hA.1, hf⟩]; congr 1; omega⟩
        · exact .inr (.inl ⟨_, rfl, ⟨hn, by omega⟩, by omega, by omega, by unfold hexD; rw [if_neg hd, if_neg (by omega), if_neg (by omega)]⟩)
      · have hD : hexD c = none := by unfold hexD; rw [if_neg hd, if_neg (by omega), if_neg (by omega)]
        rcases h3 ha hA with e | e
        · exact .inr (.inr (.inl ⟨_, rfl, ⟨hn, fun h95 => by subst h95; exact absurd e (by decide)⟩, by omega, by omega, hD⟩))
        · exact .inr (.inr (.inr ⟨_, rfl, hn, by omega, by omega, hD⟩))
/-- what has been read: a, the number of the first k bytes -/
def Got (bs : List UInt8) (k : Nat) (a : Int) : Prop := ∃ acc : Nat, a = (acc : Int) ∧ acc < 16 ^ k ∧ hexV 0 bs = hexV acc (bs.drop k)
theorem Got.start (bs : List UInt8) : Got bs 0 0 := ⟨0, rfl, by omega, rfl⟩
theorem Got.bound {bs : List UInt8} {k : Nat} {a : Int} (h : Got bs k a) (hk : k ≤ 7) : 0 ≤ a ∧ a ≤ 268435455 := by
  obtain ⟨acc, rfl, h1, _⟩ := h
  have : 16 ^ k ≤ 16 ^ 7 := Nat.pow_le_pow_right (by omega) hk
  omega
theorem Got.step {bs : List UInt8} {k d : Nat} {a : Int} (h : Got bs k a) (hk : k < bs.length) (hd : hexD (bs[k]'hk).toNat = some d) : Got bs (k + 1) (a * 16 + d) := by
  obtain ⟨acc, rfl, h1, h2⟩ := h
  have hd16 := hexD_lt hd
  refine ⟨acc * 16 + d, by omega, by rw [Nat.pow_succ]; omega, ?_⟩
  rw [h2, List.drop_eq_getElem_cons hk, hexV_some hd]
theorem Got.fail {bs : List UInt8} {k : Nat} {a : Int} (h : Got bs k a) (hk : k < bs.length) (hd : hexD (bs[k]'hk).toNat = none) : hexV 0 bs = none := by
  obtain ⟨acc, rfl, h1, h2⟩ := h
  rw [h2, List.drop_eq_getElem_cons hk, hexV_none hd]
theorem Got.fin {bs : List UInt8} {k : Nat} {a : Int} (h : Got bs k a) (hk : bs.length = k) : pret (hexV 0 bs) = .tuple #[.int .u64 a, .nilIface] := by
  obtain ⟨acc, rfl, h1, h2⟩ := h
  rw [h2, List.drop_eq_nil_of_le (by omega)]; rfl
set_option maxRecDepth 8000 in
set_option maxHeartbeats 2000000 in
theorem parseIn (t : ByteArray) (hne : t.size ≠ 0) (hmax : t.size ≤ 8) (w : World) :
    Calls Tryd.prog 59 #[.string t, .int .i64 16, .int .i64 32] w fun e w' => e = .returned (pret (hexV 0 t.data.toList)) ∧ Below w.heap.size w w' := by
  have hemp : t.toList.isEmpty = false := by
    rw [← decide_eq_emptyBytes]
    exact decide_eq_false (fun h => hne (by rw [h]; rfl))
  have hcv := Lib.run_convert_string_bytes (P := Tryd.prog) w 9 35 5 t (u := .string) Tryd.underlying9 Tryd.underlying35 Tryd.underlying5
  have hB : ∀ j, j < t.size → (Lib.bytesWorld w 5 t).cell? ⟨w.heap.size, j, none⟩ = some (.int .u8 (t.data.toList.getD j 0).toNat) := fun j hj => Lib.bytesWorld_cell w 5 t j hj
  have HBel := Lib.hid (Lib.bytesWorld_below w 5 t)
  obtain ⟨W1, hW1⟩ : ∃ W1, W1 = Lib.bytesWorld w 5 t := ⟨_, rfl⟩
  rw [← hW1] at hcv hB HBel
  clear hW1
  obtain ⟨bs, hL⟩ : ∃ bs, bs = t.data.toList := ⟨_, rfl⟩
  have hLn : bs.length = t.size := by rw [hL, Lib.size_eq]
  rw [← hL] at hB ⊢
  clear hL
  have hmv : IntKind.u64.wrap (IntKind.u64.wrap 4294967296 - 1) = 4294967295 := by rw [IntKind.wrap_u64, IntKind.wrap_u64]; decide
  go_enter Tryd.func59, Tryd.ntmps59
  go_wp2
  go_loop [12, 13, 101] (fun vu vn vi => ∃ (k : Nat) (a : Int), vu = .bool false ∧ vn = .int .u64 a ∧ vi = .int .i64 k ∧ k ≤ t.size ∧ Hid (Got bs k a))
    (fun _ _ vi => t.size - (intOf vi).toNat)
  case atStart => exact ⟨0, 0, rfl, rfl, rfl, by omega, Lib.hid (Got.start bs)⟩
  case round =>
    obtain ⟨k, a, rfl, rfl, rfl, hk, HG⟩ := hrel
    by_cases hkn : k < t.size
    · obtain ⟨a0, a1⟩ := HG.out.bound (by omega)
      have hc := hB k hkn
      have hget : bs.getD k 0 = bs[k]'(by omega) := by simp [List.getD, List.getElem?_eq_getElem (show k < bs.length by omega)]
      rw [hget] at hc
      have hst := fun d => HG.out.step (d := d) (show k < bs.length by omega)
      have hfl := HG.out.fail (show k < bs.length by omega)
      generalize bs[k]'(by omega) = c at hc hst hfl
      have hc256 : c.toNat < 256 := c.toNat_lt
      have hc255 : (c.toNat : Int) ≤ 255 := by omega
      have HP := Lib.hid hfl
      have HS := Lib.hid hst
      clear hB hget hfl hst HG
      rcases classes c.toNat hc256 with ⟨h0, h1, hD⟩ | ⟨v, hv, hn, h0, h1, hD⟩ | ⟨v, hv, hn, h0, h1, hD⟩ | ⟨v, hv, hn, h0, h1, hD⟩ | ⟨v, hv, hn, h0, h1, hD⟩
      · have HN := Lib.hid (HS.out _ hD)
        have h0' : (48 : Int) ≤ (c.toNat : Int) := by omega
        have h1' : (c.toNat : Int) ≤ 57 := by omega
        clear hD HS HP
        go_wp2
        refine ⟨⟨k + 1, a * 16 + ((c.toNat - 48 : Nat) : Int), rfl, (by first | rfl | (congr 1; omega)), (by first | rfl | (congr 1; omega)), by omega, HN⟩, by simp [intOf]; omega⟩
      · have HN := Lib.hid (HS.out _ hD)
        have hn' : (c.toNat : Int) < 48 ∨ 57 < (c.toNat : Int) := by omega
        have h95 : ((c.toNat : Int) == 95) = false := by simp; omega
        clear hD HS HP hn
        rcases hn' with hn' | hn'
        all_goals
          go_wp2_with (go_at_call 79; refine (Tryd.internal_strconv_lower _ _).mono ?_; rintro e w' ⟨rfl, rfl⟩)
          refine ⟨⟨k + 1, a * 16 + ((v - 87).toNat : Int), rfl, (by first | rfl | (congr 1; omega)), (by first | rfl | (congr 1; omega)), by omega, HN⟩, by simp [intOf]; omega⟩
      · have HF := Lib.hid (HP.out hD)
        have hn' : (c.toNat : Int) < 48 ∨ 57 < (c.toNat : Int) := by omega
        have h95 : ((c.toNat : Int) == 95) = false := by simp; omega
        clear hD HS HP hn
        rcases hn' with hn' | hn'
        all_goals
          go_wp2_with (go_at_call 79; refine (Tryd.internal_strconv_lower _ _).mono ?_; rintro e w' ⟨rfl, rfl⟩)
          go_ret2
          exact ⟨by rw [HF.out]; rfl, HBel.out⟩
      · have HF := Lib.hid (HP.out hD)
        have hn' : (c.toNat : Int) < 48 ∨ 57 < (c.toNat : Int) := by omega
        have h95 : ((c.toNat : Int) == 95) = false := by simp; omega
        clear hD HS HP hn
        rcases hn' with hn' | hn'
        all_goals
          go_wp2_with (go_at_call 79; refine (Tryd.internal_strconv_lower _ _).mono ?_; rintro e w' ⟨rfl, rfl⟩)
          go_ret2
          exact ⟨by rw [HF.out]; rfl, HBel.out⟩
      · have HF := Lib.hid (HP.out hD)
        have hn' : (c.toNat : Int) < 48 ∨ 57 < (c.toNat : Int) := by omega
        clear hD HS HP hn
        rcases hn' with hn' | hn'
        all_goals
          go_wp2_with (go_at_call 79; refine (Tryd.internal_strconv_lower _ _).mono ?_; rintro e w' ⟨rfl, rfl⟩)
          all_goals
            go_ret2
            exact ⟨by rw [HF.out]; rfl, HBel.out⟩
    · have hkk : k = t.size := by omega
      subst hkk
      have HF := Lib.hid (HG.out.fin hLn)
      clear HG hB
      go_wp2
      go_ret2
      exact ⟨by rw [HF.out]; rfl, HBel.out⟩
end Go.Proofs.YtanepboepeijoaaDoor
