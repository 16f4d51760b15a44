/-
  ReadPoint: the specification's reading.
-/
import Derived.Test.YtanepboepeijoaaDoorRp
namespace Go.Proofs.YtanepboepeijoaaDoor
open Go.ChangeShapes Go.WideShapes Go.ChangeAt Go.RowKit
open Fl
/-- the same number, or two NaNs -/
def Sim (x y : Nat) : Prop := (x = y ∧ kd y ≠ 4) ∨ (kd x = 4 ∧ kd y = 4)
def RdP (r : Option Nat) (e : Ending) : Prop := ∃ x, e = .returned (.tuple #[.float .f32 x, .bool r.isSome]) ∧ ∀ y, r = some y → Sim x y
theorem l01ReadE (t : ByteArray) (hm : t.size ≤ 1048576) (w : World) :
    Calls Tryd.prog 35 #[.string t] w fun e w' => RdP (readE t) e ∧ Below w.heap.size w w' := by
  unfold RdP readE
  by_cases hn : t = nanT
  · rw [if_pos hn, hn]
    refine (l01Read_nan w).mono ?_
    rintro e w' ⟨⟨b, hk, rfl⟩, rfl⟩
    exact ⟨⟨b, rfl, fun y hy => by cases hy; exact .inr ⟨hk, by decide⟩⟩, (Below.refl _ _).drew⟩
  · rw [if_neg hn]
    refine (l01Read_any t hn hm w).mono ?_
    rintro e w' ⟨rfl, rfl⟩
    refine ⟨?_, Below.refl _ _⟩
    unfold readT readW
    by_cases h8 : t.size = 8
    · rw [if_pos h8, if_pos h8]
      cases hv : lowV 0 t.data.toList with
      | none => exact ⟨0, rfl, fun y hy => by cases hy⟩
      | some v =>
        by_cases hk : kd v = 4
        · simp only [sret]
          rw [if_pos hk]
          exact ⟨v, by simp [hk], fun y hy => by cases hy⟩
        · simp only [sret]
          rw [if_neg hk]
          exact ⟨v, by simp [hk], fun y hy => by cases hy; exact .inl ⟨rfl, hk⟩⟩
    · rw [if_neg h8, if_neg h8]
      exact ⟨0, rfl, fun y hy => by cases hy⟩
theorem splitL_len (c : UInt8) : ∀ l : List UInt8, (splitL c l).length = l.count c + 1
  | [] => by simp [splitL]
  | x :: r => by
    have ih := splitL_len c r
    rw [splitL]
    by_cases h : x = c
    · rw [if_pos h, List.length_cons, ih, h, List.count_cons_self]
    · rw [if_neg h, List.count_cons_of_ne (fun e => h e), ← ih]
      cases hs : splitL c r with
      | nil => rw [hs] at ih; simp at ih
      | cons a b => simp
theorem splitL_le (c : UInt8) : ∀ (l p : List UInt8), p ∈ splitL c l → p.length ≤ l.length
  | [], p, h => by simp [splitL] at h; subst h; simp
  | x :: r, p, h => by
    rw [splitL] at h
    by_cases hx : x = c
    · rw [if_pos hx] at h
      rcases List.mem_cons.1 h with h1 | h1
      · subst h1; simp
      · have := splitL_le c r p h1; simp; omega
    · rw [if_neg hx] at h
      cases hs : splitL c r with
      | nil => rw [hs] at h; simp at h; subst h; simp
      | cons a b =>
        rw [hs] at h
        rcases List.mem_cons.1 h with h1 | h1
        · have := splitL_le c r a (by rw [hs]; simp)
          subst h1; simp; omega
        · have := splitL_le c r p (by rw [hs]; simp [h1])
          simp; omega
theorem lowV_blank : ∀ (l : List UInt8) (acc : Nat), (32 : UInt8) ∈ l → lowV acc l = none
  | [], _, h => by cases h
  | c :: r, acc, h => by
    cases hd : lowD c.toNat with
    | none => exact lowV_none hd
    | some d =>
      rw [lowV_some hd]
      rcases List.mem_cons.1 h with h1 | h1
      · subst h1; cases hd
      · exact lowV_blank r _ h1
theorem readE_blank (t : ByteArray) (h : (32 : UInt8) ∈ t.data.toList) : readE t = none := by
  unfold readE
  rw [if_neg (by intro e; rw [e] at h; revert h; decide)]
  unfold readT readW
  rw [lowV_blank _ _ h]
  split <;> rfl
theorem bytes_ext {a b : ByteArray} (h : a.data.toList = b.data.toList) : a = b := by
  obtain ⟨⟨l⟩⟩ := a
  obtain ⟨⟨m⟩⟩ := b
  simp only at h
  rw [h]
/-- where there are not two texts, no point is read -/
theorem pointW_not (t : ByteArray) (h : (splitL 32 t.data.toList).length ≠ 2) : pointW t = none := by
  unfold pointW
  cases hi : Lib.indexByte t.data.toList 32 with
  | negSucc n => rfl
  | ofNat i =>
    simp only
    obtain ⟨h1, h2⟩ := Lib.indexByte_some (o := i) hi
    obtain ⟨h3, h4⟩ := List.getElem?_eq_some_iff.1 h1
    have hp : (32 : UInt8) ∈ (t.extract (i + 1) t.size).data.toList := by
      rw [extract_list]
      have hl : t.data.toList.length = t.size := by rw [Array.length_toList]; rfl
      rw [List.take_of_length_le (by rw [List.length_drop]; omega)]
      rw [splitL_len] at h
      have e : t.data.toList = t.data.toList.take i ++ 32 :: t.data.toList.drop (i + 1) := by
        rw [← h4, ← List.drop_eq_getElem_cons h3, List.take_append_drop]
      have hc : (t.data.toList.take i).count 32 = 0 := by
        rw [List.count_eq_zero]
        intro hm
        obtain ⟨k, hk, hk2⟩ := List.getElem_of_mem hm
        rw [List.length_take] at hk
        rw [List.getElem_take] at hk2
        exact h2 k (by omega) (by rw [← hk2]; exact List.getElem?_eq_getElem (by omega))
      rw [e, List.count_append, hc, List.count_cons_self] at h
      rw [← List.count_pos_iff]
      omega
    rw [readE_blank _ hp]
    split <;> simp_all
/-- where there are two, they are these -/
theorem pointW_two (t : ByteArray) (q0 q1 : ByteArray) (h : splitL 32 t.data.toList = [q0.data.toList, q1.data.toList]) :
    pointW t = match readE q0, readE q1 with
      | some a, some b => some (a, b)
      | _, _ => none := by
  unfold pointW
  have hcnt := splitL_len 32 t.data.toList
  rw [h] at hcnt
  have hmem : (32 : UInt8) ∈ t.data.toList := by rw [← List.count_pos_iff]; have h2 : 2 = t.data.toList.count 32 + 1 := hcnt; omega
  cases hi : Lib.indexByte t.data.toList 32 with
  | negSucc n =>
    exfalso
    have hn : Lib.indexByte t.data.toList 32 = -1 := by have := Lib.indexByte_ge t.data.toList 32; omega
    obtain ⟨k, hk, hk2⟩ := List.getElem_of_mem hmem
    exact Lib.indexByte_none hn k (by rw [← hk2]; exact List.getElem?_eq_getElem hk)
  | ofNat i =>
    simp only
    obtain ⟨h1, h2⟩ := Lib.indexByte_some (o := i) hi
    obtain ⟨h3, h4⟩ := List.getElem?_eq_some_iff.1 h1
    have hl : t.data.toList.length = t.size := by rw [Array.length_toList]; rfl
    have e : t.data.toList = t.data.toList.take i ++ 32 :: t.data.toList.drop (i + 1) := by
      rw [← h4, ← List.drop_eq_getElem_cons h3, List.take_append_drop]
    have hfree : ∀ x ∈ t.data.toList.take i, x ≠ 32 := by
      intro x hm hx
      obtain ⟨k, hk, hk2⟩ := List.getElem_of_mem hm
      rw [List.length_take] at hk
      rw [List.getElem_take] at hk2
      exact h2 k (by omega) (by rw [← hx, ← hk2]; exact List.getElem?_eq_getElem (by omega))
    have hs := splitL_at 32 _ (t.data.toList.drop (i + 1)) hfree
    rw [← e, h] at hs
    injection hs with ha hb
    have hrest : splitL 32 (t.data.toList.drop (i + 1)) = [q1.data.toList] := hb.symm
    have hfree2 : ∀ x ∈ t.data.toList.drop (i + 1), x ≠ 32 := by
      intro x hx hx2
      have hc := splitL_len 32 (t.data.toList.drop (i + 1))
      rw [hrest] at hc
      have : 0 < (t.data.toList.drop (i + 1)).count 32 := List.count_pos_iff.2 (hx2 ▸ hx)
      simp at hc
      omega
    rw [splitL_none _ _ hfree2] at hrest
    have e0 : t.extract 0 i = q0 := bytes_ext (by rw [extract_list, ha]; simp)
    have e1 : t.extract (i + 1) t.size = q1 := bytes_ext (by
      rw [extract_list, List.take_of_length_le (by rw [List.length_drop]; omega)]
      injection hrest)
    rw [e0, e1]
    rfl
end Go.Proofs.YtanepboepeijoaaDoor
