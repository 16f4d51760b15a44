/-
  WHAT THE TABLES OF FnCells SAY.
-/
import Derived.Test.YtaihooljphkpeaaCl
namespace Go.Proofs.Ytaihooljphkpeaa.Fl
theorem pair_ok (k j : Nat) (hk : k < 129) (hj : j < 16) : pairOk k j = true := by
  have h : ((List.range 129).all fun k => pairOk k j) = true := by
    have hc : j = 0 ∨ j = 1 ∨ j = 2 ∨ j = 3 ∨ j = 4 ∨ j = 5 ∨ j = 6 ∨ j = 7 ∨ j = 8 ∨ j = 9 ∨ j = 10 ∨ j = 11 ∨ j = 12 ∨ j = 13 ∨ j = 14 ∨ j = 15 := by omega
    rcases hc with rfl | rfl | rfl | rfl | rfl | rfl | rfl | rfl | rfl | rfl | rfl | rfl | rfl | rfl | rfl | rfl
    · exact pairs0
    · exact pairs1
    · exact pairs2
    · exact pairs3
    · exact pairs4
    · exact pairs5
    · exact pairs6
    · exact pairs7
    · exact pairs8
    · exact pairs9
    · exact pairs10
    · exact pairs11
    · exact pairs12
    · exact pairs13
    · exact pairs14
    · exact pairs15
  exact List.all_eq_true.1 h k (by simpa using hk)
theorem pl_ok (k : Nat) (hk : k < 129) : floatBits .quo .f32 (floatOfInt .f32 ((k : Int) - 64)) 1090519040 = some (plB k) := by
  have := List.all_eq_true.1 all_pl k (by simpa using hk)
  simpa [plOk] using this
structure SideOk (s : Nat) : Prop where
  w : W32 s
  fin : kd s < 3
  pos : (FloatKind.f32.format.order s 0 == some .gt) = true
theorem sd_ok (j : Nat) (hj : j < 16) : floatBits .quo .f32 (floatOfInt .f32 (1 + (j : Int))) 1082130432 = some (sdB j) ∧ SideOk (sdB j) := by
  have := List.all_eq_true.1 all_sd j (by simpa using hj)
  unfold sdOk at this
  simp only [Bool.and_eq_true, decide_eq_true_eq] at this
  obtain ⟨⟨⟨h1, h2⟩, h3⟩, h4⟩ := this
  exact ⟨h1, h2, h3, h4⟩
/-- the cell of a coordinate a is c -/
structure PartOk (a s : Nat) (c : Int) : Prop where
  w : W32 a
  fin : kd a < 3
  quo : floatBits .quo .f64 (widen a) (widen s) = some (qB a s)
  num : isNum64 (qB a s) = true
  ge : geq64 (flB a s) 13965662444475908096 = true
  le : leq64 (flB a s) 4742290407621132288 = true
  cut : floatToIntVal .f64 (flB a s) .i32 = some c
structure CornerOk (c : Int) (s : Nat) : Prop where
  ge : geq64 (floatOfInt .f64 c) 13965662444475908096 = true
  le : leq64 (floatOfInt .f64 c) 4742290407621132288 = true
  mul : floatBits .mul .f64 (floatOfInt .f64 c) (widen s) = some (mulB c s)
  cut : floatToFloatBits .f64 (mulB c s) .f32 = some (coB c s)
theorem part_of {a s : Nat} {c : Int} (h : partOk a s c = true) : PartOk a s c := by
  unfold partOk cellNum at h
  simp only [Bool.and_eq_true, decide_eq_true_eq] at h
  obtain ⟨⟨⟨⟨⟨h1, h2⟩, h3⟩, h4⟩, h5, h6⟩, h7⟩ := h
  exact ⟨h1, h2, h3, h4, h5, h6, h7⟩
theorem corner_of {c : Int} {s : Nat} (h : cornerOk c s = true) : CornerOk c s := by
  unfold cornerOk cellNum at h
  simp only [Bool.and_eq_true, decide_eq_true_eq] at h
  obtain ⟨⟨⟨h1, h2⟩, h3⟩, h4⟩ := h
  exact ⟨h1, h2, h3, h4⟩
structure PairOk (a s : Nat) (c : Int) : Prop where
  part : PartOk a s c
  lo : -1000 ≤ c
  hi : c ≤ 1000
  corner : CornerOk c s
  next : CornerOk (c + 1) s
  same : PartOk (coB c s) s c
  notGt : (FloatKind.f32.format.order (coB c s) a == some .gt) = false
  notLt : (FloatKind.f32.format.order (coB (c + 1) s) a == some .lt) = false
  notEq : (FloatKind.f32.format.order (coB (c + 1) s) a == some .eq) = false
theorem pair_all (k j : Nat) (hk : k < 129) (hj : j < 16) : PairOk (plB k) (sdB j) (ceB (plB k) (sdB j)) := by
  have h := pair_ok k j hk hj
  unfold pairOk at h
  simp only [Bool.and_eq_true, decide_eq_true_eq, Bool.not_eq_true', Bool.or_eq_false_iff] at h
  obtain ⟨⟨⟨⟨⟨⟨⟨h1, h2⟩, h3⟩, h4⟩, h5⟩, h6⟩, h7⟩, h8, h9⟩ := h
  exact ⟨part_of h1, h2, h3, corner_of h4, corner_of h5, part_of h6, h7, h8, h9⟩
end Go.Proofs.Ytaihooljphkpeaa.Fl
