/-
  CONTRACTS: the program's readWords, CommonStart.
-/
import Derived.Test.YtdcphheeapmjcaaIrw
import Derived.Test.YtdcphheeapmjcaaGb
namespace Go.Proofs.Ytdcphheeapmjcaa
open Go.ChangeShapes Go.WideShapes Go.ChangeAt Go.RowKit
open Wd
/-- two words: rows of their letters -/
def TwoPost (u v : List UInt8) (w : World) (e : Ending) (w' : World) : Prop :=
  ∃ v1 v2, e = .returned (.tuple #[v1, v2, .int .i64 0]) ∧ LRow w'.heap.size w' v1 u ∧ LRow w'.heap.size w' v2 v ∧ Below w.heap.size w w'
def BadPost (w : World) (e : Ending) (w' : World) : Prop := (∃ v1 v2, e = .returned (.tuple #[v1, v2, .int .i64 1])) ∧ Below w.heap.size w w'
/-- what readWord answers -/
def ReadAs (w : World) (c : Int) (l : List UInt8) (e : Ending) (w' : World) : Prop := ∃ v, e = .returned (.tuple #[v, .int .i64 c]) ∧ (c = 0 → LRow w'.heap.size w' v l) ∧ Below w.heap.size w w'
theorem read_as (l : List UInt8) (hm : l.length ≤ 4000000) (w : World) :
    Calls Try.prog 64 #[.string (txt l)] w (ReadAs w (if wordB l then 0 else 1) l) := by
  cases h : wordB l
  · exact (read_no l hm h w).mono fun e w' ⟨h1, h2⟩ => ⟨_, h1, (fun h => by cases h), h2⟩
  · exact (read_yes l h w).mono fun e w' ⟨v, h1, h2, h3⟩ => ⟨v, h1, fun _ => h2.row, h3⟩
set_option maxHeartbeats 1000000 in
theorem words_core (u v : List UInt8) (hu : u.length ≤ 4000000) (hv : v.length ≤ 4000000) (w : World) :
    Calls Try.prog 77 #[.string (txt u), .string (txt v)] w fun e w' => ∃ v1 v2, e = .returned (.tuple #[v1, v2, .int .i64 (if (if wordB u then (0 : Int) else 1) = 0 then (if wordB v then 0 else 1) else (if wordB u then 0 else 1))]) ∧
      (wordB u = true → LRow w'.heap.size w' v1 u) ∧ (wordB v = true → LRow w'.heap.size w' v2 v) ∧ Below w.heap.size w w' := by
  have h1 := Lib.hid (read_as u hu)
  have h2 := Lib.hid (read_as v hv)
  have e1 : Hid (wordB u = true → (if wordB u then (0 : Int) else 1) = 0) := Lib.hid fun h => if_pos h
  have e2 : Hid (wordB v = true → (if wordB v then (0 : Int) else 1) = 0) := Lib.hid fun h => if_pos h
  generalize (if wordB u then (0 : Int) else 1) = c1 at h1 e1
  generalize (if wordB v then (0 : Int) else 1) = c2 at h2 e2
  have ho : Hid (∀ (g : Nat) (w : World), w.cell? ⟨g, 0, none⟩ = some (.int .i64 c1) → w.cell? ⟨g, 1, none⟩ = some (.int .i64 c2) → Calls Try.prog 62 #[.slice (some ⟨g, 0, none⟩) 2 2] w fun e w' => e = .returned (.int .i64 (if c1 = 0 then c2 else c1)) ∧ w = w') := Lib.hid fun g w h0 h1 => or64_any g c1 c2 w h0 h1
  generalize (if c1 = 0 then c2 else c1) = r at ho ⊢
  clear hu hv
  go_enter Try.func77, Try.ntmps77
  go_wp2_with fail
  refine (h1.out _).mono ?_
  rintro e w1 ⟨v1, rfl, r1, b1⟩
  have R1 := Lib.hid r1
  have B1 := Lib.hid b1
  clear r1 b1 h1
  go_wp2_with fail
  refine (h2.out _).mono ?_
  rintro e w2 ⟨v2, rfl, r2, b2⟩
  have R1' : Hid (c1 = 0 → LRow w2.heap.size w2 v1 u) := Lib.hid fun h => ((R1.out h).below b2).up b2.size
  have R2 := Lib.hid r2
  have B2 : Hid (Below w.heap.size w w2) := Lib.hid (B1.out.trans (b2.mono B1.out.size))
  clear r2 b2 h2 R1 B1
  go_wp2_with (go_at_call 62; refine (ho.out _ _ (by simp) (by simp)).mono ?_; rintro e w' ⟨rfl, rfl⟩)
  have A : Below w2.heap.size w2 (w2.alloc (.cells #[.int .i64 c1, .int .i64 c2] 2)) := (Below.refl _ _).alloc (Nat.le_refl _) _
  refine bodyPost_ret (v := .tuple #[v1, v2, .int .i64 r]) (by simp [results, Try.results77, go_sem]) rfl ?_
  exact ⟨v1, v2, rfl, fun h => LRow.up (n₀ := w2.heap.size) (by simp) ((R1'.out (e1.out h)).below A), fun h => LRow.up (n₀ := w2.heap.size) (by simp) ((R2.out (e2.out h)).below A), B2.out.alloc B2.out.size _⟩
theorem words_yes (u v : List UInt8) (hu : wordB u = true) (hv : wordB v = true) (w : World) :
    Calls Try.prog 77 #[.string (txt u), .string (txt v)] w (TwoPost u v w) := by
  have := words_core u v (by have := wordB_len hu; omega) (by have := wordB_len hv; omega) w
  rw [hu, hv] at this
  exact this.mono fun e w' ⟨v1, v2, h1, h2, h3, h4⟩ => ⟨v1, v2, h1, h2 rfl, h3 rfl, h4⟩
theorem words_no (u v : List UInt8) (hu : u.length ≤ 4000000) (hv : v.length ≤ 4000000) (h : (wordB u && wordB v) = false) (w : World) :
    Calls Try.prog 77 #[.string (txt u), .string (txt v)] w (BadPost w) := by
  refine (words_core u v hu hv w).mono ?_
  rintro e w' ⟨v1, v2, h1, -, -, h4⟩
  refine ⟨⟨v1, v2, ?_⟩, h4⟩
  rw [h1]
  cases hu : wordB u
  · simp
  · rw [hu] at h
    simp only [Bool.true_and] at h
    rw [h]; rfl
end Go.Proofs.Ytdcphheeapmjcaa
