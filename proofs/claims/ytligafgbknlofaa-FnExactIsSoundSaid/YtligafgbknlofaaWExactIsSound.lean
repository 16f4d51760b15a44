/-
  THE WALK of the law, whole.
-/
import Derived.Test.YtligafgbknlofaaGb
namespace Go.Proofs.Ytligafgbknlofaa
open Go.ChangeShapes Go.WideShapes Go.ChangeAt Go.RowKit
theorem by_of_wf {n : Nat} {p : Nat → Int} (h : ∀ i, i < n → (Lit.int .u8 (p i)).wf = true) : ByF n p := fun i hi => by
  have := h i hi
  simp [Lit.wf, IntKind.min, IntKind.max, IntKind.bits, IntKind.signed] at this
  omega
set_option maxRecDepth 20000 in
set_option maxHeartbeats 4000000 in
theorem fnExactIsSound_walk (f : Nat → Int) (hf : ∀ i, i < 16 → (Lit.int .u8 (f i)).wf = true) (i : Int) (hi : (Lit.int .i64 i).wf = true) (w : World) :
    Calls Try.prog 6 #[.agg (Q16 f), .int .i64 i] w fun e w' => e = .returned (.bool true) ∧ Below w.heap.size w w' := by
  have TO := Lib.hid (toFrame_any f)
  have SC := Lib.hid (sSound_any i f (by_of_wf hf))
  have IC := Lib.hid (iSound_any i f (by_of_wf hf))
  obtain ⟨m, hm⟩ : ∃ m, sndX i f = m := ⟨_, rfl⟩
  obtain ⟨d, hd⟩ : ∃ d, codeX i = d := ⟨_, rfl⟩
  rw [hm, hd] at SC IC
  clear hm hd hf hi
  obtain ⟨w1, hw1⟩ : ∃ w1, w.alloc (.cells (Q16 f) 28) = w1 := ⟨_, rfl⟩
  have B1 : Hid (Below w.heap.size w w1) := Lib.hid (by rw [← hw1]; exact (Below.refl _ _).alloc (Nat.le_refl _) _)
  have A1 : Hid (w1.heap[w.heap.size]? = some (.cells (Q16 f) 28 (0, 0))) := Lib.hid (by rw [← hw1]; exact World.alloc_heap_new w _)
  have LA1 : Hid (w.heap.size < w1.heap.size) := Lib.hid (by rw [← hw1]; simp)
  go_enter Try.func6, Try.ntmps6
  go_wp2_with (refine wpList_load_row rfl 28 _ rfl w.heap.size rfl 28 _ _ _ A1.out Try.underlying28 rfl (f16_info _ (arr_size _ _ _)) ?_)
  refine Calls.mono (TO.out _) ?_
  rintro e w2 ⟨rfl, b⟩
  have A2 := Lib.hid ((b.block w.heap.size LA1.out).trans A1.out)
  have LA2 : Hid (w.heap.size < w2.heap.size) := Lib.hid (Nat.lt_of_lt_of_le LA1.out b.size)
  have B2 := Lib.hid (B1.out.trans (b.mono (Nat.le_of_lt LA1.out)))
  clear b
  clear hw1
  go_wp2_with fail
  refine Calls.mono (SC.out _) ?_
  rintro e w3 ⟨rfl, b⟩
  have A3 := Lib.hid ((b.block w.heap.size LA2.out).trans A2.out)
  have LA3 : Hid (w.heap.size < w3.heap.size) := Lib.hid (Nat.lt_of_lt_of_le LA2.out b.size)
  have B3 := Lib.hid (B2.out.trans (b.mono (Nat.le_of_lt LA2.out)))
  clear b
  go_wp2_with (refine wpList_load_row rfl 28 _ rfl w.heap.size rfl 28 _ _ _ A3.out Try.underlying28 rfl (f16_info _ (arr_size _ _ _)) ?_)
  refine Calls.mono (TO.out _) ?_
  rintro e w4 ⟨rfl, b⟩
  have A4 := Lib.hid ((b.block w.heap.size LA3.out).trans A3.out)
  have LA4 : Hid (w.heap.size < w4.heap.size) := Lib.hid (Nat.lt_of_lt_of_le LA3.out b.size)
  have B4 := Lib.hid (B3.out.trans (b.mono (Nat.le_of_lt LA3.out)))
  clear b
  go_wp2_with fail
  refine Calls.mono (IC.out _) ?_
  rintro e w5 ⟨rfl, b⟩
  have A5 := Lib.hid ((b.block w.heap.size LA4.out).trans A4.out)
  have LA5 : Hid (w.heap.size < w5.heap.size) := Lib.hid (Nat.lt_of_lt_of_le LA4.out b.size)
  have B5 := Lib.hid (B4.out.trans (b.mono (Nat.le_of_lt LA4.out)))
  clear b
  go_wp2
  go_ret
  exact ⟨rfl, B5.out⟩
end Go.Proofs.Ytligafgbknlofaa
