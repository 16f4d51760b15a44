import Derived.Test.YtaodckhfmdiifaaKey
import Derived.OwnWalk
import Derived.Lib.Hide
namespace Go.Proofs.Ytaodckhfmdiifaa
open Go.ChangeShapes Go.WideShapes Go.ChangeAt Go.RowKit
open Fl
def keyF (r m : Nat) : Nat → Int
  | 0 => (r : Int) / 16777216 % 256
  | 1 => (r : Int) / 65536 % 256
  | 2 => (r : Int) / 256 % 256
  | 3 => (r : Int) % 256
  | 4 => (m : Int) / 16777216 % 256
  | 5 => (m : Int) / 65536 % 256
  | 6 => (m : Int) / 256 % 256
  | _ => (m : Int) % 256
set_option maxRecDepth 8000 in
theorem l02Key_any (a b : Nat) (ha : W32 a) (hb : W32 b) (w : World) :
    Calls Try.prog 39 #[.complex .f32 a b] w fun e w' => e = .returned (.agg (arr .u8 8 (keyF (can a) (can b)))) ∧ Below w.heap.size w w' := by
  have hc : W32 (can a) := by unfold can W32 at *; split <;> omega
  have hd : W32 (can b) := by unfold can W32 at *; split <;> omega
  go_enter Try.func39, Try.ntmps39
  go_wp2_with (first | (go_at_call 52; first | (refine (l02Bits_any _ ha _).mono ?_; rintro e w' ⟨rfl, rfl⟩) | (refine (l02Bits_any _ hb _).mono ?_; rintro e w' ⟨rfl, rfl⟩)))
  refine wp_loop_rounds 5 ?_
  rw [rounds_succ]
  go_wp2
  rw [rounds_succ]
  go_wp2
  rw [rounds_succ]
  go_wp2
  rw [rounds_succ]
  go_wp2
  rw [rounds_succ]
  go_wp2
  refine bodyPost_ret (v := .agg (arr .u8 8 (keyF (can a) (can b)))) (by simp [results, Try.results39, go_sem]; rfl) rfl ⟨rfl, ?_⟩
  exact ((Below.refl _ _).alloc (Nat.le_refl _) _).alloc (by simp) _
theorem own_alloc {w : World} {base : Nat} {e : TypeId} {size : Nat} {v : Value} {n : Nat} {xs : List Value} (h : w.ownsRow base e size v n xs) (o : Obj) : (w.alloc o).ownsRow base e size v n xs := by
  refine h.kept (World.grownBy_alloc w o none) ?_
  cases hv : v.ownBlock with
  | none => exact .inl rfl
  | some k => exact .inr (by simp)
def wordL (r : Nat) : List Value := [.int .u8 (keyF r 0 0), .int .u8 (keyF r 0 1), .int .u8 (keyF r 0 2), .int .u8 (keyF r 0 3)]
theorem wordL_at (w : World) (r : Nat) (t : TypeId) : ∀ j u, (wordL r)[j]? = some u → (w.alloc (.cells #[.int .u8 ((r : Int) / 16777216 % 256), .int .u8 ((r : Int) / 65536 % 256), .int .u8 ((r : Int) / 256 % 256), .int .u8 ((r : Int) % 256)] t)).cell? ((⟨w.heap.size, 0, none⟩ : Addr).add j) = some u := by
  intro j u h
  have e : (⟨w.heap.size, 0, none⟩ : Addr).add j = ⟨w.heap.size, j, none⟩ := by rw [Go.WideShapes.add_plain, Nat.zero_add]
  rw [e, World.cell?_alloc_new]
  match j, h with
  | 0, h => exact h
  | 1, h => exact h
  | 2, h => exact h
  | 3, h => exact h
  | k + 4, h => simp [wordL] at h
theorem wordL_one (r : Nat) : ∀ u ∈ wordL r, u.oneCell' = true := by
  intro u hu
  simp [wordL] at hu
  rcases hu with rfl | rfl | rfl | rfl <;> rfl
set_option maxRecDepth 8000 in
theorem appendWord_any (v : Value) (n : Nat) (xs : List Value) (base r : Nat) (hr : W32 r) (w : World) (hn : n ≤ 100) (hb : base ≤ w.heap.size) (ho : w.ownsRow base 5 1 v n xs) :
    Calls Try.prog 40 #[v, .int .u32 (r : Nat)] w fun e w' => ∃ v', e = .returned v' ∧ w'.ownsRow base 5 1 v' (n + 4) (xs ++ wordL r) ∧ Below base w w' := by
  have HO := Lib.hid ho
  have HB := Lib.hid hb
  have hl := fun k (h : v.ownBlock = some k) => (ho.lt k h).1
  have HL := Lib.hid hl
  clear ho hb hl
  go_enter Try.func40, Try.ntmps40
  go_wp2_with (at_builtin; refine wpList_append_own _ rfl (.tmp 5) (.tmp 17) 55 rfl base 5 Try.t5 (.int .u8 0) 1 1 Try.underlying55 (by kernel_rfl) (by kernel_rfl) (by kernel_rfl) (by kernel_rfl) (by kernel_rfl) (by decide) v n xs rfl (own_alloc HO.out _) ⟨w.heap.size, 0, none⟩ 4 4 (wordL r) rfl rfl (wordL_at _ _ _) (wordL_one r) (by unfold maxLen; omega) (by omega) (by have := HB.out; simp; omega) ?_; intro v' w' h1 h2 _; have H1 := Lib.hid h1; have H2 := Lib.hid h2; clear h1 h2)
  go_ret
  refine ⟨_, rfl, H1.out, ?_⟩
  exact (((Below.refl base w).alloc HB.out _).grown H2.out (by have := HB.out; simp; omega) (fun k hk => HL.out k hk))
theorem run_arrayAt {P : Program} (t e : TypeId) (n : Nat) (a : Option Addr) (len cap : Nat) (h : P.underlying t = some (.array n e)) (hl : n ≤ len) (w : World) : (Instr.arrayAt t (.slice a len cap)).run P w = .ok (.pointer a) w := by
  have : ¬ len < n := by omega
  simp [Instr.arrayAt, run_underlying h, this]
theorem own_bytes {w : World} {base : Nat} {e : TypeId} {v : Value} {n : Nat} {xs : List Value} (h : w.ownsRow base e 1 v n xs) (hn : 0 < n) : ∃ g cap, v = .slice (some ⟨g, 0, none⟩) n cap ∧ base ≤ g ∧ ∀ j, j < n → w.cell? ⟨g, j, none⟩ = xs[j]? := by
  rcases h.2 with ⟨_, h0⟩ | ⟨g, cap, cur, hv, hb, _⟩
  · omega
  · subst hv
    exact ⟨g, cap, rfl, hb, fun j hj => h.cellAt j (by omega)⟩
/-- a row of cells is read as an array -/
theorem run_loadVar_arr {P : Program} {ty e : TypeId} {n : Nat} {k : IntKind} (f : Nat → Int) (g off : Nat) (w : World) (hu : P.underlying ty = some (.array n e)) (hi : (P.info? ty).map (·.size) = some n)
    (hc : ∀ j, j < n → w.cell? ⟨g, off + j, none⟩ = some (.int k (f j))) : (loadVar ty ⟨g, off, none⟩).run P w = .ok (.agg (arr k n f)) w := by
  have hl : (loadCells ⟨g, off, none⟩ n).run P w = .ok (arr k n f) w := by
    have h := run_loadCells_list (P := P) w ⟨g, off, none⟩ (arr k n f).toList (fun j v hv => by
      rw [Go.WideShapes.add_plain]
      by_cases hj : j < n
      · rw [hc j hj, ← arr_get k n f j hj]; simpa using hv
      · have := arr_none k n f j (by omega)
        simp [this] at hv)
    simpa [arr_size] using h
  cases hq : P.info? ty with
  | none => simp [hq] at hi
  | some i =>
    have hs : i.size = n := by simpa [hq] using hi
    have hagg : (isAgg ty).run P w = .ok true w := by
      unfold isAgg
      rw [Sem.run_bind, run_underlying hu w]; rfl
    simp [loadVar, Sem.run_bind, hagg, sizeOf, typeInfo, hq, hs, hl]
end Go.Proofs.Ytaodckhfmdiifaa
