/-
  CONTRACTS: the check of a payload with an index: the specification's.
-/
import Derived.Test.YtkijgadkgfapgaaFw
namespace Go.Proofs.Ytkijgadkgfapgaa
open Go.ChangeShapes Go.WideShapes Go.ChangeAt Go.RowKit
theorem in09_yes (n l r : Int) (h1 : l ≤ n) (h2 : n ≤ r) (w : World) :
    Calls Try.prog 58 #[.int .i64 n, .int .i64 l, .int .i64 r] w fun e w' => e = .returned (.bool true) ∧ w = w' := by
  have g1 : decide (l ≤ n) = true := by simpa using h1
  have g2 : decide (n ≤ r) = true := by simpa using h2
  go_enter Try.func58, Try.ntmps58
  go_wp2
  go_ret
  exact ⟨rfl, rfl⟩
theorem in09_no (n l r : Int) (h : n < l ∨ r < n) (w : World) :
    Calls Try.prog 58 #[.int .i64 n, .int .i64 l, .int .i64 r] w fun e w' => e = .returned (.bool false) ∧ w = w' := by
  rcases h with h | h
  · have g1 : decide (l ≤ n) = false := by simp; omega
    go_enter Try.func58, Try.ntmps58
    go_wp2
    go_ret
    exact ⟨rfl, rfl⟩
  · by_cases hl : l ≤ n
    · have g1 : decide (l ≤ n) = true := by simpa using hl
      have g2 : decide (n ≤ r) = false := by simp; omega
      go_enter Try.func58, Try.ntmps58
      go_wp2
      go_ret
      exact ⟨rfl, rfl⟩
    · have g1 : decide (l ≤ n) = false := by simp; omega
      go_enter Try.func58, Try.ntmps58
      go_wp2
      go_ret
      exact ⟨rfl, rfl⟩

/-- one byte more is taken into the check -/
def ckS (c b : Int) : Int := bits .xor .u32 c (b % 4294967296) * 16777619 % 4294967296
/-- the check of the first k bytes -/
def ckF (q : Nat → Int) : Nat → Int
  | 0 => 2166136261
  | k + 1 => ckS (ckF q k) (q k)
theorem ckS_range (c b : Int) : 0 ≤ ckS c b ∧ ckS c b ≤ 4294967295 := by
  unfold ckS
  omega
theorem ckF_range (q : Nat → Int) (k : Nat) : 0 ≤ ckF q k ∧ ckF q k ≤ 4294967295 := by
  cases k with
  | zero => simp [ckF]
  | succ k => exact ckS_range _ _
theorem ckF_congr {q r : Nat → Int} : ∀ {k : Nat}, (∀ j, j < k → q j = r j) → ckF q k = ckF r k
  | 0, _ => rfl
  | k + 1, h => by
    show ckS (ckF q k) (q k) = ckS (ckF r k) (r k)
    rw [ckF_congr (fun j hj => h j (by omega)), h k (by omega)]
/-- the check of a payload with an index -/
def chk (i : Nat) (p : Nat → Int) : Nat := (ckF (catU (byW i) 4 p) 16).toNat
theorem chk_lt (i : Nat) (p : Nat → Int) : chk i p < 4294967296 := by
  have := ckF_range (catU (byW i) 4 p) 16
  unfold chk
  omega
theorem chk_int (i : Nat) (p : Nat → Int) : ckF (catU (byW i) 4 p) 16 = ((chk i p : Nat) : Int) := by
  have := ckF_range (catU (byW i) 4 p) 16
  unfold chk
  omega
theorem four_any (r : Nat) (hr : r < 4294967296) (base : Nat) (w : World) (hb : base ≤ w.heap.size) :
    Calls Try.prog 116 #[.int .u32 (r : Int)] w fun e w' => ∃ v, e = .returned v ∧ OwnU base v 4 (byW r) w' ∧ Below w.heap.size w w' := by
  have HB := Lib.hid hb
  clear hb hr
  go_enter Try.func116, Try.ntmps116
  go_wp2
  go_ret
  refine ⟨_, rfl, ⟨rfl, .inr ⟨w.heap.size, 4, _, rfl, HB.out, heap_alloc_new w _, Nat.le_refl _, by unfold maxLen; omega, rfl, rfl⟩⟩, (Below.refl _ _).alloc (Nat.le_refl _) _⟩
set_option maxRecDepth 8000 in
theorem appendWord_own (v : Value) (n : Nat) (q : Nat → Int) (base r : Nat) (w : World) (hn : n ≤ 10000000) (hb : base ≤ w.heap.size) (ho : OwnU base v n q w) :
    Calls Try.prog 86 #[v, .int .u32 (r : Int)] w fun e w' => ∃ v', e = .returned v' ∧ OwnU base v' (n + 4) (catU q n (byW r)) w' ∧ Below base w w' := by
  have HO := Lib.hid ho
  have HB := Lib.hid hb
  clear ho hb
  go_enter Try.func86, Try.ntmps86
  go_wp2_with (at_builtin; refine wpList_append_u rfl (.tmp 5) (.tmp 17) rfl base v n q rfl (HO.out.alloc _) w.heap.size 0 4 4 (byW r) rfl (fun j hj => by rw [Nat.zero_add]; have := cells4_at w r j _ (rowU_get _ _ _ hj); rwa [Go.WideShapes.add_plain, Nat.zero_add] at this) (by omega) (by have := HB.out; simp; omega) w ((Below.refl base w).alloc HB.out _) ?_; intro v' w' h1 h2; have H1 := Lib.hid h1; have H2 := Lib.hid h2; clear h1 h2)
  go_ret
  exact ⟨_, rfl, H1.out, H2.out⟩
set_option maxRecDepth 8000 in
theorem appendWord_full (g off n : Nat) (q : Nat → Int) (base r : Nat) (w : World) (hn : n ≤ 10000) (hb : base ≤ w.heap.size) (hg : g < w.heap.size) (hq : ∀ j, j < n → w.cell? ⟨g, off + j, none⟩ = some (.int .u8 (q j))) :
    Calls Try.prog 86 #[.slice (some ⟨g, off, none⟩) n n, .int .u32 (r : Int)] w fun e w' => ∃ v', e = .returned v' ∧ OwnU base v' (n + 4) (catU q n (byW r)) w' ∧ Below w.heap.size w w' := by
  have HB := Lib.hid hb
  have HQ : Hid (∀ j, j < n → (w.alloc (.cells #[.int .u8 ((r : Int) / 16777216 % 256), .int .u8 ((r : Int) / 65536 % 256), .int .u8 ((r : Int) / 256 % 256), .int .u8 ((r : Int) % 256)] 5)).cell? ⟨g, off + j, none⟩ = some (.int .u8 (q j))) := Lib.hid (fun j hj => by
    rw [((Below.refl _ w).alloc (Nat.le_refl _) _).cell (p := ⟨g, off + j, none⟩) hg]; exact hq j hj)
  clear hb hq hg
  go_enter Try.func86, Try.ntmps86
  go_wp2_with (at_builtin; refine wpList_append_full rfl (.tmp 5) (.tmp 17) rfl g off n q rfl HQ.out w.heap.size 0 4 4 (byW r) rfl (fun j hj => by rw [Nat.zero_add]; have := cells4_at w r j _ (rowU_get _ _ _ hj); rwa [Go.WideShapes.add_plain, Nat.zero_add] at this) (by omega) (by omega) w.heap.size (by simp) w ((Below.refl _ w).alloc (Nat.le_refl _) _) ?_; intro v' w' h1 h2; have H1 := Lib.hid h1; have H2 := Lib.hid h2; clear h1 h2)
  go_ret
  exact ⟨_, rfl, OwnU.base HB.out H1.out, H2.out⟩
end Go.Proofs.Ytkijgadkgfapgaa
