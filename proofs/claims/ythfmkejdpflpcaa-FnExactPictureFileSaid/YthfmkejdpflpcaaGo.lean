/-
  CONTRACTS: PackFrames of both sides.
-/
import Derived.Test.YthfmkejdpflpcaaGn
namespace Go.Proofs.Ythfmkejdpflpcaa
open Go.ChangeShapes Go.WideShapes Go.ChangeAt Go.RowKit
theorem hdC_bad {k c : Int} {n : Nat} (h : ¬ (1 ≤ k ∧ k ≤ 3 ∧ 0 ≤ c ∧ c ≤ 256)) : hdC k c n = 2 := by
  unfold hdC
  have : hdOk k c = false := by
    unfold hdOk
    cases hx : (decide (k = 1) || decide (k = 2) || decide (k = 3)) && decide (0 ≤ c) && decide (c ≤ 256) with
    | false => rfl
    | true => simp at hx; omega
  rw [this]; exact if_neg (by decide)
theorem hdOk_of {k c : Int} (h : 1 ≤ k ∧ k ≤ 3 ∧ 0 ≤ c ∧ c ≤ 256) : hdOk k c = true := by unfold hdOk; simp; omega
theorem hdC_big {k c : Int} {n : Nat} (h : 1 ≤ k ∧ k ≤ 3 ∧ 0 ≤ c ∧ c ≤ 256) (hn : 8192 < n) : hdC k c n = 3 := by
  unfold hdC; rw [if_pos (hdOk_of h), if_pos hn]
theorem hdC_ok {k c : Int} {n : Nat} (h : 1 ≤ k ∧ k ≤ 3 ∧ 0 ≤ c ∧ c ≤ 256) (hn : n ≤ 8192) : hdC k c n = 0 := by
  unfold hdC; rw [if_pos (hdOk_of h), if_neg (by omega)]
/-- how many frames PackFrames answers with -/
def pkM (k c : Int) (n : Nat) : Nat := if hdC k c n = 0 then pkN n else 0
theorem pkM_le (k c : Int) (n : Nat) (hn : n ≤ 1048576) : pkM k c n ≤ 1048576 := by unfold pkM pkN; split <;> omega
def pkW (k c : Int) (n : Nat) (f : Nat → Int) : Nat → Int := pkF (catU (hdF k.toNat c.toNat n) 12 f) (12 + n)
/-- what both sides answer -/
def PkPost (k c : Int) (n : Nat) (f : Nat → Int) (w : World) : Ending → World → Prop := fun e w' => ∃ v, e = .returned (.tuple #[v, .int .i64 (hdC k c n)]) ∧ PR 16 w.heap.size w'.heap.size w' v (pkM k c n) (FF (pkW k c n f)) ∧ Below w.heap.size w w'
theorem PkPost.empty {k c : Int} {n : Nat} {f : Nat → Int} {w w' : World} {a : Option Addr} {C : Int} (hC : hdC k c n = C) (h0 : C ≠ 0) (hb : Below w.heap.size w w') : PkPost k c n f w (.returned (.tuple #[.slice a 0 0, .int .i64 C])) w' :=
  ⟨_, by rw [hC], by unfold pkM; rw [if_neg (by rw [hC]; exact h0)]; exact PR.empty _ _ _ _ _ _ _, hb⟩
theorem PkPost.full {k c n : Nat} {f : Nat → Int} {w w' : World} {v : Value} (hC : hdC k c n = 0) (h : OwnFr w.heap.size v (pkN n) (pkF (catU (hdF k c n) 12 f) (12 + n)) w') (hb : Below w.heap.size w w') : PkPost k c n f w (.returned (.tuple #[v, .int .i64 0])) w' :=
  ⟨v, by rw [hC], by unfold pkM; rw [if_pos hC]; exact h.pr, hb⟩
set_option maxRecDepth 20000 in
set_option maxHeartbeats 4000000 in
theorem iPack_any (k c : Int) (n : Nat) (hn : n ≤ 1048576) (f : Nat → Int) (hf : ByF n f) (a : Option Addr) (cap : Nat) (w : World) (h : YrR w.heap.size w a n f) :
    Calls Try.prog 123 #[.int .i64 k, .int .i64 c, .slice a n cap] w (PkPost k c n f w) := by
  by_cases hk : 1 ≤ k ∧ k ≤ 3 ∧ 0 ≤ c ∧ c ≤ 256
  · by_cases hb : 8192 < n
    · have HC := Lib.hid (hcode_any k c n (by omega))
      have E := hdC_big hk hb
      have P : Hid (∀ w' a, Below w.heap.size w w' → PkPost k c n f w (.returned (.tuple #[.slice a 0 0, .int .i64 3])) w') := Lib.hid fun w' a hb => PkPost.empty E (by decide) hb
      rw [E] at HC
      clear E hk hb h hf
      have B0 : Hid (Below w.heap.size w (w.alloc (.cells #[.int .i64 k, .int .i64 c, .int .i64 (n : Int)] 175))) := Lib.hid ((Below.refl _ w).alloc (Nat.le_refl _) _)
      go_enter Try.func123, Try.ntmps123
      go_wp2_with fail
      refine (HC.out _).mono ?_
      rintro e w1 ⟨rfl, b⟩
      have B1 := Lib.hid (B0.out.trans (b.mono B0.out.size))
      clear b B0
      go_wp2
      go_ret2
      exact P.out _ _ B1.out
    · obtain ⟨K, rfl⟩ : ∃ K : Nat, k = (K : Int) := ⟨k.toNat, by omega⟩
      obtain ⟨C, rfl⟩ : ∃ C : Nat, c = (C : Int) := ⟨c.toNat, by omega⟩
      refine (callsIn_wide.1 (ipack_in Fence.wide rfl 3 (Nat.le_refl _) K C n (by omega) (by omega) (by omega) (by omega) f hf a cap w h)).mono ?_
      rintro e w' ⟨v, rfl, h1, h2⟩
      exact PkPost.full (hdC_ok hk (by omega)) h1 h2
  · have HC := Lib.hid (hcode_any k c n (by omega))
    have E := hdC_bad (n := n) hk
    have P : Hid (∀ w' a, Below w.heap.size w w' → PkPost k c n f w (.returned (.tuple #[.slice a 0 0, .int .i64 2])) w') := Lib.hid fun w' a hb => PkPost.empty E (by decide) hb
    rw [E] at HC
    clear E hk h hf
    have B0 : Hid (Below w.heap.size w (w.alloc (.cells #[.int .i64 k, .int .i64 c, .int .i64 (n : Int)] 175))) := Lib.hid ((Below.refl _ w).alloc (Nat.le_refl _) _)
    go_enter Try.func123, Try.ntmps123
    go_wp2_with fail
    refine (HC.out _).mono ?_
    rintro e w1 ⟨rfl, b⟩
    have B1 := Lib.hid (B0.out.trans (b.mono B0.out.size))
    clear b B0
    go_wp2
    go_ret2
    exact P.out _ _ B1.out
set_option maxRecDepth 20000 in
set_option maxHeartbeats 4000000 in
theorem sPack_any (k c : Int) (n : Nat) (hn : n ≤ 1048576) (f : Nat → Int) (hf : ByF n f) (a : Option Addr) (cap : Nat) (w : World) (h : YrR w.heap.size w a n f) :
    Calls Try.prog 127 #[.int .i64 k, .int .i64 c, .slice a n cap] w (PkPost k c n f w) := by
  have BE : Hid (Below w.heap.size w (w.alloc (.cells #[] 104))) := Lib.hid ((Below.refl _ w).alloc (Nat.le_refl _) _)
  by_cases hk : 1 ≤ k ∧ k ≤ 3
  · by_cases hc : 0 ≤ c ∧ c ≤ 256
    · by_cases hb : 8192 < n
      · have E := hdC_big (n := n) (k := k) (c := c) ⟨hk.1, hk.2, hc⟩ hb
        have P : Hid (∀ w' a, Below w.heap.size w w' → PkPost k c n f w (.returned (.tuple #[.slice a 0 0, .int .i64 3])) w') := Lib.hid fun w' a hb => PkPost.empty E (by decide) hb
        have hbI : (8192 : Int) < (n : Int) := by omega
        clear E hb h hf hn
        go_enter Try.func127, Try.ntmps127
        go_wp2_with fail
        refine (in09_yes k 1 3 hk.1 hk.2 w).mono ?_
        rintro e x ⟨rfl, rfl⟩
        go_wp2_with fail
        refine (in09_yes c 0 256 hc.1 hc.2 w).mono ?_
        rintro e x ⟨rfl, rfl⟩
        go_wp2
        go_ret2
        exact P.out _ _ BE.out
      · obtain ⟨K, rfl⟩ : ∃ K : Nat, k = (K : Int) := ⟨k.toNat, by omega⟩
        obtain ⟨C, rfl⟩ : ∃ C : Nat, c = (C : Int) := ⟨c.toNat, by omega⟩
        have E := hdC_ok (n := n) (k := K) (c := C) ⟨hk.1, hk.2, hc⟩ (by omega)
        have L := Lib.hid (lpack_any K C n (by omega) (by omega) (by omega) (by omega) f hf a cap w h)
        have P : Hid (∀ v w', OwnFr w.heap.size v (pkN n) (pkF (catU (hdF K C n) 12 f) (12 + n)) w' → Below w.heap.size w w' → PkPost K C n f w (.returned (.tuple #[v, .int .i64 0])) w') := Lib.hid fun v w' h1 h2 => PkPost.full E h1 h2
        have hbI : (n : Int) ≤ 8192 := by omega
        clear E hb h hf hn
        go_enter Try.func127, Try.ntmps127
        go_wp2_with fail
        refine (in09_yes K 1 3 hk.1 hk.2 w).mono ?_
        rintro e x ⟨rfl, rfl⟩
        go_wp2_with fail
        refine (in09_yes C 0 256 hc.1 hc.2 w).mono ?_
        rintro e x ⟨rfl, rfl⟩
        go_wp2_with fail
        refine L.out.mono ?_
        rintro e w1 ⟨v, rfl, h1, h2⟩
        have H1 := Lib.hid h1
        have H2 := Lib.hid h2
        clear h1 h2 L
        go_wp2
        go_ret2
        exact P.out _ _ H1.out H2.out
    · have E := hdC_bad (n := n) (k := k) (c := c) (by omega)
      have P : Hid (∀ w' a, Below w.heap.size w w' → PkPost k c n f w (.returned (.tuple #[.slice a 0 0, .int .i64 2])) w') := Lib.hid fun w' a hb => PkPost.empty E (by decide) hb
      have hc' : c < 0 ∨ 256 < c := by omega
      clear E hc h hf hn
      go_enter Try.func127, Try.ntmps127
      go_wp2_with fail
      refine (in09_yes k 1 3 hk.1 hk.2 w).mono ?_
      rintro e x ⟨rfl, rfl⟩
      go_wp2_with fail
      refine (in09_no c 0 256 hc' w).mono ?_
      rintro e x ⟨rfl, rfl⟩
      go_wp2
      go_ret2
      exact P.out _ _ BE.out
  · have E := hdC_bad (n := n) (k := k) (c := c) (by omega)
    have P : Hid (∀ w' a, Below w.heap.size w w' → PkPost k c n f w (.returned (.tuple #[.slice a 0 0, .int .i64 2])) w') := Lib.hid fun w' a hb => PkPost.empty E (by decide) hb
    have hk' : k < 1 ∨ 3 < k := by omega
    clear E hk h hf hn
    go_enter Try.func127, Try.ntmps127
    go_wp2_with fail
    refine (in09_no k 1 3 hk' w).mono ?_
    rintro e x ⟨rfl, rfl⟩
    go_wp2
    go_ret2
    exact P.out _ _ BE.out
theorem iPackU_any (k c : Int) (n : Nat) (hn : n ≤ 1048576) (f : Nat → Int) (hf : ByF n f) (a : Option Addr) (cap : Nat) (w : World) (h : YrR w.heap.size w a n f) :
    Calls Try.prog 123 #[.int .i64 k, .int .i64 c, .slice a n cap] w fun e w' => ∃ v, e = .returned (.tuple #[v, .int .i64 (hdC k c n)]) ∧ PR 16 w.heap.size w'.heap.size w' v (pkM k c n) (FF (pkW k c n f)) ∧ Below w.heap.size w w' := iPack_any k c n hn f hf a cap w h
theorem sPackU_any (k c : Int) (n : Nat) (hn : n ≤ 1048576) (f : Nat → Int) (hf : ByF n f) (a : Option Addr) (cap : Nat) (w : World) (h : YrR w.heap.size w a n f) :
    Calls Try.prog 127 #[.int .i64 k, .int .i64 c, .slice a n cap] w fun e w' => ∃ v, e = .returned (.tuple #[v, .int .i64 (hdC k c n)]) ∧ PR 16 w.heap.size w'.heap.size w' v (pkM k c n) (FF (pkW k c n f)) ∧ Below w.heap.size w w' := sPack_any k c n hn f hf a cap w h
end Go.Proofs.Ythfmkejdpflpcaa
