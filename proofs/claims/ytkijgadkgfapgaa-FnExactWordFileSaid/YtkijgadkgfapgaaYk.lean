/-
  SLICES OF BYTES THAT BEGIN WITHIN A BLOCK, as the laws look at them: compared, marked, held.
-/
import Derived.Test.YtkijgadkgfapgaaGd
namespace Go.Proofs.Ytkijgadkgfapgaa
open Go.ChangeShapes Go.WideShapes Go.ChangeAt Go.RowKit Go.Deep
/-- v is a slice of n bytes f; its block lies from lo on and below hi -/
def PO (lo hi : Nat) (w : World) (v : Value) (n : Nat) (f : Nat → Value) : Prop :=
  ∃ a cap, v = .slice a n cap ∧ (n = 0 ∨ ∃ g off, a = some ⟨g, off, none⟩ ∧ lo ≤ g ∧ g < hi ∧ hi ≤ w.heap.size ∧ (∀ j, j < n → w.cell? ⟨g, off + j, none⟩ = some (f j)) ∧ ∀ j, j < n → w.frozen? ⟨g, off + j, none⟩ = false)
theorem PO.below {lo hi B : Nat} {w w' : World} {v : Value} {n : Nat} {f : Nat → Value} (hb : Below B w w') (hB : hi ≤ B) (h : PO lo hi w v n f) : PO lo hi w' v n f := by
  obtain ⟨a, cap, rfl, h0 | ⟨g, off, rfl, h1, h2, h3, h4, h5⟩⟩ := h
  · exact ⟨a, cap, rfl, .inl h0⟩
  · refine ⟨_, cap, rfl, .inr ⟨g, off, rfl, h1, h2, Nat.le_trans h3 hb.size, fun j hj => ?_, fun j hj => ?_⟩⟩
    · rw [hb.cell (p := ⟨g, off + j, none⟩) (Nat.lt_of_lt_of_le h2 hB)]; exact h4 j hj
    · rw [hb.frozen (p := ⟨g, off + j, none⟩) (Nat.lt_of_lt_of_le h2 hB)]; exact h5 j hj
theorem PO.onl {lo hi lo' hi' : Nat} {w w' : World} {v : Value} {n : Nat} {f : Nat → Value} (h : OnlIn lo hi w w') (hd : hi' ≤ lo ∨ hi ≤ lo') (hp : PO lo' hi' w v n f) : PO lo' hi' w' v n f := by
  obtain ⟨a, cap, rfl, h0 | ⟨g, off, rfl, h1, h2, h3, h4, h5⟩⟩ := hp
  · exact ⟨a, cap, rfl, .inl h0⟩
  · have e : w'.heap[g]? = w.heap[g]? := h.2.2.2.2 g (by omega)
    refine ⟨_, cap, rfl, .inr ⟨g, off, rfl, h1, h2, by rw [h.2.2.2.1]; exact h3, fun j hj => ?_, fun j hj => ?_⟩⟩
    · rw [World.cell?_of_block (a := ⟨g, off + j, none⟩) e]; exact h4 j hj
    · rw [World.frozen?_of_block (a := ⟨g, off + j, none⟩) e]; exact h5 j hj
theorem PO.wide {lo hi lo' hi' : Nat} {w : World} {v : Value} {n : Nat} {f : Nat → Value} (h : PO lo hi w v n f) (h1 : lo' ≤ lo) (h2 : hi ≤ hi') (h3 : hi' ≤ w.heap.size) : PO lo' hi' w v n f := by
  obtain ⟨a, cap, rfl, h0 | ⟨g, off, rfl, k1, k2, _, k4, k5⟩⟩ := h
  · exact ⟨a, cap, rfl, .inl h0⟩
  · exact ⟨_, cap, rfl, .inr ⟨g, off, rfl, by omega, by omega, h3, k4, k5⟩⟩
theorem PO.empty (lo hi : Nat) (w : World) (a : Option Addr) (cap : Nat) (f : Nat → Value) : PO lo hi w (.slice a 0 cap) 0 f := ⟨a, cap, rfl, .inl rfl⟩
theorem PO.yr {lo hi : Nat} {w : World} {v : Value} {n : Nat} {f : Nat → Int} (h : PO lo hi w v n (FF f)) : ∃ a cap, v = .slice a n cap ∧ YrR w.heap.size w a n f := by
  obtain ⟨a, cap, rfl, h0 | ⟨g, off, rfl, h1, h2, h3, h4, h5⟩⟩ := h
  · exact ⟨a, cap, rfl, .inl h0⟩
  · exact ⟨_, cap, rfl, .inr ⟨g, off, rfl, by omega, fun j hj => h4 j hj⟩⟩
theorem PO.congr {lo hi : Nat} {w : World} {v : Value} {n : Nat} {f g : Nat → Int} (h : PO lo hi w v n (FF f)) (e : ∀ j, j < n → f j = g j) : PO lo hi w v n (FF g) := by
  obtain ⟨a, cap, rfl, h0 | ⟨b, off, rfl, h1, h2, h3, h4, h5⟩⟩ := h
  · exact ⟨a, cap, rfl, .inl h0⟩
  · exact ⟨_, cap, rfl, .inr ⟨b, off, rfl, h1, h2, h3, fun j hj => by rw [h4 j hj]; unfold FF; rw [e j hj], h5⟩⟩
/-- a part of a row of the call's own -/
theorem PO.part {base n m off cap : Nat} {v : Value} {f : Nat → Int} {w : World} (h : OwnU base v n f w) (g c : Nat) (hv : v = .slice (some ⟨g, 0, none⟩) n c) (hm : off + m ≤ n) : PO base w.heap.size w (.slice (some ⟨g, off, none⟩) m cap) m (FF fun j => f (off + j)) := by
  subst hv
  by_cases h0 : m = 0
  · exact ⟨_, _, rfl, .inl h0⟩
  · obtain ⟨g', c', e, h1, h2, h3, h4⟩ := h.form (by omega)
    have hg : g' = g := by simp at e; exact e.1.symm
    subst hg
    exact ⟨_, _, rfl, .inr ⟨g', off, rfl, h2, h3, Nat.le_refl _, fun j hj => h4 _ (by omega), fun j hj => h.frozenAt _⟩⟩
theorem eqO_any {lo hi lo' hi' n : Nat} {v v' : Value} {f g : Nat → Int} {w : World} (hf : ∀ j, j < n → f j = g j) (hn : n ≤ 1048576) (h : PO lo hi w v n (FF f)) (h' : PO lo' hi' w v' n (FF g)) :
    Calls Try.prog 28 #[v, v'] w fun e w' => e = .returned (.bool true) ∧ Below w.heap.size w w' := by
  obtain ⟨a, c, rfl, h0⟩ := h.yr
  obtain ⟨a', c', rfl, h0'⟩ := h'.yr
  exact eqYS2_any a a' n c c' g w.heap.size w (Nat.le_refl _) hn (h0.congr hf) h0'
/-- the first m of N cells of a block, from off on, are marks; all N can be written -/
def FMo (g off N m : Nat) (w : World) : Prop := (∀ j, j < m → w.cell? ⟨g, off + j, none⟩ = some (markU j)) ∧ ∀ j, j < N → (∃ x, w.cell? ⟨g, off + j, none⟩ = some (.int .u8 x)) ∧ w.frozen? ⟨g, off + j, none⟩ = false
theorem FMo.put {g off N m : Nat} {w : World} (h : FMo g off N m w) (hm : m < N) : FMo g off N (m + 1) (w.setCell ⟨g, off + m, none⟩ (markU m)) := by
  refine ⟨fun j hj => ?_, fun j hj => ⟨?_, ?_⟩⟩
  · obtain ⟨x, hx⟩ := (h.2 j (by omega)).1
    rw [fcell_set hx]
    by_cases e : m = j
    · subst e; simp
    · rw [if_neg (by omega), ← hx]; exact h.1 j (by omega)
  · obtain ⟨x, hx⟩ := (h.2 j hj).1
    rw [fcell_set hx]
    by_cases e : m = j
    · exact ⟨_, by rw [if_pos (by omega)]; rfl⟩
    · exact ⟨x, by rw [if_neg (by omega)]⟩
  · rw [World.frozen?_setCell]; exact (h.2 j hj).2
set_option maxHeartbeats 2000000 in
theorem markYO_any (g off cap n : Nat) (hn : n ≤ 1048576) (w : World) (ho : FMo g off n 0 w) :
    Calls Try.prog 31 #[.slice (some ⟨g, off, none⟩) n cap, .int .i64 1] w fun e w' => e = .returned (.int .i64 ((1 + n : Nat) : Int)) ∧ FMo g off n n w' ∧ FOnl g w w' := by
  have HO := Lib.hid ho
  have hn' : (n : Int) ≤ 1048576 := by omega
  clear ho
  go_enter Try.func31, Try.ntmps31
  go_wp2
  go_loopw [1, 5] (fun q i wr => ∃ k : Nat, k ≤ n ∧ i = .int .i64 k ∧ q = .int .i64 ((1 + k : Nat) : Int) ∧ FMo g off n k wr ∧ FOnl g w wr) (fun _ i _ => n - (intOf i).toNat)
  case atStart => exact ⟨0, Nat.zero_le _, rfl, rfl, HO.out, FOnl.refl _ _⟩
  case round =>
    obtain ⟨k, hk, rfl, rfl, hm, hb⟩ := hrel
    have HM := Lib.hid hm
    have HB := Lib.hid hb
    clear hm hb
    by_cases hlt : k < n
    · have hlt' : (k : Int) < n := by omega
      obtain ⟨x, hx⟩ := (HM.out.2 k hlt).1
      have hf := (HM.out.2 k hlt).2
      have HP : Hid (FMo g off n (k + 1) (wr.setCell ⟨g, off + k, none⟩ (.int .u8 ((1 + (k : Int)) % 256)))) := Lib.hid (by
        have h := HM.out.put hlt
        rw [show (Value.int .u8 ((1 + (k : Int)) % 256)) = markU k from by unfold markU; push_cast; rfl]
        exact h)
      go_wp2
      go_roundw
      case rel => exact ⟨k + 1, by omega, by go_num, by go_num, HP.out, HB.out.put⟩
      case measure => simp [intOf]; omega
    · obtain rfl : k = n := by omega
      go_wp2
      go_ret
      exact ⟨by simp, HM.out, HB.out⟩
set_option maxHeartbeats 2000000 in
theorem heldYO_any (g off cap n : Nat) (hn : n ≤ 1048576) (w : World) (ho : ∀ j, j < n → w.cell? ⟨g, off + j, none⟩ = some (markU j)) :
    Calls Try.prog 32 #[.slice (some ⟨g, off, none⟩) n cap, .int .i64 1] w fun e w' => e = .returned (.int .i64 ((1 + n : Nat) : Int)) ∧ w = w' := by
  have HO := Lib.hid ho
  have hn' : (n : Int) ≤ 1048576 := by omega
  clear ho
  go_enter Try.func32, Try.ntmps32
  go_wp2
  go_loop [1, 5] (fun q i => ∃ k : Nat, k ≤ n ∧ i = .int .i64 k ∧ q = .int .i64 ((1 + k : Nat) : Int)) (fun _ i => n - (intOf i).toNat)
  case atStart => exact ⟨0, Nat.zero_le _, rfl, rfl⟩
  case round =>
    obtain ⟨k, hk, rfl, rfl⟩ := hrel
    by_cases hlt : k < n
    · have hlt' : (k : Int) < n := by omega
      have hx : w.cell? ⟨g, off + k, none⟩ = some (.int .u8 ((1 + (k : Int)) % 256)) := by
        rw [HO.out k hlt]; unfold markU; push_cast; rfl
      go_wp2
      go_round
      case rel => exact ⟨k + 1, by omega, by go_num, by go_num⟩
      case measure => simp [intOf]; omega
    · obtain rfl : k = n := by omega
      go_wp2
      go_ret
      exact ⟨by simp, rfl⟩
theorem markO_any {lo hi n : Nat} {v : Value} {f : Nat → Int} {w : World} (hn : n ≤ 1048576) (h : PO lo hi w v n (FF f)) :
    Calls Try.prog 31 #[v, .int .i64 1] w fun e w' => e = .returned (.int .i64 ((1 + n : Nat) : Int)) ∧ PO lo hi w' v n markU ∧ OnlIn lo hi w w' := by
  obtain ⟨a, c, rfl, h0⟩ := h
  rcases h0 with rfl | ⟨g, off, rfl, h1, h2, h3, h4, h5⟩
  · exact (markYNone2_any a c w).mono fun e w' h => ⟨h.1, ⟨a, c, rfl, .inl rfl⟩, by rw [← h.2]; exact OnlIn.refl _ _ _⟩
  · refine (markYO_any g off c n hn w ⟨fun j hj => absurd hj (by omega), fun j hj => ⟨⟨f j, h4 j (by omega)⟩, h5 j (by omega)⟩⟩).mono ?_
    rintro e w' ⟨he, hm, ho⟩
    exact ⟨he, ⟨_, c, rfl, .inr ⟨g, off, rfl, h1, h2, by rw [ho.2.2.2.1]; exact h3, fun j hj => hm.1 j (by omega), fun j hj => (hm.2 j (by omega)).2⟩⟩, ho.onl h1 h2⟩
theorem heldO_any {lo hi n : Nat} {v : Value} {w : World} (hn : n ≤ 1048576) (h : PO lo hi w v n markU) :
    Calls Try.prog 32 #[v, .int .i64 1] w fun e w' => e = .returned (.int .i64 ((1 + n : Nat) : Int)) ∧ w = w' := by
  obtain ⟨a, c, rfl, h0⟩ := h
  rcases h0 with rfl | ⟨g, off, rfl, h1, h2, h3, h4, h5⟩
  · exact (heldYNone2_any a c w).mono fun e w' h => ⟨h.1, h.2⟩
  · exact heldYO_any g off c n hn w fun j hj => h4 j (by omega)
end Go.Proofs.Ytkijgadkgfapgaa
