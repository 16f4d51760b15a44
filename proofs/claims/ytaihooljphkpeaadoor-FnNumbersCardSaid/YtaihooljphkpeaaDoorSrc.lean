/-
  THE SOURCE OF CHOICES (l00From, next, pick): what is drawn lies within its bounds.
-/
import Derived.Test.YtaihooljphkpeaaDoorSf
import Derived.BigQuiet
import Derived.Deep.QuietTactic
import Derived.Deep.DeepFit
import Derived.Below
namespace Go.Proofs.YtaihooljphkpeaaDoor
open Go.ChangeShapes Go.WideShapes Go.ChangeAt Go.RowKit
/-- the bytes of a slice that came in: blocks below B -/
def BRow (B : Nat) (w : World) (a : Option Addr) (len : Nat) : Prop :=
  len = 0 ∨ ∃ b off, a = some ⟨b, off, none⟩ ∧ b < B ∧ ∀ i, i < len → ∃ c : Int, 0 ≤ c ∧ c ≤ 255 ∧ w.cell? ⟨b, off + i, none⟩ = some (.int .u8 c)
theorem BRow.below {B : Nat} {w w' : World} {a : Option Addr} {len : Nat} (h : BRow B w a len) (hb : Below B w w') : BRow B w' a len := by
  rcases h with h | ⟨b, off, h1, h2, h3⟩
  · exact .inl h
  · refine .inr ⟨b, off, h1, h2, fun i hi => ?_⟩
    obtain ⟨c, c0, c1, c2⟩ := h3 i hi
    exact ⟨c, c0, c1, by rw [hb.cell (p := ⟨b, off + i, none⟩) h2]; exact c2⟩
/-- a source in block p, of the call's own, that has read i bytes -/
structure SrcAt (B p : Nat) (a : Option Addr) (len cap i : Nat) (w : World) : Prop where
  row : ∃ seed : Int, (0 ≤ seed ∧ seed ≤ 18446744073709551615) ∧ w.heap[p]? = some (.cells #[.slice a len cap, .int .i64 (i : Int), .int .u64 seed] 48 (0, 0))
  own : B ≤ p
  bytes : BRow B w a len
theorem SrcAt.alloc {B p len cap i : Nat} {a : Option Addr} {w : World} (h : SrcAt B p a len cap i w) (o : Obj) (hB : B ≤ w.heap.size) : SrcAt B p a len cap i (w.alloc o) := by
  obtain ⟨⟨seed, hs, hr⟩, h2, h3⟩ := h
  refine ⟨⟨seed, hs, ?_⟩, h2, h3.below ((Below.refl B w).alloc hB o)⟩
  have hlt : p < w.heap.size := (Array.getElem?_eq_some_iff.1 hr).1
  rw [← hr]
  exact ((Below.refl w.heap.size w).alloc (Nat.le_refl _) o).block p hlt
theorem SrcAt.drew {B p len cap i : Nat} {a : Option Addr} {w : World} (h : SrcAt B p a len cap i w) : SrcAt B p a len cap i w.drew :=
  ⟨h.row, h.own, h.bytes.below ⟨rfl, rfl, rfl, Nat.le_refl _, fun _ _ => rfl⟩⟩
theorem SrcAt.lt {B p len cap i : Nat} {a : Option Addr} {w : World} (h : SrcAt B p a len cap i w) : B < w.heap.size := by
  obtain ⟨⟨seed, hs, hr⟩, h2, h3⟩ := h
  have hlt : p < w.heap.size := (Array.getElem?_eq_some_iff.1 hr).1
  omega
/-- only block p is written -/
def Only (p : Nat) (w w' : World) : Prop := w.grownBy w' (some p)
theorem Only.refl (p : Nat) (w : World) : Only p w w := ⟨rfl, rfl, rfl, Nat.le_refl _, fun _ _ _ => rfl⟩
theorem Only.trans {p : Nat} {w w1 w2 : World} (h : Only p w w1) (k : Only p w1 w2) : Only p w w2 :=
  ⟨k.os.trans h.os, k.tape.trans h.tape, k.output.trans h.output, Nat.le_trans h.size k.size, fun j hj hn => (k.block j (Nat.lt_of_lt_of_le hj h.size) hn).trans (h.block j hj hn)⟩
theorem Only.drewN {p : Nat} {w w1 : World} (h : Only p w w1) (n : Nat) : Only p w (w1.drewN n) := ⟨h.os, h.tape, h.output, h.size, h.block⟩
theorem Only.setCell {p o : Nat} {w w1 : World} (h : Only p w w1) (v : Value) : Only p w (w1.setCell ⟨p, o, none⟩ v) :=
  ⟨h.os, h.tape, h.output, by simpa using h.size, fun j hj hn => by
    rw [← h.block j hj hn]
    exact Below.heap_setCell _ _ _ j (by intro e; apply hn; rw [e])⟩
theorem Only.alloc {p : Nat} {w w1 : World} (h : Only p w w1) (o : Obj) : Only p w (w1.alloc o) :=
  ⟨h.os, h.tape, h.output, by simp; exact Nat.le_succ_of_le h.size, fun j hj hn => by
    rw [← h.block j hj hn]
    exact ((Below.refl w1.heap.size w1).alloc (Nat.le_refl _) o).block j (Nat.lt_of_lt_of_le hj h.size)⟩
theorem Only.cell {p : Nat} {w w1 : World} (h : Only p w w1) {q : Addr} {v : Value} (hc : w.cell? q = some v) (hn : q.block ≠ p) : w1.cell? q = some v :=
  World.grownBy.cell h hc (by intro e; cases e; exact hn rfl)
theorem Only.below {p B : Nat} {w w1 : World} (h : Only p w w1) (hB : B ≤ p) (hw : B ≤ w.heap.size) : Below B w w1 :=
  ⟨h.os, h.tape, h.output, h.size, fun j hj => h.block j (by omega) (by intro e; cases e; omega)⟩
def NextPost (B p : Nat) (a : Option Addr) (len cap i : Nat) (e : Ending) (w' : World) : Prop := ∃ x : Int, 0 ≤ x ∧ x ≤ 255 ∧ e = .returned (.int .i64 x) ∧ SrcAt B p a len cap (i + 1) w'
theorem and255 (x : Int) (h0 : 0 ≤ x) (h1 : x ≤ 18446744073709551615) : 0 ≤ bits .and .u64 x 255 ∧ bits .and .u64 x 255 ≤ 255 := by
  obtain ⟨n, rfl⟩ : ∃ n : Nat, x = n := ⟨x.toNat, by omega⟩
  rw [show (255 : Int) = ((255 : Nat) : Int) from rfl, bits_and_u64_nat n 255 (by omega) (by omega)]
  have := Nat.and_le_right (n := n) (m := 255)
  omega
theorem row3 {w : World} {p : Nat} {v x y x' y' : Value} {t : TypeId} (h : w.heap[p]? = some (.cells #[v, x, y] t (0, 0))) :
    ((w.setCell ⟨p, 1, none⟩ x').setCell ⟨p, 2, none⟩ y').heap[p]? = some (.cells #[v, x', y'] t (0, 0)) := by
  simp only [World.setCell, Array.getElem?_modify, ↓reduceIte, h, Option.map_some]
  rfl
theorem wrap64_in (n : Int) : 0 ≤ IntKind.u64.wrap n ∧ IntKind.u64.wrap n ≤ 18446744073709551615 := by
  rw [IntKind.wrap_u64]; omega
set_option maxRecDepth 8000 in
theorem next_any (B p len cap i : Nat) (a : Option Addr) (hl : len ≤ 4096) (hi : i ≤ 1000000) (w : World) (h : SrcAt B p a len cap i w) :
    Calls Tryd.prog 18 #[.pointer (some ⟨p, 0, none⟩)] w fun e w' => NextPost B p a len cap i e w' ∧ Only p w w' := by
  have hBw := Nat.le_of_lt h.lt
  obtain ⟨⟨seed, ⟨s0, s1⟩, hrow⟩, hown, hby⟩ := h
  have c0 : w.cell? ⟨p, 0, none⟩ = some (.slice a len cap) := by simp [World.cell?, hrow]
  have c1 : w.cell? ⟨p, 1, none⟩ = some (.int .i64 (i : Int)) := by simp [World.cell?, hrow]
  have c2 : w.cell? ⟨p, 2, none⟩ = some (.int .u64 seed) := by simp [World.cell?, hrow]
  have f1 : w.frozen? ⟨p, 1, none⟩ = false := by simp [World.frozen?, hrow]
  have f2 : w.frozen? ⟨p, 2, none⟩ = false := by simp [World.frozen?, hrow]
  have HR := Lib.hid hrow
  have HB := Lib.hid hby
  clear hrow
  by_cases hlt : i < len
  · obtain ⟨b, off, rfl, hbB, hcs⟩ : ∃ b off, a = some ⟨b, off, none⟩ ∧ b < B ∧ ∀ i, i < len → ∃ c : Int, 0 ≤ c ∧ c ≤ 255 ∧ w.cell? ⟨b, off + i, none⟩ = some (.int .u8 c) := by
      rcases hby with h0 | h0
      · omega
      · exact h0
    obtain ⟨c, k0, k1, hc⟩ := hcs i hlt
    have hlt' : (i : Int) < (len : Int) := by omega
    clear hby hcs
    go_enter Tryd.func18, Tryd.ntmps18
    go_wp2
    go_quiet (fail)
    have R1 : (w.drewN nq).heap[p]? = w.heap[p]? := rfl
    have hc1 : (w.drewN nq).cell? ⟨b, off + i, none⟩ = some (.int .u8 c) := hc
    have b1 : Only p w (w.drewN nq) := (Only.refl p w).drewN nq
    have B1 := Lib.hid b1
    clear b1
    have d0 : (w.drewN nq).cell? ⟨p, 0, none⟩ = some (.slice (some ⟨b, off, none⟩) len cap) := c0
    have d1 : (w.drewN nq).cell? ⟨p, 1, none⟩ = some (.int .i64 (i : Int)) := c1
    have HR1 := Lib.hid (R1.trans HR.out)
    clear c0 c1 c2 f1 f2 hc R1 HR
    generalize w.drewN nq = w1 at B1 d0 d1 HR1 hc1 ⊢
    clear nq
    go_wp2
    go_quiet (fail)
    have R2 : (w1.drewN nq).heap[p]? = w1.heap[p]? := rfl
    have b2 : Only p w (w1.drewN nq) := B1.out.drewN nq
    have B2 := Lib.hid b2
    clear b2
    have HR2 := Lib.hid (R2.trans HR1.out)
    clear d0 d1 hc1 R2 HR1 B1
    generalize w1.drewN nq = w2 at B2 HR2 ⊢
    clear nq w1
    have hrow := HR2.out
    have c1 : w2.cell? ⟨p, 1, none⟩ = some (.int .i64 (i : Int)) := by simp [World.cell?, hrow]
    have c2 : w2.cell? ⟨p, 2, none⟩ = some (.int .u64 seed) := by simp [World.cell?, hrow]
    have f1 : w2.frozen? ⟨p, 1, none⟩ = false := by simp [World.frozen?, hrow]
    have f2 : w2.frozen? ⟨p, 2, none⟩ = false := by simp [World.frozen?, hrow]
    clear hrow
    go_wp2
    have hs := wrap64_in (IntKind.u64.wrap (IntKind.u64.wrap (seed * 6364136223846793005) + c) + 1442695040888963407)
    generalize IntKind.u64.wrap (IntKind.u64.wrap (IntKind.u64.wrap (seed * 6364136223846793005) + c) + 1442695040888963407) = seed' at hs ⊢
    obtain ⟨s0', s1'⟩ := hs
    have hr3 := row3 (x' := .int .i64 ((i : Int) + 1)) (y' := .int .u64 seed') HR2.out
    have hb3 := (B2.out.setCell (o := 1) (.int .i64 ((i : Int) + 1))).setCell (o := 2) (.int .u64 seed')
    have HR3 := Lib.hid hr3
    have HB3 := Lib.hid hb3
    clear hr3 hb3 HR2 B2 c1 c2 f1 f2
    generalize (w2.setCell ⟨p, 1, none⟩ (.int .i64 ((i : Int) + 1))).setCell ⟨p, 2, none⟩ (.int .u64 seed') = w3 at HR3 HB3 ⊢
    have hrow := HR3.out
    have d0 : w3.cell? ⟨p, 0, none⟩ = some (.slice (some ⟨b, off, none⟩) len cap) := by simp [World.cell?, hrow]
    have d1 : w3.cell? ⟨p, 1, none⟩ = some (.int .i64 ((i : Int) + 1)) := by simp [World.cell?, hrow]
    clear hrow w2
    go_quiet (fail)
    have HR4 : Hid ((w3.drewN nq).heap[p]? = _) := Lib.hid HR3.out
    have b4 : Only p w (w3.drewN nq) := HB3.out.drewN nq
    have B4 := Lib.hid b4
    clear b4 d0 d1 HR3 HB3
    generalize w3.drewN nq = w4 at HR4 B4 ⊢
    clear nq w3
    have hrow := HR4.out
    have d2 : w4.cell? ⟨p, 2, none⟩ = some (.int .u64 seed') := by simp [World.cell?, hrow]
    clear hrow
    have hle : (i : Int) + 1 ≤ (len : Int) := by omega
    go_wp2
    go_ret
    exact ⟨⟨c, k0, k1, rfl, ⟨⟨seed', ⟨s0', s1'⟩, HR4.out⟩, hown, HB.out.below (B4.out.below hown hBw)⟩⟩, B4.out⟩
  · have hlt' : (len : Int) ≤ (i : Int) := by omega
    clear hby
    go_enter Tryd.func18, Tryd.ntmps18
    go_wp2
    go_quiet (fail)
    have R1 : (w.drewN nq).heap[p]? = w.heap[p]? := rfl
    have b1 : Only p w (w.drewN nq) := (Only.refl p w).drewN nq
    have B2 := Lib.hid b1
    clear b1
    have HR2 := Lib.hid (R1.trans HR.out)
    clear c0 c1 c2 f1 f2 R1 HR
    generalize w.drewN nq = w2 at B2 HR2 ⊢
    clear nq
    have hrow := HR2.out
    have c1 : w2.cell? ⟨p, 1, none⟩ = some (.int .i64 (i : Int)) := by simp [World.cell?, hrow]
    have c2 : w2.cell? ⟨p, 2, none⟩ = some (.int .u64 seed) := by simp [World.cell?, hrow]
    have f1 : w2.frozen? ⟨p, 1, none⟩ = false := by simp [World.frozen?, hrow]
    have f2 : w2.frozen? ⟨p, 2, none⟩ = false := by simp [World.frozen?, hrow]
    clear hrow
    go_wp2
    have hs := wrap64_in (IntKind.u64.wrap (IntKind.u64.wrap (seed * 6364136223846793005)) + 1442695040888963407)
    generalize IntKind.u64.wrap (IntKind.u64.wrap (IntKind.u64.wrap (seed * 6364136223846793005)) + 1442695040888963407) = seed' at hs ⊢
    obtain ⟨s0', s1'⟩ := hs
    have hr3 := row3 (x' := .int .i64 ((i : Int) + 1)) (y' := .int .u64 seed') HR2.out
    have hb3 := (B2.out.setCell (o := 1) (.int .i64 ((i : Int) + 1))).setCell (o := 2) (.int .u64 seed')
    have HR3 := Lib.hid hr3
    have HB3 := Lib.hid hb3
    clear hr3 hb3 HR2 B2 c1 c2 f1 f2
    generalize (w2.setCell ⟨p, 1, none⟩ (.int .i64 ((i : Int) + 1))).setCell ⟨p, 2, none⟩ (.int .u64 seed') = w3 at HR3 HB3 ⊢
    have hrow := HR3.out
    have d0 : w3.cell? ⟨p, 0, none⟩ = some (.slice a len cap) := by simp [World.cell?, hrow]
    have d1 : w3.cell? ⟨p, 1, none⟩ = some (.int .i64 ((i : Int) + 1)) := by simp [World.cell?, hrow]
    clear hrow w2
    go_quiet (fail)
    have HR4 : Hid ((w3.drewN nq).heap[p]? = _) := Lib.hid HR3.out
    have b4 : Only p w (w3.drewN nq) := HB3.out.drewN nq
    have B4 := Lib.hid b4
    clear b4 d0 d1 HR3 HB3
    generalize w3.drewN nq = w4 at HR4 B4 ⊢
    clear nq w3
    have hrow := HR4.out
    have d2 : w4.cell? ⟨p, 2, none⟩ = some (.int .u64 seed') := by simp [World.cell?, hrow]
    clear hrow
    have hle : (len : Int) < (i : Int) + 1 := by omega
    have hsh : 0 ≤ seed' / 1099511627776 ∧ seed' / 1099511627776 ≤ 18446744073709551615 := by omega
    obtain ⟨k0, k1⟩ := and255 _ hsh.1 hsh.2
    clear hsh
    generalize hx : bits .and .u64 (seed' / 1099511627776) 255 = x at k0 k1
    go_wp2
    go_ret
    exact ⟨⟨x, k0, k1, by rw [← hx]; rfl, ⟨⟨seed', ⟨s0', s1'⟩, HR4.out⟩, hown, HB.out.below (B4.out.below hown hBw)⟩⟩, B4.out⟩
def PickPost (B p : Nat) (a : Option Addr) (len cap i j : Nat) (n : Int) (e : Ending) (w' : World) : Prop := ∃ (x : Int) (k : Nat), 0 ≤ x ∧ x < n ∧ e = .returned (.int .i64 x) ∧ i ≤ k ∧ k ≤ j ∧ SrcAt B p a len cap k w'
/-- a number from 0 to n - 1 -/
theorem pick_any (B p len cap i : Nat) (a : Option Addr) (n : Int) (hn0 : 2 ≤ n) (hn : n ≤ 65536) (hl : len ≤ 4096) (hi : i ≤ 900000) (w : World) (h : SrcAt B p a len cap i w) :
    Calls Tryd.prog 12 #[.pointer (some ⟨p, 0, none⟩), .int .i64 n] w fun e w' => PickPost B p a len cap i (i + 2) n e w' ∧ Only p w w' := by
  have HN := Lib.hid (next_any B p len cap i a hl (by omega) w h)
  clear h
  by_cases h200 : 200 < n
  · go_enter Tryd.func12, Tryd.ntmps12
    go_wp2_with fail
    refine HN.out.mono ?_
    rintro e w1 ⟨⟨x, x0, x1, rfl, s1⟩, b1⟩
    have S1 := Lib.hid s1
    have B1 := Lib.hid b1
    clear s1 b1
    go_wp2_with fail
    refine (next_any B p len cap (i + 1) a hl (by omega) w1 S1.out).mono ?_
    rintro e w2 ⟨⟨y, y0, y1, rfl, s2⟩, b2⟩
    have S2 := Lib.hid s2
    have B2 := Lib.hid (B1.out.trans b2)
    clear s2 b2
    go_wp2
    go_ret
    have h1 := Int.emod_nonneg (x * 256 + y) (show n ≠ 0 by omega)
    have h2 := Int.emod_lt_of_pos (x * 256 + y) (show 0 < n by omega)
    exact ⟨⟨(x * 256 + y) % n, i + 2, h1, h2, rfl, by omega, by omega, S2.out⟩, B2.out⟩
  · have h200' : n ≤ 200 := by omega
    go_enter Tryd.func12, Tryd.ntmps12
    go_wp2_with fail
    refine HN.out.mono ?_
    rintro e w1 ⟨⟨x, x0, x1, rfl, s1⟩, b1⟩
    have S1 := Lib.hid s1
    have B1 := Lib.hid b1
    clear s1 b1
    go_wp2
    go_ret
    have h1 := Int.emod_nonneg x (show n ≠ 0 by omega)
    have h2 := Int.emod_lt_of_pos x (show 0 < n by omega)
    exact ⟨⟨x % n, i + 1, h1, h2, rfl, by omega, by omega, S1.out⟩, B1.out⟩
/-- a source at the head of the bytes -/
theorem from_any (len cap : Nat) (a : Option Addr) (w : World) (h : BRow w.heap.size w a len) :
    Calls Tryd.prog 11 #[.slice a len cap] w fun e w' => (e = .returned (.pointer (some ⟨w.heap.size, 0, none⟩)) ∧ SrcAt w.heap.size w.heap.size a len cap 0 w') ∧ Below w.heap.size w w' := by
  have HB := Lib.hid h
  clear h
  go_enter Tryd.func11, Tryd.ntmps11
  go_wp2
  go_ret
  have hb := (Below.refl w.heap.size w).alloc (Nat.le_refl _) (.cells #[.slice a len cap, .int .i64 0, .int .u64 0] 48)
  exact ⟨⟨rfl, ⟨⟨0, by omega, heap_alloc_new _ _⟩, Nat.le_refl _, HB.out.below hb⟩⟩, hb⟩
end Go.Proofs.YtaihooljphkpeaaDoor
