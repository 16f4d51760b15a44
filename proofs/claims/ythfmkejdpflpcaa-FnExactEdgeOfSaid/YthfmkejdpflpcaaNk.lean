/-
  CONTRACT: PictureOf by the specification.
-/
import Derived.Test.YthfmkejdpflpcaaNj
namespace Go.Proofs.Ythfmkejdpflpcaa
open Go.ChangeShapes Go.WideShapes Go.ChangeAt Go.RowKit
theorem ins_pos {K : List (Int × Int)} {c : Int × Int} (hn : c ∉ K) : ∀ k, k ≤ K.length → (k = K.length ∨ ltP c K[k]!) → ∃ k', k' ≤ K.length ∧ (k' = 0 ∨ ltP K[k' - 1]! c) ∧ (k' = K.length ∨ ltP c K[k']!)
  | 0, _, h => ⟨0, Nat.zero_le _, .inl rfl, h⟩
  | k + 1, hk, h => by
    by_cases hl : ltP K[k]! c
    · exact ⟨k + 1, hk, .inr hl, h⟩
    · refine ins_pos hn k (by omega) (.inr (ltP_tri hl fun e => hn ?_))
      rw [← e, getElem!_pos K k (by omega)]
      exact List.getElem_mem _
theorem PicK.or_ex {F : MF} {K : List (Int × Int)} (h : PicK F K) (hF : MBF F) {p q : Int} (hp : C32 p) (hq : C32 q) {m : Nat → Int} (hm : MB m) : ∃ K', PicK (orM F p q m) K' := by
  cases he : emptyF m with
  | true => exact ⟨K, h.or_none hF he⟩
  | false =>
    by_cases hin : (p, q) ∈ K
    · exact ⟨K, h.or_in hF hm hin⟩
    · obtain ⟨k, hk, h1, h2⟩ := ins_pos hin K.length (Nat.le_refl _) (.inl rfl)
      exact ⟨_, h.or_new hF hp hq hm he hin hk h1 h2⟩
def okP (f : Nat → Int) (n : Nat) : Bool := (List.range n).all fun i => colB (f (2 * i)) && colB (f (2 * i + 1))
theorem okP_at {f : Nat → Int} {n i : Nat} (h : okP f n = true) (hi : i < n) : colB (f (2 * i)) = true ∧ colB (f (2 * i + 1)) = true := by
  unfold okP at h
  rw [List.all_eq_true] at h
  have := h i (by simpa using hi)
  rwa [Bool.and_eq_true] at this
theorem okP_mk {f : Nat → Int} {n : Nat} (h : ∀ i, i < n → (colB (f (2 * i)) && colB (f (2 * i + 1))) = true) : okP f n = true := by
  unfold okP
  rw [List.all_eq_true]
  intro i hi
  exact h i (by simpa using hi)
theorem okP_no {f : Nat → Int} {n i : Nat} (hi : i < n) (h : (colB (f (2 * i)) && colB (f (2 * i + 1))) = false) : okP f n = false := by
  cases hk : okP f n with
  | false => rfl
  | true =>
    have := okP_at hk hi
    rw [this.1, this.2] at h
    cases h
theorem pcK (f : Nat → Int) {n : Nat} (h : okP f n = true) : ∀ i, i ≤ n → ∃ K, PicK (pcF f i) K
  | 0, _ => ⟨[], PicK.nil⟩
  | i + 1, hi => by
    obtain ⟨K, hK⟩ := pcK f h i (by omega)
    obtain ⟨cx, cy⟩ := okP_at h (i := i) (by omega)
    have hx := colB_yes cx
    have hy := colB_yes cy
    obtain ⟨K', hK'⟩ := hK.or_ex (pcF_MB f i) (p := f (2 * i) / 16) (q := f (2 * i + 1) / 16) (by unfold C32; omega) (by unfold C32; omega) (oneM_MB (x := (f (2 * i) % 16).toNat) (by omega) (f (2 * i + 1) % 16).toNat)
    exact ⟨K', hK'.congr fun p q _ _ y hy => pcF_or f i p q y hy⟩
def poC (f : Nat → Int) (n : Nat) (K : List (Int × Int)) : Int := if 1024 < n then 3 else if okP f n = true then ioC K else 2
def poK (f : Nat → Int) (n : Nat) (K : List (Int × Int)) : List (Int × Int) := if 1024 < n then [] else if okP f n = true then ioK K else []
def PoPost (f : Nat → Int) (n : Nat) (K : List (Int × Int)) (w : World) (e : Ending) (w' : World) : Prop := ∃ v, e = .returned (.tuple #[v, .int .i64 (poC f n K)]) ∧ OB w.heap.size v (pcF f n) (poK f n K) w' ∧ Below w.heap.size w w'
theorem ob_made {F : MF} (w : World) : OB w.heap.size (.slice (some ⟨w.heap.size, 0, none⟩) 0 0) F [] (w.alloc (.cells #[] 73)) := World.ownsRow_made (base := w.heap.size) (size := 18) (e := 73) w #[] 0 (Nat.le_refl _) (by unfold maxLen; omega) rfl
set_option maxRecDepth 20000 in
set_option maxHeartbeats 4000000 in
theorem told_any {B : Nat} {v : Value} {F : MF} {K : List (Int × Int)} (w : World) (hB : B ≤ w.heap.size) (ho : OB B v F K w) (hl : K.length ≤ 1000000) :
    Calls Try.prog 53 #[v] w fun e w' => ∃ v', e = .returned (.tuple #[v', .int .i64 (ioC K)]) ∧ OB B v' F (ioK K) w' ∧ Below w.heap.size w w' := by
  obtain ⟨a, cap, rfl⟩ := ho.len
  have HO := Lib.hid ho
  have hI : (K.length : Int) ≤ 1000000 := by omega
  by_cases h64 : K.length ≤ 64
  · have t : (K.length : Int) ≤ 64 := by omega
    have E1 : ioC K = 0 := if_pos h64
    have E2 : ioK K = K := if_pos h64
    rw [E1, E2]
    obtain ⟨k, hk⟩ : ∃ k, K.length = k := ⟨_, rfl⟩
    rw [hk] at t HO ⊢
    clear h64 E1 E2 ho hl hI hk
    go_enter Try.func53, Try.ntmps53
    go_wp2
    exact bodyPost_ret (v := .tuple #[.slice a k cap, .int .i64 0]) (by simp [results, Try.results53, go_sem]) rfl ⟨_, rfl, HO.out, Below.refl _ _⟩
  · have t : (64 : Int) < (K.length : Int) := by omega
    have E1 : ioC K = 3 := if_neg h64
    have E2 : ioK K = [] := if_neg h64
    rw [E1, E2]
    obtain ⟨k, hk⟩ : ∃ k, K.length = k := ⟨_, rfl⟩
    rw [hk] at t HO ⊢
    clear h64 E1 E2 ho hl hI hk
    go_enter Try.func53, Try.ntmps53
    go_wp2
    exact bodyPost_ret (v := .tuple #[.slice (some ⟨w.heap.size, 0, none⟩) 0 0, .int .i64 3]) (by simp [results, Try.results53, go_sem]) rfl ⟨_, rfl, (ob_made w).mono hB, (Below.refl _ _).alloc (Nat.le_refl _) _⟩
set_option maxRecDepth 20000 in
set_option maxHeartbeats 8000000 in
theorem sPictureOf_any (a : Option Addr) (n cap : Nat) (f : Nat → Int) (K0 : List (Int × Int)) (w : World) (hn : n ≤ 1048576) (h : PtR w.heap.size w a n f) (hp : P32 n f) (hK : n ≤ 1024 → okP f n = true → PicK (pcF f n) K0) :
    Calls Try.prog 15 #[.slice a n cap] w (PoPost f n K0 w) := by
  unfold PoPost
  have nI : (n : Int) ≤ 1048576 := by omega
  by_cases h1 : 1024 < n
  · have E1 : poC f n K0 = 3 := if_pos h1
    have E2 : poK f n K0 = [] := if_pos h1
    rw [E1, E2]
    have t : (1024 : Int) < (n : Int) := by omega
    clear h1 E1 E2 h hn hK hp
    go_enter Try.func15, Try.ntmps15
    go_wp2
    exact bodyPost_ret (v := .tuple #[.slice (some ⟨w.heap.size, 0, none⟩) 0 0, .int .i64 3]) (by simp [results, Try.results15, go_sem]) rfl ⟨_, rfl, ob_made w, (Below.refl _ _).alloc (Nat.le_refl _) _⟩
  · have hn2 : n ≤ 1024 := by omega
    have t : (n : Int) ≤ 1024 := by omega
    have HR := Lib.hid h
    have E1 : Hid (okP f n = false → poC f n K0 = 2 ∧ poK f n K0 = []) := Lib.hid fun hk => by unfold poC poK; rw [if_neg h1, if_neg h1, hk]; exact ⟨rfl, rfl⟩
    have E2 : Hid (okP f n = true → poC f n K0 = ioC K0 ∧ poK f n K0 = ioK K0) := Lib.hid fun hk => by unfold poC poK; rw [if_neg h1, if_neg h1, hk]; exact ⟨rfl, rfl⟩
    have LC := Lib.hid l07Cell_any
    have HK := Lib.hid (hK hn2)
    have HN := Lib.hid hn2
    have HPP := Lib.hid hp
    have LP : Hid (∀ W, Below w.heap.size w W → okP f n = true → Calls Try.prog 54 #[.slice a n cap] W (LpPost W.heap.size f n W)) := Lib.hid fun W hW hk => l07Picture_any a n cap f W hn2 (h.below hW hW.size) fun i hi => okP_at hk hi
    have TO : Hid (∀ (B : Nat) (v : Value) (K : List (Int × Int)) (W : World), B ≤ W.heap.size → OB B v (pcF f n) K W → K.length ≤ 1000000 → Calls Try.prog 53 #[v] W fun e w' => ∃ v', e = .returned (.tuple #[v', .int .i64 (ioC K)]) ∧ OB B v' (pcF f n) (ioK K) w' ∧ Below W.heap.size W w') := Lib.hid fun B v K W hB ho hl => told_any W hB ho hl
    clear h1 h hn hK hn2 hp
    go_enter Try.func15, Try.ntmps15
    go_wp2
    go_loopw [4] (fun vi wr => ∃ i : Nat, i ≤ n ∧ vi = .int .i64 (i : Int) ∧ Hid (Below w.heap.size w wr) ∧ Hid (∀ j, j < i → (colB (f (2 * j)) && colB (f (2 * j + 1))) = true)) (fun vi _ => n - (intOf vi).toNat)
    case atStart => exact ⟨0, Nat.zero_le _, rfl, Lib.hid (Below.refl _ _), Lib.hid fun j h => absurd h (by omega)⟩
    case round =>
      obtain ⟨i, hi, rfl, B1, YES⟩ := hrel
      by_cases hlt : i < n
      · have ti : (i : Int) < (n : Int) := by omega
        have HI := Lib.hid hlt
        obtain ⟨g, off, rfl, hg, hc⟩ : ∃ g off, a = some ⟨g, off, none⟩ ∧ g < w.heap.size ∧ ∀ j, j < 2 * n → w.cell? ⟨g, off + j, none⟩ = some (.int .i32 (f j)) := by
          rcases HR.out with h | h
          · omega
          · exact h
        have d0 : wr.cell? ⟨g, off + i * 2, none⟩ = some (.int .i32 (f (2 * i))) := (B1.out.cell (p := ⟨g, off + i * 2, none⟩) hg).trans (by rw [Nat.mul_comm]; exact hc (2 * i) (by omega))
        have d1 : wr.cell? ⟨g, off + i * 2 + 1, none⟩ = some (.int .i32 (f (2 * i + 1))) := (B1.out.cell (p := ⟨g, off + i * 2 + 1, none⟩) hg).trans (by rw [Nat.mul_comm, Nat.add_assoc]; exact hc (2 * i + 1) (by omega))
        have CE := fun W => LC.out (f (2 * i)) (f (2 * i + 1)) W
        obtain ⟨x0, x1⟩ := HPP.out (2 * i) (by omega)
        obtain ⟨y0, y1⟩ := HPP.out (2 * i + 1) (by omega)
        have NX : Hid ((colB (f (2 * i)) && colB (f (2 * i + 1))) = true → ∀ j, j < i + 1 → (colB (f (2 * j)) && colB (f (2 * j + 1))) = true) := Lib.hid fun h j hj => by
          rcases Nat.lt_or_ge j i with h2 | h2
          · exact YES.out j h2
          · obtain rfl : j = i := by omega
            exact h
        have NO : Hid ((colB (f (2 * i)) && colB (f (2 * i + 1))) = false → okP f n = false) := Lib.hid fun h => okP_no HI.out h
        obtain ⟨r, hr⟩ : ∃ r, (colB (f (2 * i)) && colB (f (2 * i + 1))) = r := ⟨_, rfl⟩
        rw [hr] at CE NX NO
        obtain ⟨x, hx⟩ : ∃ z, f (2 * i) = z := ⟨_, rfl⟩
        obtain ⟨y, hy⟩ : ∃ z, f (2 * i + 1) = z := ⟨_, rfl⟩
        rw [hx] at d0 CE x0 x1
        rw [hy] at d1 CE y0 y1
        have hoq : Hid (∀ m, Calls Try.prog 52 #[.int .i64 x, .int .i64 y] (wr.drewN m) fun e w'' => e = .returned (.bool r) ∧ ∃ q, w'' = wr.drewN q) := Lib.hid fun m => (CE _).mono fun e w' ⟨h1, h2⟩ => ⟨h1, m, h2.symm⟩
        clear hr hx hy hc hg hlt hi CE
        cases r with
        | true =>
          have NX2 := Lib.hid (NX.out rfl)
          clear NX NO
          go_wp2
          go_quiet ((go_at_call 52; exact hoq.out _))
          go_wp2
          go_roundw
          case rel => exact ⟨i + 1, HI.out, by go_num, Lib.hid (belowN B1.out), NX2⟩
          case measure => have := HI.out; simp [intOf]; omega
        | false =>
          obtain ⟨e1, e2⟩ := E1.out (NO.out rfl)
          have EE1 := Lib.hid e1
          have EE2 := Lib.hid e2
          clear e1 e2
          go_wp2
          go_quiet ((go_at_call 52; exact hoq.out _))
          go_wp2
          exact bodyPost_ret (v := .tuple #[.slice (some ⟨wr.heap.size, 0, none⟩) 0 0, .int .i64 2]) (by simp [results, Try.results15, go_sem]) rfl ⟨_, by rw [EE1.out], by rw [EE2.out]; exact (ob_made _).mono B1.out.size, (belowN B1.out).alloc B1.out.size _⟩
      · have ti : ¬ (i : Int) < (n : Int) := by omega
        have OKA : okP f n = true := okP_mk fun j hj => YES.out j (by omega)
        obtain ⟨e1, e2⟩ := E2.out OKA
        have EE1 := Lib.hid e1
        have EE2 := Lib.hid e2
        have PK0 := Lib.hid (HK.out OKA)
        have LPH := Lib.hid (LP.out wr B1.out OKA)
        clear e1 e2 OKA hlt hi
        go_wp2_with fail
        refine LPH.out.mono ?_
        rintro e w2 ⟨v2, K2, rfl, k1, k2, k3, b⟩
        obtain rfl := k1.uniq PK0.out
        have B2 := Lib.hid (B1.out.trans (b.mono B1.out.size))
        have O2 := Lib.hid (k3.mono B1.out.size)
        have L2 : Hid (K2.length ≤ 1000000) := Lib.hid (by have := HN.out; omega)
        clear b k1 k2 k3
        go_wp2_with fail
        refine (TO.out w.heap.size v2 K2 w2 B2.out.size O2.out L2.out).mono ?_
        rintro e w3 ⟨v3, rfl, ho, b⟩
        have B3 := Lib.hid (B2.out.trans (b.mono B2.out.size))
        have O3 := Lib.hid ho
        clear b ho
        go_wp2
        exact bodyPost_ret (v := .tuple #[v3, .int .i64 (ioC K2)]) (by simp [results, Try.results15, go_sem]) rfl ⟨_, by rw [EE1.out], by rw [EE2.out]; exact O3.out, B3.out⟩
end Go.Proofs.Ythfmkejdpflpcaa
