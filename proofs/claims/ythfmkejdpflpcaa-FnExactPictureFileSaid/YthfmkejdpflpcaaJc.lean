/-
  CONTRACTS: PictureHas by both sides.
-/
import Derived.Test.YthfmkejdpflpcaaJb
import Derived.Test.YthfmkejdpflpcaaBa
namespace Go.Proofs.Ythfmkejdpflpcaa
open Go.ChangeShapes Go.WideShapes Go.ChangeAt Go.RowKit
def phV (f : Nat → Int) (n : Nat) (x y : Int) : Bool := hasF (fdF f n (x / 16) (y / 16)) (x % 16).toNat (y % 16).toNat
def phC (f : Nat → Int) (n : Nat) (x y : Int) : Int := if validP f n = true then (if (colB x && colB y) = true then 0 else 2) else 1
def phB (f : Nat → Int) (n : Nat) (x y : Int) : Bool := if phC f n x y = 0 then phV f n x y else false
/-! the map's masks are those that are found first -/
theorem less_step {f : Nat → Int} {n i : Nat} (hv : validP f n = true) (h0 : 0 < i) (hi : i < n) : f ((i - 1) * 18 + 1) < f (i * 18 + 1) ∨ f ((i - 1) * 18 + 1) = f (i * 18 + 1) ∧ f ((i - 1) * 18) < f (i * 18) := by
  unfold validP at hv
  simp only [Bool.and_eq_true, decide_eq_true_eq, List.all_eq_true, List.mem_range] at hv
  have := hv.2 i hi
  unfold okB at this
  simp only [Bool.and_eq_true, Bool.or_eq_true, decide_eq_true_eq] at this
  rcases this.2 with h | h
  · omega
  · unfold lessAt lessB at h
    simp only [Bool.or_eq_true, Bool.and_eq_true, decide_eq_true_eq] at h
    first | exact h | omega
theorem less_all {f : Nat → Int} {n i : Nat} (hv : validP f n = true) : ∀ j, i < j → j < n → f (i * 18 + 1) < f (j * 18 + 1) ∨ f (i * 18 + 1) = f (j * 18 + 1) ∧ f (i * 18) < f (j * 18)
  | 0, h, _ => absurd h (by omega)
  | j + 1, h, hj => by
    have h1 := less_step hv (show 0 < j + 1 by omega) hj
    rw [Nat.add_sub_cancel] at h1
    by_cases e : i = j
    · subst e
      exact h1
    · have h2 := less_all (i := i) hv j (by omega) (by omega)
      omega
theorem shF_hit {f : Nat → Int} {p q : Int} : ∀ n k, k < n → f (k * 18) = p → f (k * 18 + 1) = q → (∀ i, k < i → i < n → ¬ (f (i * 18) = p ∧ f (i * 18 + 1) = q)) → shF f n p q = mkF f k
  | 0, k, h, _, _, _ => absurd h (by omega)
  | n + 1, k, h, hp, hq, hno => by
    show putM (shF f n) (f (n * 18)) (f (n * 18 + 1)) (mkF f n) p q = mkF f k
    unfold putM
    by_cases e : k = n
    · subst e
      rw [if_pos ⟨hp.symm, hq.symm⟩]
    · rw [if_neg (fun h2 => hno n (by omega) (by omega) ⟨h2.1.symm, h2.2.symm⟩)]
      exact shF_hit n k (by omega) hp hq fun i h1 h2 => hno i h1 (by omega)
theorem shF_none {f : Nat → Int} {p q : Int} : ∀ n, (∀ i, i < n → ¬ (f (i * 18) = p ∧ f (i * 18 + 1) = q)) → shF f n p q = zI
  | 0, _ => rfl
  | n + 1, hno => by
    show putM (shF f n) (f (n * 18)) (f (n * 18 + 1)) (mkF f n) p q = zI
    unfold putM
    rw [if_neg (fun h2 => hno n (by omega) ⟨h2.1.symm, h2.2.symm⟩)]
    exact shF_none n fun i hi => hno i (by omega)
theorem shF_fd {f : Nat → Int} {n : Nat} (hv : validP f n = true) (p q : Int) : shF f n p q = fdF f n p q := by
  by_cases h : ∃ k, k < n ∧ f (k * 18) = p ∧ f (k * 18 + 1) = q
  · obtain ⟨k, hk, hp, hq⟩ := h
    have hx : ∀ i, i < n → f (i * 18) = p ∧ f (i * 18 + 1) = q → i = k := fun i hi ⟨h1, h2⟩ => by
      rcases Nat.lt_trichotomy i k with h | h | h
      · have := less_all hv k h hk; omega
      · exact h
      · have := less_all hv i h hi; omega
    rw [shF_hit n k hk hp hq (fun i h1 h2 h3 => by have := hx i h2 h3; omega),
      fdF_hit hk (coEq_iff.2 ⟨hp, hq⟩) (fun i hi => by
        cases e : coEq f i p q with
        | false => rfl
        | true => have := hx i (by omega) (coEq_iff.1 e); omega)]
  · have hn : ∀ i, i < n → ¬ (f (i * 18) = p ∧ f (i * 18 + 1) = q) := fun i hi h2 => h ⟨i, hi, h2⟩
    rw [shF_none n hn, fdF_none (fun i hi => by
      cases e : coEq f i p q with
      | false => rfl
      | true => exact absurd (coEq_iff.1 e) (hn i hi))]
set_option maxRecDepth 20000 in
set_option maxHeartbeats 8000000 in
theorem holds_any (a : Option Addr) (n cap : Nat) (f : Nat → Int) (x y : Int) (w : World) (hn : n ≤ 1048576) (h : BlR w.heap.size w a n f) (hf : BlF n f) (hx : colB x = true) (hy : colB y = true) :
    Calls Try.prog 67 #[.slice a n cap, .int .i64 x, .int .i64 y] w fun e w' => e = .returned (.bool (phV f n x y)) ∧ Below w.heap.size w w' := by
  have CE := Lib.hid (l07Cell_any x y)
  rw [hx, hy] at CE
  have CO := Lib.hid (l07Corner_any x y hx hy)
  have LX := Lib.hid (l07Low_any x hx)
  have LY := Lib.hid (l07Low_any y hy)
  have FD : Hid (∀ W, Below w.heap.size w W → Calls Try.prog 73 #[.slice a n cap, .agg (atA x y)] W fun e w' => e = .returned (.agg (M16 (fdF f n (x / 16) (y / 16)))) ∧ Below W.heap.size W w') := Lib.hid fun W hW => find_any a n cap f (x / 16) (y / 16) W hn (h.below hW hW.size)
  have MBF := Lib.hid (fdF_MB hf (x / 16) (y / 16))
  have PV : Hid (phV f n x y = hasF (fdF f n (x / 16) (y / 16)) (x % 16).toNat (y % 16).toNat) := Lib.hid rfl
  obtain ⟨x0, x1⟩ := colB_yes hx
  obtain ⟨y0, y1⟩ := colB_yes hy
  obtain ⟨X, eX⟩ : ∃ X : Nat, (x % 16).toNat = X := ⟨_, rfl⟩
  obtain ⟨Y, eY⟩ : ∃ X : Nat, (y % 16).toNat = X := ⟨_, rfl⟩
  have sx : x - 16 * (x / 16) = (X : Int) := by omega
  have sy : y - 16 * (y / 16) = (Y : Int) := by omega
  have X16 : X < 16 := by omega
  have Y16 : Y < 16 := by omega
  have lx : -62501 ≤ x / 16 ∧ x / 16 ≤ 62500 := by omega
  have ly : -62501 ≤ y / 16 ∧ y / 16 ≤ 62500 := by omega
  rw [eX, eY] at PV
  generalize fdF f n (x / 16) (y / 16) = M at FD MBF PV
  have HS : Hid (∀ g W, W.cell? ⟨g, Y, none⟩ = some (.int .u16 (M Y)) → Calls Try.prog 105 #[.pointer (some ⟨g, 0, none⟩), .int .i64 (X : Int), .int .i64 (Y : Int)] W fun e w' => e = .returned (.bool (hasF M X Y)) ∧ W = w') := Lib.hid fun g W hc => l07Has_any g M MBF.out X Y X16 Y16 W hc
  have MY : Hid ((M16 M)[Y]? = some (.int .u16 (M Y))) := Lib.hid (arr_get _ _ _ _ Y16)
  have M16S : Hid ((M16 M).size = 16) := Lib.hid (arr_size _ _ _)
  have MO : Hid ((M16 M).all (·.oneCell') = true) := Lib.hid (arr_cells _ _ _)
  have MZ : Hid ((#[Value.int .u16 0, Value.int .u16 0, Value.int .u16 0, Value.int .u16 0, Value.int .u16 0, Value.int .u16 0, Value.int .u16 0, Value.int .u16 0, Value.int .u16 0, Value.int .u16 0, Value.int .u16 0, Value.int .u16 0, Value.int .u16 0, Value.int .u16 0, Value.int .u16 0, Value.int .u16 0] : Array Value).size = (M16 M).size) := Lib.hid (M16S.out.symm.trans rfl).symm
  rw [PV.out]
  obtain ⟨v1, v2⟩ := lx
  obtain ⟨u1, u2⟩ := ly
  generalize atA x y = AT at CO FD
  generalize x / 16 = xl at LX sx v1 v2
  generalize y / 16 = yl at LY sy u1 u2
  clear h hf hn hx hy eX eY X16 Y16
  go_enter Try.func67, Try.ntmps67
  go_wp2_with fail
  refine (CE.out _).mono ?_
  rintro e w' ⟨rfl, rfl⟩
  go_wp2_with fail
  refine (CO.out _).mono ?_
  rintro e w1 ⟨rfl, b⟩
  have B1 := Lib.hid b
  clear b
  go_wp2_with fail
  refine (FD.out _ B1.out).mono ?_
  rintro e w2 ⟨rfl, b⟩
  have B2 := Lib.hid (B1.out.trans (b.mono B1.out.size))
  clear b FD
  obtain ⟨w3, hw3⟩ : ∃ x, w2.alloc (.cells #[Value.int .u16 0, Value.int .u16 0, Value.int .u16 0, Value.int .u16 0, Value.int .u16 0, Value.int .u16 0, Value.int .u16 0, Value.int .u16 0, Value.int .u16 0, Value.int .u16 0, Value.int .u16 0, Value.int .u16 0, Value.int .u16 0, Value.int .u16 0, Value.int .u16 0, Value.int .u16 0] 71) = x := ⟨_, rfl⟩
  have T3 : Hid (w3.heap[w2.heap.size]? = some (.cells #[Value.int .u16 0, Value.int .u16 0, Value.int .u16 0, Value.int .u16 0, Value.int .u16 0, Value.int .u16 0, Value.int .u16 0, Value.int .u16 0, Value.int .u16 0, Value.int .u16 0, Value.int .u16 0, Value.int .u16 0, Value.int .u16 0, Value.int .u16 0, Value.int .u16 0, Value.int .u16 0] 71 (0, 0))) := Lib.hid (by rw [← hw3]; exact World.alloc_heap_new w2 _)
  obtain ⟨w4, hw4⟩ : ∃ x, w3.setRow w2.heap.size (M16 M) = x := ⟨_, rfl⟩
  have b4 : Below w2.heap.size w2 w4 := by rw [← hw4, ← hw3]; exact below_setRow ((Below.refl _ _).alloc (Nat.le_refl _) _) (Nat.le_refl _) _
  have R4 : Hid (w4.heap[w2.heap.size]? = some (.cells (M16 M) 71 (0, 0))) := Lib.hid (by rw [← hw4]; exact setRow_heap _ _ _ _ _ _ T3.out)
  have B4 := Lib.hid (B2.out.trans (b4.mono B2.out.size))
  have HS4 := Lib.hid (HS.out w2.heap.size w4 ((Lib.cell_of_heap R4.out Y).trans MY.out))
  clear b4
  go_wp2_with (first | (refine wpList_store_row rfl 71 _ _ rfl w2.heap.size (M16 M) rfl rfl 71 _ T3.out (mask_info _ M16S.out) MZ.out MO.out ?_; rw [hw4]) | ((with_reducible refine (LX.out _).mono ?_); rintro e w' ⟨rfl, rfl⟩) | ((with_reducible refine (LY.out _).mono ?_); rintro e w' ⟨rfl, rfl⟩))
  refine HS4.out.mono ?_
  rintro e w' ⟨rfl, rfl⟩
  go_wp2
  exact bodyPost_ret (v := .bool (hasF M X Y)) (by simp [results, Try.results67, go_sem]) rfl ⟨rfl, B4.out⟩
set_option maxRecDepth 20000 in
set_option maxHeartbeats 8000000 in
theorem sPicHas_any (a : Option Addr) (n cap : Nat) (f : Nat → Int) (x y : Int) (w : World) (hn : n ≤ 1048576) (h : BlR w.heap.size w a n f) (hf : BlF n f) :
    Calls Try.prog 28 #[.slice a n cap, .int .i64 x, .int .i64 y] w fun e w' => e = .returned (.tuple #[.bool (phB f n x y), .int .i64 (phC f n x y)]) ∧ Below w.heap.size w w' := by
  have OK := Lib.hid (sOk_any a n cap f w.heap.size w (Nat.le_refl _) hn h hf)
  cases hv : validP f n with
  | false =>
    have PC : phC f n x y = 1 := by unfold phC; rw [hv]; exact if_neg (by decide)
    have PB : phB f n x y = false := by unfold phB; rw [PC]; exact if_neg (by decide)
    rw [PC, PB]
    rw [hv] at OK
    clear hv PC PB h hf hn
    go_enter Try.func28, Try.ntmps28
    go_wp2_with fail
    refine OK.out.mono ?_
    rintro e w1 ⟨rfl, b⟩
    have B1 := Lib.hid b
    clear b OK
    go_wp2
    exact bodyPost_ret (v := .tuple #[.bool false, .int .i64 1]) (by simp [results, Try.results28, go_sem]) rfl ⟨rfl, B1.out⟩
  | true =>
    rw [hv] at OK
    have CE := Lib.hid (l07Cell_any x y)
    cases hc : colB x && colB y with
    | false =>
      have PC : phC f n x y = 2 := by unfold phC; rw [hv, hc]; rfl
      have PB : phB f n x y = false := by unfold phB; rw [PC]; exact if_neg (by decide)
      rw [PC, PB]
      rw [hc] at CE
      clear hv hc PC PB h hf hn
      go_enter Try.func28, Try.ntmps28
      go_wp2_with fail
      refine OK.out.mono ?_
      rintro e w1 ⟨rfl, b⟩
      have B1 := Lib.hid b
      clear b OK
      go_wp2_with fail
      refine (CE.out _).mono ?_
      rintro e w' ⟨rfl, rfl⟩
      go_wp2
      exact bodyPost_ret (v := .tuple #[.bool false, .int .i64 2]) (by simp [results, Try.results28, go_sem]) rfl ⟨rfl, B1.out⟩
    | true =>
      have PC : phC f n x y = 0 := by unfold phC; rw [hv, hc]; rfl
      have PB : phB f n x y = phV f n x y := by unfold phB; rw [PC]; rfl
      rw [PC, PB]
      have hc2 := hc
      simp only [Bool.and_eq_true] at hc2
      have HO : Hid (∀ W, Below w.heap.size w W → Calls Try.prog 67 #[.slice a n cap, .int .i64 x, .int .i64 y] W fun e w' => e = .returned (.bool (phV f n x y)) ∧ Below W.heap.size W w') := Lib.hid fun W hW => holds_any a n cap f x y W hn (h.below hW hW.size) hf hc2.1 hc2.2
      rw [hc] at CE
      generalize phV f n x y = r at HO ⊢
      clear hv hc hc2 PC PB h hf hn
      go_enter Try.func28, Try.ntmps28
      go_wp2_with fail
      refine OK.out.mono ?_
      rintro e w1 ⟨rfl, b⟩
      have B1 := Lib.hid b
      clear b OK
      go_wp2_with fail
      refine (CE.out _).mono ?_
      rintro e w' ⟨rfl, rfl⟩
      go_wp2_with fail
      refine (HO.out _ B1.out).mono ?_
      rintro e w2 ⟨rfl, b⟩
      have B2 := Lib.hid (B1.out.trans (b.mono B1.out.size))
      clear b HO
      go_wp2
      exact bodyPost_ret (v := .tuple #[.bool r, .int .i64 0]) (by simp [results, Try.results28, go_sem]) rfl ⟨rfl, B2.out⟩
theorem cell_info (A : Array Value) (h : A.size = 2) : (Try.prog.info? 89).map (·.size) = some A.size := by rw [h]; kernel_rfl
set_option maxRecDepth 20000 in
set_option maxHeartbeats 8000000 in
theorem sheetHas_any (b n : Nat) (F : Int → Int → Nat → Int) (x y : Int) (w : World) (hm : MapM b n F w) (hx : C32 x) (hy : C32 y) (hM : MB (F (x / 16) (y / 16))) :
    Calls Try.prog 68 #[.map (some b), .agg #[.int .i32 x, .int .i32 y]] w fun e w' => e = .returned (.bool (hasF (F (x / 16) (y / 16)) (x % 16).toNat (y % 16).toNat)) ∧ Below w.heap.size w w' := by
  have IB := Lib.hid (inBlock_any x y hx hy)
  have HM := Lib.hid hm
  have LK : Hid (∀ W, MapM b n F W → (Instr.lookup 65 (.map (some b)) (.agg (atA x y)) false).run Try.prog W = .ok (.agg (M16 (F (x / 16) (y / 16)))) W) := Lib.hid fun W h => h.look (x / 16) (y / 16) (by unfold C32 at hx ⊢; omega) (by unfold C32 at hy ⊢; omega) _ Try.underlying65
  obtain ⟨X, eX⟩ : ∃ X : Nat, (x % 16).toNat = X := ⟨_, rfl⟩
  obtain ⟨Y, eY⟩ : ∃ X : Nat, (y % 16).toNat = X := ⟨_, rfl⟩
  have sx : x % 16 = (X : Int) := by omega
  have sy : y % 16 = (Y : Int) := by omega
  rw [sx, sy] at IB
  rw [eX, eY]
  have MH := Lib.hid (fun W => mhas_any (F (x / 16) (y / 16)) hM X Y (by omega) (by omega) W)
  generalize F (x / 16) (y / 16) = M at LK MH ⊢
  have ATS : Hid ((atA x y).size = 2) := Lib.hid rfl
  have ATO : Hid ((atA x y).all (·.oneCell') = true) := Lib.hid (by simp [atA, Value.oneCell'])
  generalize atA x y = AT at IB LK ATS ATO
  obtain ⟨w1, hw1⟩ : ∃ z, w.alloc (.cells #[.int .i32 x, .int .i32 y] 89) = z := ⟨_, rfl⟩
  have P1 : Hid (w1.heap[w.heap.size]? = some (.cells #[.int .i32 x, .int .i32 y] 89 (0, 0))) := Lib.hid (by rw [← hw1]; exact World.alloc_heap_new w _)
  have b1 : Below w.heap.size w w1 := by rw [← hw1]; exact (Below.refl _ _).alloc (Nat.le_refl _) _
  have B1 := Lib.hid b1
  have M1 := Lib.hid (HM.out.later b1)
  clear b1 hm hx hy hM eX eY sx sy
  go_enter Try.func68, Try.ntmps68
  go_wp2_with (refine wpList_load_row rfl 89 _ rfl w.heap.size rfl 89 _ _ _ P1.out Try.underlying89 rfl (cell_info _ rfl) ?_)
  refine (IB.out _).mono ?_
  rintro e w2 ⟨rfl, bb⟩
  have B2 := Lib.hid (B1.out.trans (bb.mono B1.out.size))
  have M2 := Lib.hid (M1.out.later bb)
  clear bb
  obtain ⟨w3, hw3⟩ : ∃ z, w2.alloc (.cells #[.int .i32 0, .int .i32 0] 46) = z := ⟨_, rfl⟩
  have T3 : Hid (w3.heap[w2.heap.size]? = some (.cells #[.int .i32 0, .int .i32 0] 46 (0, 0))) := Lib.hid (by rw [← hw3]; exact World.alloc_heap_new w2 _)
  obtain ⟨w4, hw4⟩ : ∃ z, w3.setRow w2.heap.size AT = z := ⟨_, rfl⟩
  have b4 : Below w2.heap.size w2 w4 := by rw [← hw4, ← hw3]; exact below_setRow ((Below.refl _ _).alloc (Nat.le_refl _) _) (Nat.le_refl _) _
  have R4 : Hid (w4.heap[w2.heap.size]? = some (.cells AT 46 (0, 0))) := Lib.hid (by rw [← hw4]; exact setRow_heap _ _ _ _ _ _ T3.out)
  have B4 := Lib.hid (B2.out.trans (b4.mono B2.out.size))
  have LK4 := LK.out w4 (M2.out.later b4)
  have AS2 : Hid ((#[Value.int .i32 0, .int .i32 0] : Array Value).size = AT.size) := Lib.hid (ATS.out.symm ▸ rfl)
  clear b4 LK
  go_wp2_with (first | (refine wpList_store_row rfl 46 _ _ rfl w2.heap.size AT rfl rfl 46 _ T3.out (co_info _ ATS.out) AS2.out ATO.out ?_; rw [hw4]) | (refine wpList_load_row rfl 46 _ rfl w2.heap.size rfl 46 _ _ _ R4.out Try.underlying46 rfl (co_info _ ATS.out) ?_))
  refine (MH.out _).mono ?_
  rintro e w5 ⟨rfl, rfl⟩
  have B5 := Lib.hid (B4.out.alloc B4.out.size (.cells (M16 M) 71))
  go_wp2
  exact bodyPost_ret (v := .bool (hasF M X Y)) (by simp [results, Try.results68, go_sem]) rfl ⟨rfl, B5.out⟩
set_option maxRecDepth 20000 in
set_option maxHeartbeats 8000000 in
theorem iPicHas_any (a : Option Addr) (n cap : Nat) (f : Nat → Int) (x y : Int) (w : World) (hn : n ≤ 1048576) (h : BlR w.heap.size w a n f) (hf : BlF n f) :
    Calls Try.prog 29 #[.slice a n cap, .int .i64 x, .int .i64 y] w fun e w' => e = .returned (.tuple #[.bool (phB f n x y), .int .i64 (phC f n x y)]) ∧ Below w.heap.size w w' := by
  cases hv : validP f n with
  | false =>
    have RP := Lib.hid (readP_no a n cap f w hn h hf hv)
    have PC : phC f n x y = 1 := by unfold phC; rw [hv]; exact if_neg (by decide)
    have PB : phB f n x y = false := by unfold phB; rw [PC]; exact if_neg (by decide)
    rw [PC, PB]
    clear hv PC PB h hf hn
    go_enter Try.func29, Try.ntmps29
    go_wp2_with fail
    refine RP.out.mono ?_
    rintro e w1 ⟨rfl, b⟩
    have B1 := Lib.hid b
    clear b RP
    obtain ⟨w2, hw2⟩ : ∃ z, w1.alloc (.cells #[.slice none 0 0, .map none] 82) = z := ⟨_, rfl⟩
    have T2 : Hid (w2.heap[w1.heap.size]? = some (.cells #[.slice none 0 0, .map none] 82 (0, 0))) := Lib.hid (by rw [← hw2]; exact World.alloc_heap_new w1 _)
    have B2 : Hid (Below w.heap.size w w2) := Lib.hid (by rw [← hw2]; exact B1.out.alloc B1.out.size _)
    have SR : Hid (w2.setRow w1.heap.size #[.slice none 0 0, .map none] = w2) := Lib.hid (setRow_self _ _ _ _ _ T2.out)
    go_wp2_with (refine wpList_store_row rfl 82 _ _ rfl w1.heap.size #[.slice none 0 0, .map none] rfl rfl 82 _ T2.out (pic_info _ rfl) rfl (row2_one _ _ _ _) ?_; rw [SR.out])
    exact bodyPost_ret (v := .tuple #[.bool false, .int .i64 1]) (by simp [results, Try.results29, go_sem]) rfl ⟨rfl, B2.out⟩
  | true =>
    have RP := Lib.hid (readP_yes a n cap f w hn h hf hv)
    have PCE := Lib.hid (isPCell_any x y)
    have FDE := Lib.hid (shF_fd hv)
    have FMB := Lib.hid (fun p q => fdF_MB hf p q)
    have PC : Hid (phC f n x y = if (colB x && colB y) = true then 0 else 2) := Lib.hid (by unfold phC; rw [hv, if_pos rfl])
    cases hc : colB x && colB y with
    | false =>
      have PC2 : phC f n x y = 2 := by rw [PC.out, hc]; rfl
      have PB : phB f n x y = false := by unfold phB; rw [PC2]; exact if_neg (by decide)
      rw [PC2, PB]
      rw [hc] at PCE
      clear hv hc PC PC2 PB h hf hn
      go_enter Try.func29, Try.ntmps29
      go_wp2_with fail
      refine RP.out.mono ?_
      rintro e w1 ⟨mb, rfl, hM, b⟩
      have B1 := Lib.hid b
      clear b hM RP
      obtain ⟨w2, hw2⟩ : ∃ z, w1.alloc (.cells #[.slice none 0 0, .map none] 82) = z := ⟨_, rfl⟩
      have T2 : Hid (w2.heap[w1.heap.size]? = some (.cells #[.slice none 0 0, .map none] 82 (0, 0))) := Lib.hid (by rw [← hw2]; exact World.alloc_heap_new w1 _)
      obtain ⟨w3, hw3⟩ : ∃ z, w2.setRow w1.heap.size #[.slice a n cap, .map (some mb)] = z := ⟨_, rfl⟩
      have b3 : Below w1.heap.size w1 w3 := by rw [← hw3, ← hw2]; exact below_setRow ((Below.refl _ _).alloc (Nat.le_refl _) _) (Nat.le_refl _) _
      have R3 : Hid (w3.heap[w1.heap.size]? = some (.cells #[.slice a n cap, .map (some mb)] 82 (0, 0))) := Lib.hid (by rw [← hw3]; exact setRow_heap _ _ _ _ _ _ T2.out)
      have B3 := Lib.hid (B1.out.trans (b3.mono B1.out.size))
      go_wp2_with (first | (refine wpList_store_row rfl 82 _ _ rfl w1.heap.size #[.slice a n cap, .map (some mb)] rfl rfl 82 _ T2.out (pic_info _ rfl) rfl (row2_one _ _ _ _) ?_; rw [hw3]) | ((with_reducible refine (PCE.out _).mono ?_); rintro e w' ⟨rfl, rfl⟩))
      exact bodyPost_ret (v := .tuple #[.bool false, .int .i64 2]) (by simp [results, Try.results29, go_sem]) rfl ⟨rfl, B3.out⟩
    | true =>
      have PC2 : phC f n x y = 0 := by rw [PC.out, hc]; rfl
      have PB : phB f n x y = phV f n x y := by unfold phB; rw [PC2]; rfl
      rw [PC2, PB]
      have hc2 := hc
      simp only [Bool.and_eq_true] at hc2
      obtain ⟨x0, x1⟩ := colB_yes hc2.1
      obtain ⟨y0, y1⟩ := colB_yes hc2.2
      have ex := i32_in (a := x) (by omega)
      have ey := i32_in (a := y) (by omega)
      have SHC : Hid (∀ b W, MapM b n (shF f n) W → Calls Try.prog 68 #[.map (some b), .agg #[.int .i32 x, .int .i32 y]] W fun e w' => e = .returned (.bool (phV f n x y)) ∧ Below W.heap.size W w') := Lib.hid fun b W hM => by
        have := sheetHas_any b n (shF f n) x y W hM (by unfold C32; omega) (by unfold C32; omega) (by rw [FDE.out]; exact FMB.out _ _)
        rw [FDE.out] at this
        exact this
      rw [hc] at PCE
      generalize phV f n x y = r at SHC ⊢
      clear hv hc hc2 PC PC2 PB h hf hn FDE FMB
      go_enter Try.func29, Try.ntmps29
      go_wp2_with fail
      refine RP.out.mono ?_
      rintro e w1 ⟨mb, rfl, hM, b⟩
      have B1 := Lib.hid b
      have M1 := Lib.hid hM
      clear b hM RP
      obtain ⟨w2, hw2⟩ : ∃ z, w1.alloc (.cells #[.slice none 0 0, .map none] 82) = z := ⟨_, rfl⟩
      have T2 : Hid (w2.heap[w1.heap.size]? = some (.cells #[.slice none 0 0, .map none] 82 (0, 0))) := Lib.hid (by rw [← hw2]; exact World.alloc_heap_new w1 _)
      obtain ⟨w3, hw3⟩ : ∃ z, w2.setRow w1.heap.size #[.slice a n cap, .map (some mb)] = z := ⟨_, rfl⟩
      have b3 : Below w1.heap.size w1 w3 := by rw [← hw3, ← hw2]; exact below_setRow ((Below.refl _ _).alloc (Nat.le_refl _) _) (Nat.le_refl _) _
      have R3 : Hid (w3.heap[w1.heap.size]? = some (.cells #[.slice a n cap, .map (some mb)] 82 (0, 0))) := Lib.hid (by rw [← hw3]; exact setRow_heap _ _ _ _ _ _ T2.out)
      have B3 := Lib.hid (B1.out.trans (b3.mono B1.out.size))
      have M3 := Lib.hid (M1.out.later b3)
      have SH3 := Lib.hid (SHC.out mb w3 M3.out)
      have c1 : w3.cell? ⟨w1.heap.size, 1, none⟩ = some (.map (some mb)) := Lib.cell_of_heap R3.out 1
      clear b3
      go_wp2_with (first | (refine wpList_store_row rfl 82 _ _ rfl w1.heap.size #[.slice a n cap, .map (some mb)] rfl rfl 82 _ T2.out (pic_info _ rfl) rfl (row2_one _ _ _ _) ?_; rw [hw3]) | ((with_reducible refine (PCE.out _).mono ?_); rintro e w' ⟨rfl, rfl⟩))
      refine SH3.out.mono ?_
      rintro e w4 ⟨rfl, b⟩
      have B4 := Lib.hid (B3.out.trans (b.mono B3.out.size))
      clear b
      go_wp2
      exact bodyPost_ret (v := .tuple #[.bool r, .int .i64 0]) (by simp [results, Try.results29, go_sem]) rfl ⟨rfl, B4.out⟩
end Go.Proofs.Ythfmkejdpflpcaa
