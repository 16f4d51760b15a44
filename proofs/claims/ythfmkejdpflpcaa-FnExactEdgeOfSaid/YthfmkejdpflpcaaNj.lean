/-
  CONTRACTS: the picture of cells by the specification: l07Picture.
-/
import Derived.Test.YthfmkejdpflpcaaNi
import Derived.Test.YthfmkejdpflpcaaGbb
import Derived.Deep.RegionHeld3
namespace Go.Proofs.Ythfmkejdpflpcaa
open Go.ChangeShapes Go.WideShapes Go.ChangeAt Go.RowKit
/-- the masks of the first i cells -/
def pcF (f : Nat → Int) : Nat → MF
  | 0 => fun _ _ => zI
  | i + 1 => putM (pcF f i) (f (2 * i) / 16) (f (2 * i + 1) / 16) (withF (pcF f i (f (2 * i) / 16) (f (2 * i + 1) / 16)) (f (2 * i) % 16).toNat (f (2 * i + 1) % 16).toNat true)
def oneM (x y : Nat) : Nat → Int := updI zI y (2 ^ x)
theorem oneM_MB {x : Nat} (hx : x < 16) (y : Nat) : MB (oneM x y) := fun j _ => by
  unfold oneM updI zI
  split
  · have := pow16_nat hx
    rw [pow16_int]
    generalize 2 ^ x = z at this ⊢
    omega
  · omega
theorem off_or {v : Int} (hv : 0 ≤ v ∧ v ≤ 65535) {x : Nat} (hx : x < 16) : orB (offB v x) x = bits .or .u16 v (2 ^ x) := by
  have h1 : 0 ≤ offB v x ∧ offB v x ≤ 65535 := u16_hi _ _ _
  refine row_ext (u16_hi _ _ _) (u16_hi _ _ _) fun u hu => ?_
  rw [orB_bit h1 hx, offB_bit hv hx u hu]
  have := orB_bit hv hx u
  unfold orB at this
  rw [this]
  cases decide (u = x) <;> simp
theorem with_join {m : Nat → Int} (hm : MB m) {x y : Nat} (hx : x < 16) (j : Nat) (hj : j < 16) : JoinMasksG m (oneM x y) j = withF m x y true j := by
  rw [joinG_at]
  unfold withF setF offF oneM
  rw [if_pos rfl]
  unfold updI zI
  by_cases h : j = y
  · subst h
    rw [if_pos rfl, if_pos rfl, if_pos rfl, off_or (hm j hj) hx]
  · rw [if_neg h, if_neg h, if_neg h, or_zero (hm j hj)]
theorem pcF_MB (f : Nat → Int) : ∀ i, MBF (pcF f i)
  | 0 => fun _ _ => zero_MB
  | i + 1 => fun p q => by
    show MB (putM _ _ _ _ p q)
    unfold putM
    split
    · exact withF_MB (pcF_MB f i _ _) _ _ _
    · exact pcF_MB f i p q
theorem pcF_or (f : Nat → Int) (i : Nat) (p q : Int) (j : Nat) (hj : j < 16) : orM (pcF f i) (f (2 * i) / 16) (f (2 * i + 1) / 16) (oneM (f (2 * i) % 16).toNat (f (2 * i + 1) % 16).toNat) p q j = pcF f (i + 1) p q j := by
  show putM _ _ _ _ p q j = putM _ _ _ _ p q j
  unfold putM
  split
  · exact with_join (pcF_MB f i _ _) (by omega) j hj
  · rfl
theorem OB.congr {B : Nat} {v : Value} {F G : MF} {K : List (Int × Int)} {w : World} (h : OB B v F K w) (e : ∀ p q j, j < 16 → F p q j = G p q j) : OB B v G K w := by
  unfold OB at h ⊢
  rw [← bksV_congr fun i _ y hy => e _ _ y hy]
  exact h
theorem set_not {l : Array Bool} {i j : Nat} (h : (l.setIfInBounds i true).getD j false = false) : l.getD j false = false := by
  cases hl : l.getD j false with
  | false => rfl
  | true => rw [set_keeps hl] at h; cases h
def LpPost (B : Nat) (f : Nat → Int) (i : Nat) (w : World) (e : Ending) (w' : World) : Prop := ∃ v' K', e = .returned v' ∧ PicK (pcF f i) K' ∧ K'.length ≤ i ∧ OB B v' (pcF f i) K' w' ∧ Below w.heap.size w w'
theorem m16_lit (h : Nat → Int) : M16 h = #[Value.int .u16 (h 0), Value.int .u16 (h 1), Value.int .u16 (h 2), Value.int .u16 (h 3), Value.int .u16 (h 4), Value.int .u16 (h 5), Value.int .u16 (h 6), Value.int .u16 (h 7), Value.int .u16 (h 8), Value.int .u16 (h 9), Value.int .u16 (h 10), Value.int .u16 (h 11), Value.int .u16 (h 12), Value.int .u16 (h 13), Value.int .u16 (h 14), Value.int .u16 (h 15)] := rfl
set_option maxRecDepth 100000 in
set_option maxHeartbeats 16000000 in
theorem l07Picture_any (a : Option Addr) (n cap : Nat) (f : Nat → Int) (w : World) (hn : n ≤ 1024) (h : PtR w.heap.size w a n f) (hc : ∀ i, i < n → colB (f (2 * i)) = true ∧ colB (f (2 * i + 1)) = true) :
    Calls Try.prog 54 #[.slice a n cap] w (LpPost w.heap.size f n w) := by
  unfold LpPost
  have HR := Lib.hid h
  have HC := Lib.hid hc
  have HN := Lib.hid hn
  have nI : (n : Int) ≤ 1024 := by omega
  have SO : (w.alloc (.cells #[] 73)).ownsRow w.heap.size 73 18 (.slice (some ⟨w.heap.size, 0, none⟩) 0 0) 0 [] := World.ownsRow_made (base := w.heap.size) (size := 18) (e := 73) w #[] 0 (by omega) (by unfold maxLen; omega) rfl
  have HO : Hid (OB w.heap.size (.slice (some ⟨w.heap.size, 0, none⟩) 0 0) (pcF f 0) [] (w.alloc (.cells #[] 73))) := Lib.hid SO
  have HB : Hid (Below w.heap.size w (w.alloc (.cells #[] 73))) := Lib.hid ((Below.refl _ w).alloc (Nat.le_refl _) _)
  clear h hn hc SO
  go_enter Try.func54, Try.ntmps54
  go_wp2
  generalize w.alloc (.cells #[] 73) = w1 at HB HO ⊢
  go_loopw [3, 4] (fun v vi wr => ∃ i K, i ≤ n ∧ vi = .int .i64 ((i : Nat) : Int) ∧ Hid (PicK (pcF f i) K) ∧ Hid (K.length ≤ i) ∧ Hid (OB w.heap.size v (pcF f i) K wr) ∧ Hid (Below w.heap.size w wr)) (fun _ vi _ => n - (intOf vi).toNat)
  case atStart => exact ⟨0, [], by omega, rfl, Lib.hid PicK.nil, Lib.hid (Nat.le_refl _), HO, HB⟩
  case round =>
    obtain ⟨i, K, hi, rfl, PK, LN, O1, B1⟩ := hrel
    clear HO HB
    by_cases hlt : i < n
    · have ti : (i : Int) < (n : Int) := by omega
      have HI := Lib.hid hlt
      obtain ⟨g, off, rfl, hg, hc⟩ : ∃ g off, a = some ⟨g, off, none⟩ ∧ g < w.heap.size ∧ ∀ j, j < 2 * n → w.cell? ⟨g, off + j, none⟩ = some (.int .i32 (f j)) := by
        rcases HR.out with h | h
        · omega
        · exact h
      have d0 : wr.cell? ⟨g, off + i * 2, none⟩ = some (.int .i32 (f (2 * i))) := (B1.out.cell (p := ⟨g, off + i * 2, none⟩) hg).trans (by rw [Nat.mul_comm]; exact hc (2 * i) (by omega))
      have d1 : wr.cell? ⟨g, off + i * 2 + 1, none⟩ = some (.int .i32 (f (2 * i + 1))) := (B1.out.cell (p := ⟨g, off + i * 2 + 1, none⟩) hg).trans (by rw [Nat.mul_comm, Nat.add_assoc]; exact hc (2 * i + 1) (by omega))
      obtain ⟨cx, cy⟩ := HC.out i hlt
      have AD : Hid (∀ W, OB w.heap.size u3 (pcF f i) K W → w.heap.size ≤ W.heap.size → Calls Try.prog 69 #[u3, .agg #[.int .i32 (f (2 * i) / 16), .int .i32 (f (2 * i + 1) / 16)], .agg (M16 (oneM (f (2 * i) % 16).toNat (f (2 * i + 1) % 16).toNat))] W fun e w' => ∃ v' K', e = .returned v' ∧ PicK (pcF f (i + 1)) K' ∧ K'.length ≤ i + 1 ∧ OB w.heap.size v' (pcF f (i + 1)) K' w' ∧ Below W.heap.size W w') := Lib.hid fun W hW hs =>
        (l07Add_any w.heap.size u3 (pcF f i) K (f (2 * i) / 16) (f (2 * i + 1) / 16) (oneM (f (2 * i) % 16).toNat (f (2 * i + 1) % 16).toNat) W PK.out (pcF_MB f i) (by have := colB_yes cx; unfold C32; omega) (by have := colB_yes cy; unfold C32; omega) (oneM_MB (by omega) _) (by have := LN.out; have := HN.out; omega) hs hW).mono fun e w' ⟨v', K', h1, h2, h3, h4, h5⟩ => ⟨v', K', h1, h2.congr fun p q _ _ y hy => pcF_or f i p q y hy, Nat.le_trans h3 (by have := LN.out; omega), h4.congr fun p q y hy => pcF_or f i p q y hy, h5⟩
      have CN := Lib.hid (l07Corner_any (f (2 * i)) (f (2 * i + 1)) cx cy)
      have LX := Lib.hid (l07Low_any (f (2 * i)) cx)
      have LY := Lib.hid (l07Low_any (f (2 * i + 1)) cy)
      obtain ⟨x0, x1⟩ := colB_yes cx
      obtain ⟨y0, y1⟩ := colB_yes cy
      unfold atA at CN
      obtain ⟨x, hx⟩ : ∃ z, f (2 * i) = z := ⟨_, rfl⟩
      obtain ⟨y, hy⟩ : ∃ z, f (2 * i + 1) = z := ⟨_, rfl⟩
      rw [hx] at d0 AD CN LX x0 x1
      rw [hy] at d1 AD CN LY y0 y1
      obtain ⟨X, hX⟩ : ∃ z, (x % 16).toNat = z := ⟨_, rfl⟩
      obtain ⟨Y, hY⟩ : ∃ z, (y % 16).toNat = z := ⟨_, rfl⟩
      rw [hX, hY] at AD
      have ex : x - 16 * (x / 16) = (X : Int) := by omega
      have ey : y - 16 * (y / 16) = (Y : Int) := by omega
      have X16 : X < 16 := by omega
      have Y16 : Y < 16 := by omega
      obtain ⟨p, hp⟩ : ∃ z, x / 16 = z := ⟨_, rfl⟩
      obtain ⟨q, hq⟩ : ∃ z, y / 16 = z := ⟨_, rfl⟩
      rw [hp] at AD CN LX ex
      rw [hq] at AD CN LY ey
      clear hx hy hX hY hp hq hc cx cy hlt hi
      obtain ⟨w3, hw3⟩ : ∃ z, wr.alloc (.cells #[Value.int .u16 0, Value.int .u16 0, Value.int .u16 0, Value.int .u16 0, Value.int .u16 0, Value.int .u16 0, Value.int .u16 0, Value.int .u16 0, Value.int .u16 0, Value.int .u16 0, Value.int .u16 0, Value.int .u16 0, Value.int .u16 0, Value.int .u16 0, Value.int .u16 0, Value.int .u16 0] 71) = z := ⟨_, rfl⟩
      have T3 : Hid (w3.heap[wr.heap.size]? = some (.cells (M16 zI) 71 (0, 0))) := Lib.hid (by rw [← hw3]; exact World.alloc_heap_new wr _)
      have b3 : Hid (Below wr.heap.size wr w3) := Lib.hid (by rw [← hw3]; exact (Below.refl _ _).alloc (Nat.le_refl _) _)
      have c3 : w3.cell? ⟨wr.heap.size, Y, none⟩ = some (.int .u16 0) := (Lib.cell_of_heap T3.out Y).trans (arr_get _ _ _ _ Y16)
      have f3 : w3.frozen? ⟨wr.heap.size, Y, none⟩ = false := Lib.frozen_of_heap T3.out Y
      have T4 : Hid (w3.heap[wr.heap.size]? = some (.cells #[Value.int .u16 0, Value.int .u16 0, Value.int .u16 0, Value.int .u16 0, Value.int .u16 0, Value.int .u16 0, Value.int .u16 0, Value.int .u16 0, Value.int .u16 0, Value.int .u16 0, Value.int .u16 0, Value.int .u16 0, Value.int .u16 0, Value.int .u16 0, Value.int .u16 0, Value.int .u16 0] 71 (0, 0))) := Lib.hid (by rw [← hw3]; exact World.alloc_heap_new wr _)
      have SR : Hid (w3.setRow wr.heap.size #[Value.int .u16 0, Value.int .u16 0, Value.int .u16 0, Value.int .u16 0, Value.int .u16 0, Value.int .u16 0, Value.int .u16 0, Value.int .u16 0, Value.int .u16 0, Value.int .u16 0, Value.int .u16 0, Value.int .u16 0, Value.int .u16 0, Value.int .u16 0, Value.int .u16 0, Value.int .u16 0] = w3) := Lib.hid (setRow_self _ _ _ _ _ T4.out)
      have hXI : (X : Int) < 16 := by omega
      have hYI : (Y : Int) < 16 := by omega
      obtain ⟨w4, hw4⟩ : ∃ z, w3.setCell ⟨wr.heap.size, Y, none⟩ (.int .u16 (IntKind.u16.wrap (2 ^ X))) = z := ⟨_, rfl⟩
      have T5 : Hid (w4.heap[wr.heap.size]? = some (.cells (M16 (oneM X Y)) 71 (0, 0))) := Lib.hid (by
        rw [← hw4, mset_at T3.out, arr_set _ _ _ _ _ Y16, show IntKind.u16.wrap (2 ^ X) = 2 ^ X from pow16 X16]
        rfl)
      have B4 : Hid (Below wr.heap.size wr w4) := Lib.hid (by rw [← hw4]; exact b3.out.setCell (p := ⟨wr.heap.size, Y, none⟩) (Nat.le_refl _) _)
      obtain ⟨A, hA⟩ : ∃ z, M16 (oneM X Y) = z := ⟨_, rfl⟩
      rw [hA] at T5 AD
      have AS : Hid (A.size = 16) := Lib.hid (by rw [← hA]; exact arr_size _ _ _)
      have LA : Hid (∀ W, Below w4.heap.size w4 W → W.heap[wr.heap.size]? = some (.cells A 71 (0, 0))) := Lib.hid fun W hW => (hW.block _ (Array.getElem?_eq_some_iff.1 T5.out).1).trans T5.out
      have AD2 : Hid (∀ W, Below w4.heap.size w4 W → Calls Try.prog 69 #[u3, .agg #[.int .i32 p, .int .i32 q], .agg A] W fun e w' => ∃ v' K', e = .returned v' ∧ PicK (pcF f (i + 1)) K' ∧ K'.length ≤ i + 1 ∧ OB w.heap.size v' (pcF f (i + 1)) K' w' ∧ Below W.heap.size W w') := Lib.hid fun W hW => AD.out W ((O1.out.kept (below_grown B4.out) (ownNone _)).kept (below_grown hW) (ownNone _)) (Nat.le_trans B1.out.size (Nat.le_trans B4.out.size hW.size))
      clear hA AD
      go_wp2_with (first | (refine wpList_store_row rfl 71 _ _ rfl wr.heap.size #[Value.int .u16 0, Value.int .u16 0, Value.int .u16 0, Value.int .u16 0, Value.int .u16 0, Value.int .u16 0, Value.int .u16 0, Value.int .u16 0, Value.int .u16 0, Value.int .u16 0, Value.int .u16 0, Value.int .u16 0, Value.int .u16 0, Value.int .u16 0, Value.int .u16 0, Value.int .u16 0] rfl rfl 71 _ T4.out (mask_info _ rfl) rfl (arr_cells .u16 16 zI) ?_; rw [SR.out]) | ((with_reducible refine (LX.out _).mono ?_); rintro e w' ⟨rfl, rfl⟩) | ((with_reducible refine (LY.out _).mono ?_); rintro e w' ⟨rfl, rfl⟩))
      refine wp_region_inv (by kernel_rfl) (fun listed act W => listed.size = 7 ∧ (Below w4.heap.size w4 W ∧ (listed.getD 6 false = true → listed.getD 0 false = true) ∧ (listed.getD 6 false = false → act.tmps.getD 3 undef = u3)) ∧ ∃ x0 x1 x2 x3 x4 x5 x6, act = { tmps := #[.slice (some ⟨g, off, none⟩) n cap, undef, .slice none 0 0, x6, .int .i64 (i : Int), .int .i64 x, .int .i64 y, .pointer (some ⟨wr.heap.size, 0, none⟩), .slice (some ⟨w.heap.size, 0, none⟩) 0 0, .int .i64 (i : Int), .slice (some ⟨g, off, none⟩) n cap, .int .i64 (n : Int), .bool true, u13, u14, .slice (some ⟨g, off, none⟩) n cap, .int .i64 (i : Int), .pointer (some ⟨g, off + i * 2, none⟩), .pointer (some ⟨g, off + i * 2, none⟩), .int .i32 x, .int .i64 x, .slice (some ⟨g, off, none⟩) n cap, .int .i64 (i : Int), .pointer (some ⟨g, off + i * 2, none⟩), .pointer (some ⟨g, off + i * 2 + 1, none⟩), .int .i32 y, .int .i64 y, .agg #[.int .u16 0, .int .u16 0, .int .u16 0, .int .u16 0, .int .u16 0, .int .u16 0, .int .u16 0, .int .u16 0, .int .u16 0, .int .u16 0, .int .u16 0, .int .u16 0, .int .u16 0, .int .u16 0, .int .u16 0, .int .u16 0], .int .i64 y, .int .i64 y, .int .i64 q, .int .i64 (16 * q), .int .i64 (Y : Int), .int .i64 x, .int .i64 x, .int .i64 p, .int .i64 (16 * p), .int .i64 (X : Int), .int .u64 (X : Int), .int .u16 (IntKind.u16.wrap (2 ^ X)), .pointer (some ⟨wr.heap.size, Y, none⟩), x0, x1, x2, x3, x4, x5, undef], defers := [] } ∧ (listed.getD 0 false = true → x0 = u3) ∧ (listed.getD 1 false = true → x1 = .int .i64 x) ∧ (listed.getD 2 false = true → x2 = .int .i64 y) ∧ (listed.getD 3 false = true → x3 = .agg #[.int .i32 p, .int .i32 q]) ∧ (listed.getD 4 false = true → x4 = .agg A) ∧ (listed.getD 5 false = true → (∃ K2, PicK (pcF f (i + 1)) K2 ∧ K2.length ≤ i + 1 ∧ OB w.heap.size x5 (pcF f (i + 1)) K2 W)) ∧ (listed.getD 6 false = true → (listed.getD 5 false = true ∧ x6 = x5))) (by kernel_rfl) ?h0z (fun _ _ _ h => h.1) ?hstepz ?hendz
      case h0z =>
        refine ⟨rfl, ⟨(Below.refl _ _).drew, fun h => absurd h (by decide), fun _ => rfl⟩, _, _, _, _, _, _, _, rfl, ?_, ?_, ?_, ?_, ?_, ?_, ?_⟩ <;> (intro h; exact absurd h (by decide))
      case hstepz =>
        rintro listed act W ii oo ⟨hs, hB, x0, x1, x2, x3, x4, x5, x6, rfl, e0, e1, e2, e3, e4, e5, e6⟩ hun hio hpre
        have HB := Lib.hid hB
        have E0 := Lib.hid e0
        have E1 := Lib.hid e1
        have E2 := Lib.hid e2
        have E3 := Lib.hid e3
        have E4 := Lib.hid e4
        have E5 := Lib.hid e5
        have E6 := Lib.hid e6
        have HS := Lib.hid hs
        have HU := Lib.hid hun
        have PRE := Lib.hid hpre
        clear e0 e1 e2 e3 e4 e5 e6 hs hpre hB hun
        match ii, hio with
        | 0, hio =>
          clear hio
          have n6 : listed.getD 6 false = false := by
            cases h : listed.getD 6 false with
            | false => rfl
            | true => exact absurd (HB.out.2.1 h) (by rw [nlist HU.out]; decide)
          have hx6 : x6 = u3 := HB.out.2.2 n6
          obtain rfl := hx6
          refine wpOp_by rfl fun KK HK => ?_
          go_wp2_with (fail)
          exact HK.out _ _ ⟨by rw [Array.size_setIfInBounds, HS.out], ⟨HB.out.1, fun h => set_keeps (HB.out.2.1 ((listed_set h).resolve_left (by decide))), fun h => HB.out.2.2 (set_not h)⟩, _, _, _, _, _, _, _, rfl, fun _ => rfl, fun h => E1.out ((listed_set h).resolve_left (by decide)), fun h => E2.out ((listed_set h).resolve_left (by decide)), fun h => E3.out ((listed_set h).resolve_left (by decide)), fun h => E4.out ((listed_set h).resolve_left (by decide)), fun h => (E5.out ((listed_set h).resolve_left (by decide))), fun h => ⟨set_keeps ((E6.out ((listed_set h).resolve_left (by decide)))).1, ((E6.out ((listed_set h).resolve_left (by decide)))).2⟩⟩
        | 1, hio =>
          clear hio
          refine wpOp_by rfl fun KK HK => ?_
          go_wp2_with (fail)
          exact HK.out _ _ ⟨by rw [Array.size_setIfInBounds, HS.out], ⟨HB.out.1, fun h => set_keeps (HB.out.2.1 ((listed_set h).resolve_left (by decide))), fun h => HB.out.2.2 (set_not h)⟩, _, _, _, _, _, _, _, rfl, fun h => E0.out ((listed_set h).resolve_left (by decide)), fun _ => rfl, fun h => E2.out ((listed_set h).resolve_left (by decide)), fun h => E3.out ((listed_set h).resolve_left (by decide)), fun h => E4.out ((listed_set h).resolve_left (by decide)), fun h => (E5.out ((listed_set h).resolve_left (by decide))), fun h => ⟨set_keeps ((E6.out ((listed_set h).resolve_left (by decide)))).1, ((E6.out ((listed_set h).resolve_left (by decide)))).2⟩⟩
        | 2, hio =>
          clear hio
          refine wpOp_by rfl fun KK HK => ?_
          go_wp2_with (fail)
          exact HK.out _ _ ⟨by rw [Array.size_setIfInBounds, HS.out], ⟨HB.out.1, fun h => set_keeps (HB.out.2.1 ((listed_set h).resolve_left (by decide))), fun h => HB.out.2.2 (set_not h)⟩, _, _, _, _, _, _, _, rfl, fun h => E0.out ((listed_set h).resolve_left (by decide)), fun h => E1.out ((listed_set h).resolve_left (by decide)), fun _ => rfl, fun h => E3.out ((listed_set h).resolve_left (by decide)), fun h => E4.out ((listed_set h).resolve_left (by decide)), fun h => (E5.out ((listed_set h).resolve_left (by decide))), fun h => ⟨set_keeps ((E6.out ((listed_set h).resolve_left (by decide)))).1, ((E6.out ((listed_set h).resolve_left (by decide)))).2⟩⟩
        | 3, hio =>
          simp only [List.getElem?_toArray, List.getElem?_cons_succ, List.getElem?_cons_zero, Option.some.injEq] at hio
          subst hio
          have p1 := PRE.out ⟨1, .data⟩ (by simp) rfl
          have p2 := PRE.out ⟨2, .data⟩ (by simp) rfl
          obtain rfl := E1.out p1
          obtain rfl := E2.out p2
          refine wpOp_by rfl fun KK HK => ?_
          go_wp2_with fail
          refine Calls.mono (CN.out _) ?_
          rintro e W' ⟨rfl, b⟩
          go_wp2
          exact HK.out _ _ ⟨by rw [Array.size_setIfInBounds, HS.out], ⟨HB.out.1.trans (b.mono HB.out.1.size), fun h => set_keeps (HB.out.2.1 ((listed_set h).resolve_left (by decide))), fun h => HB.out.2.2 (set_not h)⟩, _, _, _, _, _, _, _, rfl, fun h => E0.out ((listed_set h).resolve_left (by decide)), fun _ => rfl, fun _ => rfl, fun _ => rfl, fun h => E4.out ((listed_set h).resolve_left (by decide)), fun h => (E5.out ((listed_set h).resolve_left (by decide))).imp fun K2 hk => ⟨hk.1, hk.2.1, hk.2.2.kept (below_grown b) (ownNone _)⟩, fun h => ⟨set_keeps ((E6.out ((listed_set h).resolve_left (by decide)))).1, ((E6.out ((listed_set h).resolve_left (by decide)))).2⟩⟩
        | 4, hio =>
          clear hio
          refine wpOp_by rfl fun KK HK => ?_
          go_wp2_with ((refine wpList_load_row rfl 71 _ rfl wr.heap.size rfl 71 _ _ _ (LA.out _ HB.out.1) Try.underlying71 rfl (mask_info _ AS.out) ?_))
          exact HK.out _ _ ⟨by rw [Array.size_setIfInBounds, HS.out], ⟨HB.out.1, fun h => set_keeps (HB.out.2.1 ((listed_set h).resolve_left (by decide))), fun h => HB.out.2.2 (set_not h)⟩, _, _, _, _, _, _, _, rfl, fun h => E0.out ((listed_set h).resolve_left (by decide)), fun h => E1.out ((listed_set h).resolve_left (by decide)), fun h => E2.out ((listed_set h).resolve_left (by decide)), fun h => E3.out ((listed_set h).resolve_left (by decide)), fun _ => rfl, fun h => (E5.out ((listed_set h).resolve_left (by decide))), fun h => ⟨set_keeps ((E6.out ((listed_set h).resolve_left (by decide)))).1, ((E6.out ((listed_set h).resolve_left (by decide)))).2⟩⟩
        | 5, hio =>
          simp only [List.getElem?_toArray, List.getElem?_cons_succ, List.getElem?_cons_zero, Option.some.injEq] at hio
          subst hio
          have p0 := PRE.out ⟨0, .data⟩ (by simp) rfl
          have p3 := PRE.out ⟨3, .data⟩ (by simp) rfl
          have p4 := PRE.out ⟨4, .data⟩ (by simp) rfl
          obtain rfl := E0.out p0
          obtain rfl := E3.out p3
          obtain rfl := E4.out p4
          refine wpOp_by rfl fun KK HK => ?_
          go_wp2_with fail
          refine Calls.mono (AD2.out _ HB.out.1) ?_
          rintro e W' ⟨v2, K2, rfl, k1, k2, k3, b⟩
          go_wp2
          exact HK.out _ _ ⟨by rw [Array.size_setIfInBounds, HS.out], ⟨HB.out.1.trans (b.mono HB.out.1.size), fun h => set_keeps (HB.out.2.1 ((listed_set h).resolve_left (by decide))), fun h => HB.out.2.2 (set_not h)⟩, _, _, _, _, _, _, _, rfl, fun _ => rfl, fun h => E1.out ((listed_set h).resolve_left (by decide)), fun h => E2.out ((listed_set h).resolve_left (by decide)), fun _ => rfl, fun _ => rfl, fun _ => ⟨K2, k1, k2, k3⟩, fun h => absurd (E6.out ((listed_set h).resolve_left (by decide))).1 (by rw [nlist HU.out]; decide)⟩
        | 6, hio =>
          simp only [List.getElem?_toArray, List.getElem?_cons_succ, List.getElem?_cons_zero, Option.some.injEq] at hio
          subst hio
          have p5 := PRE.out ⟨5, .data⟩ (by simp) rfl
          refine wpOp_by rfl fun KK HK => ?_
          go_wp2_with (fail)
          exact HK.out _ _ ⟨by rw [Array.size_setIfInBounds, HS.out], ⟨HB.out.1, fun _ => set_keeps (PRE.out ⟨0, .phase⟩ (by simp) rfl), fun h => absurd h (by simp [Array.getD_eq_getD_getElem?, HS.out])⟩, _, _, _, _, _, _, _, rfl, fun h => E0.out ((listed_set h).resolve_left (by decide)), fun h => E1.out ((listed_set h).resolve_left (by decide)), fun h => E2.out ((listed_set h).resolve_left (by decide)), fun h => E3.out ((listed_set h).resolve_left (by decide)), fun h => E4.out ((listed_set h).resolve_left (by decide)), fun h => (E5.out ((listed_set h).resolve_left (by decide))), fun _ => ⟨set_keeps p5, rfl⟩⟩
        | k + 7, hio => simp at hio
      case hendz =>
        rintro listed act W1 ⟨hs, hB, x0, x1, x2, x3, x4, x5, x6, rfl, e0, e1, e2, e3, e4, e5, e6⟩ hall
        obtain rfl := e0 (hall 0 (by decide))
        obtain rfl := e1 (hall 1 (by decide))
        obtain rfl := e2 (hall 2 (by decide))
        obtain rfl := e3 (hall 3 (by decide))
        obtain rfl := e4 (hall 4 (by decide))
        have e5 := e5 (hall 5 (by decide))
        have e6 := e6 (hall 6 (by decide))
        obtain ⟨K2, k1, k2, k3⟩ := e5
        obtain ⟨-, rfl⟩ := e6
        clear hs
        have BF : Hid (Below w.heap.size w W1) := Lib.hid (B1.out.trans ((B4.out.trans (hB.1.mono B4.out.size)).mono B1.out.size))
        have KF := Lib.hid k1
        have LF := Lib.hid k2
        have OF := Lib.hid k3
        clear k1 k2 k3 hB
        go_wp2
        go_roundw
        case rel => exact ⟨i + 1, K2, HI.out, by go_num, KF, LF, OF, BF⟩
        case measure => have := HI.out; simp [intOf]; omega
    · have ti : ¬ (i : Int) < (n : Int) := by omega
      have KF : Hid (PicK (pcF f n) K) := Lib.hid (by have : i = n := by omega
                                                      rw [← this]; exact PK.out)
      have LF : Hid (K.length ≤ n) := Lib.hid (by have := LN.out; omega)
      have OF : Hid (OB w.heap.size u3 (pcF f n) K wr) := Lib.hid (by have : i = n := by omega
                                                                      rw [← this]; exact O1.out)
      clear hlt hi
      go_wp2
      exact bodyPost_ret (v := u3) (by simp [results, Try.results54, go_sem]) rfl ⟨_, rfl, K, KF.out, LF.out, OF.out, B1.out⟩
end Go.Proofs.Ythfmkejdpflpcaa
