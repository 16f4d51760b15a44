/-
  CONTRACT: the specification's RankReduced.
-/
import Derived.Test.YtepopepafdjjlaaWdw
import Derived.Test.YtepopepafdjjlaaWdg
namespace Go.Proofs.Ytepopepafdjjlaa
open Go.ChangeShapes Go.WideShapes Go.ChangeAt Go.RowKit
open Wd
/-- the letter of a number -/
def letB : Nat → UInt8
  | 0 => 97 | 1 => 65 | 2 => 98 | 3 => 66 | 4 => 99 | 5 => 67 | 6 => 100 | _ => 68
/-- what the letters below one add behind another -/
def innR (p : Option UInt8) (each : Int) : Nat → Int
  | 0 => 0
  | x + 1 => innR p each x + (if p = some (oth (letB x)) then 0 else each)
def prevL (l : List UInt8) (i : Nat) : Option UInt8 := if i = 0 then none else l[i - 1]?
/-- the rank by the first letters -/
def rankTo (g : Int) (l : List UInt8) : Nat → Int
  | 0 => 0
  | i + 1 => rankTo g l i + innR (prevL l i) (ways g true (l.length - i - 1)) (lnum (l[i]?.getD 0)).toNat
theorem drewN_below0 {B : Nat} {w : World} (n : Nat) : Below B w (w.drewN n) := ⟨rfl, rfl, rfl, Nat.le_refl _, fun _ _ => rfl⟩
theorem innR_le {each : Int} (h1 : 1 ≤ each) (h2 : each ≤ 68719476736) (p : Option UInt8) (x : Nat) : 0 ≤ innR p each x ∧ innR p each x ≤ x * 68719476736 := by
  induction x with
  | zero => simp [innR]
  | succ x ih =>
    unfold innR
    split <;> (push_cast; omega)
theorem rankTo_le {g : Int} (h1 : 1 ≤ g) (h2 : g ≤ 4) {l : List UInt8} (hl : l.length ≤ 12) (i : Nat) : 0 ≤ rankTo g l i ∧ rankTo g l i ≤ i * 549755813888 := by
  induction i with
  | zero => simp [rankTo]
  | succ i ih =>
    unfold rankTo
    obtain ⟨a, b⟩ := ways_le h1 h2 true (k := l.length - i - 1) (by omega)
    obtain ⟨c, d⟩ := innR_le a b (prevL l i) (lnum (l[i]?.getD 0)).toNat
    have e : lnum (l[i]?.getD 0) ≤ 7 := by unfold lnum; repeat' split
                                           all_goals omega
    generalize innR _ _ _ = y at c d ⊢
    generalize lnum _ = z at d e
    have : (z.toNat : Int) * 68719476736 ≤ 7 * 68719476736 := by omega
    push_cast
    omega
theorem idx_xor (y : Nat) (hy : y ≤ 7) (w : World) : (Instr.index 9 (.string (⟨#[97, 65, 98, 66, 99, 67, 100, 68]⟩ : ByteArray)) (.int .i64 (bits BinOp.xor IntKind.i64 (y : Int) 1))).run Try.prog w = .ok (.int .u8 (((oth (letB y)).toNat : Nat) : Int)) w := by
  obtain rfl | rfl | rfl | rfl | rfl | rfl | rfl | rfl : y = 0 ∨ y = 1 ∨ y = 2 ∨ y = 3 ∨ y = 4 ∨ y = 5 ∨ y = 6 ∨ y = 7 := by omega
  all_goals
    rw [run_index_string w 9 _ .i64 _ Try.underlying9, dif_pos (by decide)]
    rfl
set_option maxHeartbeats 2000000 in
theorem rank_core (g : Int) (h1 : 1 ≤ g) (h2 : g ≤ 4) (l : List UInt8) (hl : ∀ c ∈ l, isL c = true) (hm : l.length ≤ 12) (hg : givenC g l = 0) (w : World) :
    Calls Try.prog 33 #[.int .i64 g, .string (txt l)] w fun e w' => e = .returned (.tuple #[.int .i64 (rankTo g l l.length), .int .i64 0]) ∧ Below w.heap.size w w' := by
  have hs := txt_size l
  have hm' : (l.length : Int) ≤ 12 := by omega
  have HL := Lib.hid hl
  have GC : Hid (∀ w, Calls Try.prog 59 #[.int .i64 g, .string (txt l)] w fun e w' => e = .returned (.int .i64 0) ∧ Below w.heap.size w w') := Lib.hid fun w => by
    have := given_any g l (by omega) w; rw [hg] at this; exact this
  have t0 : decide ((12 : Int) < (l.length : Int)) = false := by simp; omega
  clear hl hg
  go_enter Try.func33, Try.ntmps33
  go_wp2_with (go_at_call 59; refine (GC.out _).mono ?_; rintro e w0 ⟨rfl, b0⟩)
  have B0 := Lib.hid b0
  clear b0
  go_loopw [7, 8] (fun r i wr => ∃ k : Nat, k ≤ l.length ∧ i = .int .i64 (k : Int) ∧ r = .int .i64 (rankTo g l k) ∧ Below w.heap.size w wr) (fun _ i _ => l.length - (intOf i).toNat)
  case atStart => exact ⟨0, Nat.zero_le _, rfl, rfl, B0.out⟩
  case round =>
    obtain ⟨k, hk, rfl, rfl, hB⟩ := hrel
    have B := Lib.hid hB
    clear hB B0
    by_cases hlt : k < l.length
    · have t1 : decide (k < l.length) = true := by simpa using hlt
      obtain ⟨q, hq⟩ : ∃ q : Nat, l.length = k + q + 1 := ⟨l.length - k - 1, by omega⟩
      have hq12 : q ≤ 12 := by omega
      have e1 : (l.length : Int) - (k : Int) - 1 = (q : Int) := by omega
      have e2 : (l.length : Int) - (k : Int) = (q : Int) + 1 := by omega
      have WQ := Lib.hid (ways_any g h1 h2 q hq12 true)
      have LQ := Lib.hid (ways_le h1 h2 true hq12)
      have hi := idx_txt l k hlt
      have NX : Hid (rankTo g l (k + 1) = rankTo g l k + innR (prevL l k) (ways g true q) (lnum (l[k]'hlt)).toNat) := Lib.hid (by
        show rankTo g l k + innR _ (ways g true (l.length - k - 1)) (lnum (l[k]?.getD 0)).toNat = _
        rw [show l.length - k - 1 = q from by omega, List.getElem?_eq_getElem hlt]; rfl)
      have IL : Hid (isL l[k] = true) := Lib.hid (HL.out _ (List.getElem_mem hlt))
      have RB := rankTo_le h1 h2 hm k
      have PV : Hid ((k = 0 ∧ prevL l k = none) ∨ ∃ (j : Nat) (d : UInt8), k = j + 1 ∧ prevL l k = some d ∧ ∀ w, (Instr.index 9 (.string (txt l)) (.int .i64 (j : Int))).run Try.prog w = .ok (.int .u8 ((d.toNat : Nat) : Int)) w) := Lib.hid (by
        cases k with
        | zero => exact .inl ⟨rfl, rfl⟩
        | succ j =>
          refine .inr ⟨j, l[j], rfl, ?_, idx_txt l j (by omega)⟩
          unfold prevL
          rw [if_neg (by omega), Nat.add_sub_cancel, List.getElem?_eq_getElem (by omega)])
      generalize l[k] = c at hi NX IL
      have WQ2 : Hid (∀ w, Calls Try.prog 56 #[.int .i64 g, .int .i64 ((l.length : Int) - (k : Int) - 1), .bool true] w fun e w' => e = .returned (.int .i64 (ways g true q)) ∧ w = w') := Lib.hid (by rw [e1]; exact WQ.out)
      obtain ⟨E1, E2⟩ := LQ.out
      generalize prevL l k = pv at NX PV
      generalize hR : rankTo g l k = r0 at NX RB
      have IB := Lib.hid (fun y => innR_le E1 E2 pv y)
      generalize ways g true q = ee at NX WQ2 E1 E2 IB
      obtain ⟨c0, c7⟩ := lnum_yes IL.out
      have LC := Lib.hid (letter_any c)
      have HK := Lib.hid hlt
      clear hR WQ LQ
      obtain ⟨R1, R2⟩ := RB
      have R3 : r0 ≤ 6597069766656 := by omega
      generalize hlc : lnum c = z at c0 c7 LC NX
      clear hlc
      have hk12 : (k : Int) ≤ 12 := by omega
      clear hlt R2 e2 e1 hq
      go_wp2_with (go_at_call 56; with_reducible refine (WQ2.out _).mono ?_; rintro e w' ⟨rfl, rfl⟩)
      go_loopw [7, 10] (fun r x wq => ∃ y : Nat, (y : Int) ≤ z ∧ x = .int .i64 (y : Int) ∧ r = .int .i64 (r0 + innR pv ee y) ∧ Below w.heap.size w wq) (fun _ x _ => (z - intOf x).toNat)
      case atStart => exact ⟨0, by omega, rfl, by simp [innR], B.out⟩
      case round =>
        obtain ⟨y, hy, rfl, rfl, hB2⟩ := hrel
        have BI := Lib.hid hB2
        clear hB2
        by_cases hyz : (y : Int) < z
        · have t3 : decide ((y : Int) < z) = true := by simpa using hyz
          have NI : Hid (innR pv ee (y + 1) = innR pv ee y + (if pv = some (oth (letB y)) then 0 else ee)) := Lib.hid rfl
          have ib := IB.out y
          have HY : Hid (((y + 1 : Nat) : Int) ≤ z) := Lib.hid (by omega)
          generalize innR pv ee y = s at NI ib ⊢
          obtain ⟨ib1, ib3⟩ := ib
          have hy6 : y ≤ 6 := by omega
          have ib2 : s ≤ 481036337152 := by omega
          clear hyz ib3 hy
          rcases PV.out with ⟨hk0, hpv⟩ | ⟨j, d, hk1, hpv, hj⟩
          · have NJ : Hid (innR pv ee (y + 1) = s + ee) := Lib.hid (by rw [NI.out, hpv]; simp)
            have hy' : (y : Int) ≤ 6 := by omega
            have t5 : ((k : Int) == 0) = true := by rw [hk0]; rfl
            clear hpv NI PV hy6 hk0
            go_wp2_with (go_at_call 60; with_reducible refine (LC.out _).mono ?_; rintro e w' ⟨rfl, rfl⟩)
            go_quiet (fail)
            generalize hW : wr.drewN nq = w1
            have BJ : Hid (Below w.heap.size w w1) := Lib.hid (by rw [← hW]; exact BI.out.trans (drewN_below0 nq))
            clear hW
            go_wp2
            go_roundw
            case rel => exact ⟨y + 1, HY.out, by go_num, by rw [NJ.out, Int.add_assoc], BJ.out⟩
            case measure => have := HY.out; simp [intOf]; omega
          · have t5 : ((k : Int) == 0) = false := by rw [beq_eq_false_iff_ne]; omega
            have hj' : ∀ w, (Instr.index 9 (.string (txt l)) (.int .i64 ((k : Int) - 1))).run Try.prog w = .ok (.int .u8 ((d.toNat : Nat) : Int)) w := by
              rw [show (k : Int) - 1 = (j : Int) from by omega]; exact hj
            have hk1' : (1 : Int) ≤ k := by omega
            clear hk1 hj PV
            have hx := idx_xor y (by omega)
            have hy' : (y : Int) ≤ 6 := by omega
            by_cases hd : d = oth (letB y)
            · have NJ : Hid (innR pv ee (y + 1) = s) := Lib.hid (by rw [NI.out, hpv, if_pos (by rw [hd])]; omega)
              have t6 : (((d.toNat : Nat) : Int) == (((oth (letB y)).toNat : Nat) : Int)) = true := by rw [hd]; simp
              clear hpv NI hd hy6
              generalize oth (letB y) = o at hx t6
              go_wp2_with (go_at_call 60; with_reducible refine (LC.out _).mono ?_; rintro e w' ⟨rfl, rfl⟩)
              go_quiet (fail)
              generalize hW : wr.drewN nq = w1
              have BJ : Hid (Below w.heap.size w w1) := Lib.hid (by rw [← hW]; exact BI.out.trans (drewN_below0 nq))
              clear hW
              go_wp2
              go_roundw
              case rel => exact ⟨y + 1, HY.out, by go_num, by rw [NJ.out], BJ.out⟩
              case measure => have := HY.out; simp [intOf]; omega
            · have NJ : Hid (innR pv ee (y + 1) = s + ee) := Lib.hid (by rw [NI.out, hpv, if_neg (fun h => hd (Option.some.inj h))])
              have t6 : (((d.toNat : Nat) : Int) == (((oth (letB y)).toNat : Nat) : Int)) = false := u8ne (fun e => hd e.symm)
              clear hpv NI hd hy6
              generalize oth (letB y) = o at hx t6
              go_wp2_with (go_at_call 60; with_reducible refine (LC.out _).mono ?_; rintro e w' ⟨rfl, rfl⟩)
              go_quiet (fail)
              generalize hW : wr.drewN nq = w1
              have BJ : Hid (Below w.heap.size w w1) := Lib.hid (by rw [← hW]; exact BI.out.trans (drewN_below0 nq))
              clear hW
              go_wp2
              go_roundw
              case rel => exact ⟨y + 1, HY.out, by go_num, by rw [NJ.out, Int.add_assoc], BJ.out⟩
              case measure => have := HY.out; simp [intOf]; omega
        · have ez : z = (y : Int) := by omega
          have t3 : decide ((y : Int) < z) = false := by simp <;> omega
          have NK : Hid (rankTo g l (k + 1) = r0 + innR pv ee y) := Lib.hid (by rw [NX.out, ez, Int.toNat_natCast])
          have ib := IB.out y
          generalize innR pv ee y = s at NK ib ⊢
          obtain ⟨ib1, ib3⟩ := ib
          have ib2 : s ≤ 481036337152 := by omega
          clear ez ib3 hy
          go_wp2_with (go_at_call 60; with_reducible refine (LC.out _).mono ?_; rintro e w' ⟨rfl, rfl⟩)
          go_roundw
          case rel => exact ⟨k + 1, HK.out, by go_num, by rw [NK.out], BI.out⟩
          case measure => have := HK.out; simp [intOf]; omega
    · obtain rfl : k = l.length := by omega
      have R : Hid (Below w.heap.size w wr) := B
      go_wp2
      go_ret2
      exact ⟨rfl, R.out⟩
end Go.Proofs.Ytepopepafdjjlaa
