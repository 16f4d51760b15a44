/-
  CONTRACT: the specification's ReducedAt; the law.
-/
import Derived.Test.YtdcphheeapmjcaaIra
import Derived.Test.YtdcphheeapmjcaaFd
import Derived.Test.YtdcphheeapmjcaaWdy
namespace Go.Proofs.Ytdcphheeapmjcaa
open Go.ChangeShapes Go.WideShapes Go.ChangeAt Go.RowKit Go.Shelf
open Wd
theorem blocked' {p : UInt8} (hp : isL p = true) {y : Nat} (hy : lnum (oth p) = (y : Int)) : (((p.toNat : Nat) : Int) == (((oth (letB y)).toNat : Nat) : Int)) = true := by
  have h7 := (lnum_yes (oth_isL hp)).2
  have e : oth p = letB y := by
    have : y = 0 ∨ y = 1 ∨ y = 2 ∨ y = 3 ∨ y = 4 ∨ y = 5 ∨ y = 6 ∨ y = 7 := by omega
    rcases this with rfl | rfl | rfl | rfl | rfl | rfl | rfl | rfl <;> rcases lcases hp with rfl | rfl | rfl | rfl | rfl | rfl | rfl | rfl <;> first | rfl | (exfalso; revert hy; decide)
  rw [← e, oth_oth hp]
  simp
theorem unblocked' {p : UInt8} (hp : isL p = true) {y : Nat} (h7 : y ≤ 7) (hy : lnum (oth p) ≠ (y : Int)) : (((p.toNat : Nat) : Int) == (((oth (letB y)).toNat : Nat) : Int)) = false := by
  rw [beq_eq_false_iff_ne]
  have : y = 0 ∨ y = 1 ∨ y = 2 ∨ y = 3 ∨ y = 4 ∨ y = 5 ∨ y = 6 ∨ y = 7 := by omega
  rcases this with rfl | rfl | rfl | rfl | rfl | rfl | rfl | rfl <;> rcases lcases hp with rfl | rfl | rfl | rfl | rfl | rfl | rfl | rfl <;> first | decide | (exfalso; revert hy; decide)
theorem fslice_chr (K : Nat) (hK : K ≤ 7) (w : World) : (Instr.slice 9 (.string (⟨#[97, 65, 98, 66, 99, 67, 100, 68]⟩ : ByteArray)) (some (.int .i64 (K : Int))) (some (.int .i64 ((K : Int) + 1))) none).run Try.prog w = .ok (.string (txt [chr K])) w := by
  have := fslice_lz [97, 65, 98, 66, 99, 67, 100, 68] K (K + 1) (by omega) (by simp; omega) (K : Int) ((K : Int) + 1) rfl (by push_cast; rfl) w
  refine this.trans ?_
  have : K = 0 ∨ K = 1 ∨ K = 2 ∨ K = 3 ∨ K = 4 ∨ K = 5 ∨ K = 6 ∨ K = 7 := by omega
  rcases this with rfl | rfl | rfl | rfl | rfl | rfl | rfl | rfl <;> rfl
/-- no more than draws lie between -/
def DNb (w w' : World) : Prop := ∃ n, w' = w.drewN n
theorem DNb.n {w w1 : World} (h : DNb w w1) (k : Nat) : DNb w (w1.drewN k) := by
  obtain ⟨m, rfl⟩ := h
  exact ⟨m + k, by rw [World.drewN_drewN]⟩
theorem DNb.below {w w1 : World} (h : DNb w w1) : Below w.heap.size w w1 := by
  obtain ⟨m, rfl⟩ := h
  exact drewN_below0 m
/-- the number of the letter that may not stand behind a word; 9 if all may -/
def oN (T : List UInt8) : Int := match T.getLast? with
  | none => 9
  | some p => lnum (oth p)
/-- which letter is found at a place, and how the number is counted down to it -/
theorem pick_place (T : List UInt8) (hT : ∀ c ∈ T, isL c = true) {K E c : Int} (hE : 1 ≤ E) (hK : 0 ≤ K) (hc : c = K / E) (h7 : c ≤ 7) (h6 : T ≠ [] → c ≤ 6) :
    ∃ (X : Nat) (kv : Nat → Int), X ≤ 7 ∧ (ofNum T c).toNat = X ∧ kv 0 = K ∧ kv X = K % E ∧ (∀ y, y < X → (oN T = y → kv (y + 1) = kv y) ∧ (oN T ≠ y → E ≤ kv y ∧ kv (y + 1) = kv y - E)) ∧ oN T ≠ X ∧ (∀ y, y ≤ X → 0 ≤ kv y ∧ kv y ≤ K) := by
  have hc0 : 0 ≤ c := by rw [hc]; exact Int.ediv_nonneg hK (by omega)
  have e1 : K = E * c + K % E := by rw [hc]; exact (Int.mul_ediv_add_emod K E).symm
  have r0 := Int.emod_nonneg K (show E ≠ 0 by omega)
  have r1 := Int.emod_lt_of_pos K (show 0 < E by omega)
  have hX : ofNum T c = if oN T ≤ c then c + 1 else c := by
    unfold ofNum oN
    cases h : T.getLast? with
    | none => simp; omega
    | some p => rfl
  have ho : 0 ≤ oN T ∧ (oN T ≤ c → c ≤ 6) := by
    unfold oN
    cases h : T.getLast? with
    | none => exact ⟨by decide, fun h => by simp at h; omega⟩
    | some p =>
      have hp := hT p (List.mem_of_getLast? h)
      exact ⟨(lnum_yes (oth_isL hp)).1, fun _ => h6 (by rintro rfl; simp at h)⟩
  obtain ⟨o0, o6⟩ := ho
  generalize hr : K % E = r at e1 r0 r1 ⊢
  rw [hX]
  generalize oN T = o at o0 o6 ⊢
  have key : ∀ d : Int, 0 ≤ d → d ≤ c → 0 ≤ E * d ∧ E * d ≤ E * c := fun d a b => ⟨Int.mul_nonneg (by omega) a, Int.mul_le_mul_of_nonneg_left b (by omega)⟩
  have key1 : ∀ d : Int, 1 ≤ d → E ≤ E * d := fun d a => by have := Int.mul_le_mul_of_nonneg_left a (show 0 ≤ E by omega); omega
  by_cases h : o ≤ c
  · rw [if_pos h]
    have := o6 h
    refine ⟨(c + 1).toNat, fun y => E * (c - ((y : Int) - if o < (y : Int) then 1 else 0)) + r, by omega, rfl, ?_, ?_, ?_, by omega, ?_⟩
    · show E * (c - (((0 : Nat) : Int) - if o < ((0 : Nat) : Int) then 1 else 0)) + r = K
      rw [if_neg (by omega), e1]; simp
    · show E * (c - (((c + 1).toNat : Int) - if o < ((c + 1).toNat : Int) then 1 else 0)) + r = r
      rw [if_pos (by omega), show c - (((c + 1).toNat : Int) - 1) = 0 by omega]; simp
    · intro y hy
      refine ⟨fun e => ?_, fun e => ⟨?_, ?_⟩⟩
      · show E * (c - (((y + 1 : Nat) : Int) - if o < ((y + 1 : Nat) : Int) then 1 else 0)) + r = E * (c - ((y : Int) - if o < (y : Int) then 1 else 0)) + r
        rw [if_pos (by omega), if_neg (by omega), show c - (((y + 1 : Nat) : Int) - 1) = c - ((y : Int) - 0) by omega]
      · show E ≤ E * (c - ((y : Int) - if o < (y : Int) then 1 else 0)) + r
        have := key1 (c - ((y : Int) - if o < (y : Int) then 1 else 0)) (by split <;> omega)
        omega
      · show E * (c - (((y + 1 : Nat) : Int) - if o < ((y + 1 : Nat) : Int) then 1 else 0)) + r = E * (c - ((y : Int) - if o < (y : Int) then 1 else 0)) + r - E
        have : c - (((y + 1 : Nat) : Int) - if o < ((y + 1 : Nat) : Int) then 1 else 0) = c - ((y : Int) - if o < (y : Int) then 1 else 0) - 1 := by
          by_cases h1 : o < (y : Int)
          · rw [if_pos h1, if_pos (by omega)]; omega
          · rw [if_neg h1, if_neg (by omega)]; omega
        rw [this, Int.mul_sub, Int.mul_one]
        omega
    · intro y hy
      have := key (c - ((y : Int) - if o < (y : Int) then 1 else 0)) (by split <;> omega) (by split <;> omega)
      show 0 ≤ E * (c - ((y : Int) - if o < (y : Int) then 1 else 0)) + r ∧ E * (c - ((y : Int) - if o < (y : Int) then 1 else 0)) + r ≤ K
      omega
  · rw [if_neg h]
    refine ⟨c.toNat, fun y => E * (c - (y : Int)) + r, by omega, rfl, ?_, ?_, ?_, by omega, ?_⟩
    · show E * (c - ((0 : Nat) : Int)) + r = K
      rw [e1]; simp
    · show E * (c - (c.toNat : Int)) + r = r
      rw [show c - (c.toNat : Int) = 0 by omega]; simp
    · intro y hy
      refine ⟨fun e => absurd e (by omega), fun e => ⟨?_, ?_⟩⟩
      · show E ≤ E * (c - (y : Int)) + r
        have := key1 (c - (y : Int)) (by omega)
        omega
      · show E * (c - ((y + 1 : Nat) : Int)) + r = E * (c - (y : Int)) + r - E
        rw [show c - ((y + 1 : Nat) : Int) = c - (y : Int) - 1 by omega, Int.mul_sub, Int.mul_one]
        omega
    · intro y hy
      have := key (c - (y : Int)) (by omega) (by omega)
      show 0 ≤ E * (c - (y : Int)) + r ∧ E * (c - (y : Int)) + r ≤ K
      omega
theorem ways_false (g : Int) (m : Nat) : ways g false (m + 1) = ways g true m * (2 * g) := by
  induction m with
  | zero => simp [ways]
  | succ m ih =>
    have : ways g false (m + 1 + 1) = ways g false (m + 1) * (2 * g - 1) := by
      show (if m + 1 = 0 ∧ false = false then _ else _) = _
      rw [if_neg (fun h => by omega)]
    rw [this, ih, ways_true']
    generalize 2 * g - 1 = a
    generalize 2 * g = b
    rw [Int.mul_assoc, Int.mul_assoc, Int.mul_comm b a]
/-- the number that is left at a place -/
def atK (g : Int) (n : Nat) (k : Int) (i : Nat) : Int := k % (ways g true (n - 1 - i) * chN g i)
theorem atK_zero {g k : Int} {n : Nat} (h0 : 0 < n) (hk0 : 0 ≤ k) (hk : k < ways g false n) : atK g n k 0 = k := by
  obtain ⟨m, rfl⟩ : ∃ m, n = m + 1 := ⟨n - 1, by omega⟩
  unfold atK
  rw [ways_false] at hk
  rw [show m + 1 - 1 - 0 = m by omega, show chN g 0 = 2 * g by simp [chN]]
  exact Int.emod_eq_of_lt hk0 hk
theorem atK_div {g k : Int} (h1 : 1 ≤ g) (h2 : g ≤ 4) (n i : Nat) : atK g n k i / ways g true (n - 1 - i) = atF g n k i := by
  unfold atK atF
  have hE := (ways_pos h1 h2 true (n - 1 - i)).1
  generalize ways g true (n - 1 - i) = E at hE ⊢
  generalize chN g i = c
  rw [Int.emod_def k (E * c), Int.emod_def (k / E) c, ← Int.ediv_ediv_of_nonneg (by omega), Int.mul_assoc, Int.sub_eq_add_neg, ← Int.mul_neg, Int.add_mul_ediv_left _ _ (by omega)]
  omega
theorem atK_mod {g k : Int} (n i : Nat) (hi : i + 1 < n) : atK g n k i % ways g true (n - 1 - i) = atK g n k (i + 1) := by
  unfold atK
  obtain ⟨q, hq⟩ : ∃ q, n - 1 - i = q + 1 := ⟨n - 1 - i - 1, by omega⟩
  rw [Int.emod_emod_of_dvd _ (Int.dvd_mul_right _ _), hq, show n - 1 - (i + 1) = q by omega, ways_true', show chN g (i + 1) = 2 * g - 1 by simp [chN]]
set_option maxHeartbeats 4000000 in
theorem sred_core (g : Int) (h1 : 1 ≤ g) (h2 : g ≤ 4) (n : Nat) (hn : n ≤ 12) (k : Int) (hk0 : 0 ≤ k) (hk : k < ways g false n) (w : World) :
    Calls Try.prog 14 #[.int .i64 g, .int .i64 (n : Int), .int .i64 k] w (TextPost (ofL (atF g n k) n) 0 w) := by
  have CC : Hid (∀ w, Calls Try.prog 51 #[.int .i64 g, .int .i64 (n : Int)] w fun e w' => e = .returned (.int .i64 0) ∧ w = w') := Lib.hid fun w => by
    have := counted_any g (n : Int) w
    rwa [if_pos ⟨⟨h1, h2⟩, by omega, by omega⟩] at this
  have CW := Lib.hid (fun w => ways_any g h1 h2 n hn false w)
  have CI : Hid (∀ w, Calls Try.prog 52 #[.int .i64 k, .int .i64 0, .int .i64 (ways g false n - 1)] w fun e w' => e = .returned (.bool true) ∧ w = w') := Lib.hid fun w => l00In_yes _ _ _ hk0 (by omega) w
  have CQ : Hid (∀ q : Nat, q ≤ 12 → ∀ w, Calls Try.prog 53 #[.int .i64 g, .int .i64 (q : Int), .bool true] w fun e w' => e = .returned (.int .i64 (ways g true q)) ∧ w = w') := Lib.hid fun q hq w => ways_any g h1 h2 q hq true w
  have hn' : (n : Int) ≤ 12 := by omega
  have hk9 : k < 68719476736 := by have := (ways_le h1 h2 false hn).2; omega
  have hc1 := (ways_le h1 h2 false hn).1
  have hc2 := (ways_le h1 h2 false hn).2
  have HK0 := Lib.hid hk0
  have HKW := Lib.hid hk
  have FO := Lib.hid (atF_ok (k := k) h1 h2 n)
  have hnI := Lib.hid hn
  go_enter Try.func14, Try.ntmps14
  clear hk
  generalize ways g false n = cnt at CW CI hc1 hc2
  go_wp2_with fail
  refine (CC.out _).mono ?_
  rintro e w' ⟨rfl, rfl⟩
  go_wp2_with fail
  refine (CW.out _).mono ?_
  rintro e w' ⟨rfl, rfl⟩
  go_wp2_with fail
  refine (CI.out _).mono ?_
  rintro e w' ⟨rfl, rfl⟩
  clear CC CW CI hc1 hc2
  go_wp2
  go_loopw [2, 9, 10] (fun kk out left wr => ∃ (i : Nat) (x q : Int), ((i < n ∧ x = atK g n k i ∧ ∃ q' : Nat, q = (q' : Int) ∧ n = i + q' + 1) ∨ (i = n ∧ q = -1)) ∧ kk = .int .i64 x ∧ left = .int .i64 q ∧ out = .string (txt (ofL (atF g n k) i)) ∧ DNb w wr) (fun _ _ left _ => (intOf left + 1).toNat)
  case atStart =>
    refine ⟨0, k, (n : Int) - 1, ?_, rfl, rfl, rfl, ⟨0, rfl⟩⟩
    rcases Nat.eq_zero_or_pos n with h | h
    · exact .inr ⟨h.symm, by omega⟩
    · exact .inl ⟨h, (atK_zero h HK0.out HKW.out).symm, n - 1, by omega, by omega⟩
  case round =>
    obtain ⟨i, x, q, hor, rfl, rfl, rfl, hB⟩ := hrel
    have B := Lib.hid hB
    clear hB
    rcases hor with ⟨hi, hx, q', rfl, hq⟩ | ⟨rfl, rfl⟩
    · have hq12 : q' ≤ 12 := by have := hnI.out; omega
      have hq12' : (q' : Int) ≤ 12 := by omega
      obtain ⟨E1, E2⟩ := ways_le h1 h2 true hq12
      have WQ := Lib.hid (CQ.out q' hq12)
      have EX : n - 1 - i = q' := by omega
      have hx0 : 0 ≤ x := by
        rw [hx]; unfold atK
        exact Int.emod_nonneg _ (by rw [EX]; have := (chN_pos h1 h2 i).1; have := Int.mul_le_mul E1 this (by omega) (by omega); omega)
      have hxk : x ≤ 68719476736 := by
        rw [hx]; unfold atK
        have hm : 0 ≤ ways g true (n - 1 - i) * chN g i := Int.mul_nonneg (by have := (ways_pos h1 h2 true (n - 1 - i)).1; omega) (by have := (chN_pos h1 h2 i).1; omega)
        have := Int.mul_nonneg hm (Int.ediv_nonneg hk0 hm)
        rw [Int.emod_def]
        omega
      have hdiv : atF g n k i = x / ways g true q' := by rw [hx, ← EX, atK_div h1 h2]
      have hfi := FO.out i hi
      have TL := Lib.hid (ofL_letters (atF g n k) i)
      have hlen := ofL_length (atF g n k) i
      obtain ⟨X, kv, X7, hX, kv0, kvX, kvs, kvo, kvb⟩ := pick_place (ofL (atF g n k) i) TL.out (K := x) (E := ways g true q') (c := atF g n k i) E1 hx0 hdiv hfi.2.1 (fun hne => hfi.2.2 (by
        rcases Nat.eq_zero_or_pos i with h | h
        · subst h; exact absurd rfl hne
        · exact h))
      have XG0 : (X : Int) < 2 * g := by
        have hch : atF g n k i < chN g i := Int.emod_lt_of_pos _ (by have := (chN_pos h1 h2 i).1; omega)
        rw [← hX]
        unfold ofNum
        cases hl : (ofL (atF g n k) i).getLast? with
        | none => unfold chN at hch; split at hch <;> (simp only; omega)
        | some p =>
          have hi0 : i ≠ 0 := by rintro rfl; simp [ofL] at hl
          unfold chN at hch
          rw [if_neg hi0] at hch
          simp only
          split <;> omega
      have NXT : Hid (ofL (atF g n k) (i + 1) = ofL (atF g n k) i ++ [chr X]) := Lib.hid (by
        show ofL _ i ++ [chr (ofNum (ofL _ i) _).toNat] = _
        rw [hX])
      have KN : Hid (i + 1 < n → kv X = atK g n k (i + 1)) := Lib.hid fun h => by rw [kvX, hx, ← EX, atK_mod n i h]
      have KV0 := Lib.hid kv0
      have KVX : Hid (kv X < ways g true q') := Lib.hid (by rw [kvX]; exact Int.emod_lt_of_pos _ (by omega))
      have KVS := Lib.hid kvs
      have KVO := Lib.hid kvo
      have KVB := Lib.hid kvb
      have HQ := Lib.hid hq
      have HI := Lib.hid hi
      have hT : Hid ((ofL (atF g n k) i = [] ) ∨ (∃ p, isL p = true ∧ oN (ofL (atF g n k) i) = lnum (oth p) ∧ 0 < i ∧ ∀ w, (Instr.index 9 (.string (txt (ofL (atF g n k) i))) (.int .i64 ((i : Int) - 1))).run Try.prog w = .ok (.int .u8 (((p).toNat : Nat) : Int)) w)) := Lib.hid (by
        cases i with
        | zero => exact .inl rfl
        | succ j =>
          refine .inr ⟨(ofL (atF g n k) (j + 1))[j]'(by rw [ofL_length]; omega), TL.out _ (List.getElem_mem _), ?_, by omega, fun w => ?_⟩
          · have e : (ofL (atF g n k) (j + 1)).getLast? = some ((ofL (atF g n k) (j + 1))[j]'(by rw [ofL_length]; omega)) := by
              rw [List.getLast?_eq_getElem?, List.getElem?_eq_some_iff]
              exact ⟨by omega, by simp [hlen]⟩
            unfold oN
            rw [e]
          · have := idx_txt (ofL (atF g n k) (j + 1)) j (by rw [ofL_length]; omega) w
            rwa [show ((j + 1 : Nat) : Int) - 1 = (j : Int) from by omega])
      have hsz := txt_size (ofL (atF g n k) i)
      rw [hlen] at hsz
      have hi12 : (i : Int) ≤ 12 := by have := hnI.out; omega
      have hofnil : Hid (ofL (atF g n k) i = [] → i = 0) := Lib.hid fun h => by rw [h] at hlen; simpa using hlen.symm
      clear hx hdiv hfi hX kv0 kvX kvs kvo kvb hq hi hlen EX
      have XG : Hid ((X : Int) < 2 * g) := Lib.hid XG0
      obtain ⟨T', hT'⟩ : ∃ T', ofL (atF g n k) (i + 1) = T' := ⟨_, rfl⟩
      rw [hT'] at NXT
      have NT : Hid (ofL (atF g n k) (i + 1) = T') := Lib.hid hT'
      clear hT'
      generalize ofL (atF g n k) i = T at *
      generalize ways g true q' = E at *
      go_wp2_with fail
      refine (WQ.out _).mono ?_
      rintro e w' ⟨rfl, rfl⟩
      clear WQ CQ
      go_wp2
      go_loopw [2, 9, 12] (fun kk out z wq => ∃ y : Nat, y ≤ X ∧ z = .int .i64 (y : Int) ∧ out = .string (txt T) ∧ kk = .int .i64 (kv y) ∧ DNb w wq) (fun _ _ z _ => X - (intOf z).toNat)
      case atStart => exact ⟨0, Nat.zero_le _, rfl, rfl, by rw [KV0.out], B.out⟩
      case round =>
        obtain ⟨y, hy, rfl, rfl, rfl, hB2⟩ := hrel
        have BI := Lib.hid hB2
        clear hB2 B KV0
        have hxr := idx_xor y (by omega)
        have hy7 : (y : Int) ≤ 7 := by omega
        obtain ⟨v0, v1⟩ := KVB.out y hy
        have v2 : kv y ≤ 68719476736 := by omega
        have h2g' : (X : Int) < 2 * g := XG.out
        have t3 : decide ((y : Int) < 2 * g) = true := by simp; omega
        clear h2g' v1
        by_cases hyX : y < X
        · have HY := Lib.hid hyX
          obtain ⟨s1, s2⟩ := KVS.out y hyX
          rcases hT.out with hnil | ⟨p, hp, hop, hi0, IX⟩
          · have hne : oN T ≠ (y : Int) := by rw [hnil]; show (9 : Int) ≠ y; omega
            obtain ⟨s3, s4⟩ := s2 hne
            have i0 := hofnil.out hnil
            have t4 : decide ((0 : Int) < (i : Int)) = false := by rw [i0]; rfl
            have t4' : decide (0 < i) = false := by rw [i0]; rfl
            have t5 : decide (kv y < E) = false := by simp; omega
            have SN : Hid (kv (y + 1) = kv y - E) := Lib.hid s4
            clear s1 s2 s4 hne hnil i0 hyX hy KVX KVS
            generalize kv y = ky at *
            go_wp2
            go_quiet (fail)
            generalize hW : wr.drewN nq = w1
            have BJ : Hid (DNb w w1) := Lib.hid (by rw [← hW]; exact BI.out.n nq)
            clear hW
            go_wp2
            go_roundw
            case rel => exact ⟨y + 1, by have := HY.out; omega, by go_num, rfl, by rw [SN.out], BJ.out⟩
            case measure => have := HY.out; simp [intOf]; omega
          · have t4 : decide ((0 : Int) < (i : Int)) = true := by simp; omega
            have t4' : decide (0 < i) = true := by simpa using hi0
            have hi1 : (1 : Int) ≤ i := by omega
            by_cases hoy : oN T = (y : Int)
            · have t6 := blocked' hp (hop.symm.trans hoy)
              have SN : Hid (kv (y + 1) = kv y) := Lib.hid (s1 hoy)
              clear s1 s2 hoy hyX hy KVX KVS hop hi0 hp
              generalize oth (letB y) = o at hxr t6
              generalize kv y = ky at *
              go_wp2
              go_quiet (fail)
              generalize hW : wr.drewN nq = w1
              have BJ : Hid (DNb w w1) := Lib.hid (by rw [← hW]; exact BI.out.n nq)
              clear hW
              go_wp2
              go_roundw
              case rel => exact ⟨y + 1, by have := HY.out; omega, by go_num, rfl, by rw [SN.out], BJ.out⟩
              case measure => have := HY.out; simp [intOf]; omega
            · have t6 := unblocked' hp (by omega) (fun e => hoy (hop.trans e))
              obtain ⟨s3, s4⟩ := s2 hoy
              have t5 : decide (kv y < E) = false := by simp; omega
              have SN : Hid (kv (y + 1) = kv y - E) := Lib.hid s4
              clear s1 s2 s4 hoy hyX hy KVX KVS hop hi0 hp
              generalize oth (letB y) = o at hxr t6
              generalize kv y = ky at *
              go_wp2
              go_quiet (fail)
              generalize hW : wr.drewN nq = w1
              have BJ : Hid (DNb w w1) := Lib.hid (by rw [← hW]; exact BI.out.n nq)
              clear hW
              go_wp2
              go_roundw
              case rel => exact ⟨y + 1, by have := HY.out; omega, by go_num, rfl, by rw [SN.out], BJ.out⟩
              case measure => have := HY.out; simp [intOf]; omega
        · obtain rfl : y = X := by omega
          have t5 : decide (kv y < E) = true := by simpa using KVX.out
          have S1 := fslice_chr y (by omega)
          have z2 : (txt [chr y]).size = 1 := rfl
          have REL : Hid (∀ w1, DNb w w1 → ∃ (i' : Nat) (x' q1 : Int), ((i' < n ∧ x' = atK g n k i' ∧ ∃ q'' : Nat, q1 = (q'' : Int) ∧ n = i' + q'' + 1) ∨ (i' = n ∧ q1 = -1)) ∧ (Value.int .i64 (kv y)) = .int .i64 x' ∧ Value.int .i64 ((q' : Int) - 1) = .int .i64 q1 ∧ Value.string (txt T ++ txt [chr y]) = .string (txt (ofL (atF g n k) i')) ∧ DNb w w1) := Lib.hid fun w1 b => by
            have h1 := HQ.out
            refine ⟨i + 1, kv y, (q' : Int) - 1, ?_, rfl, rfl, by rw [NT.out, NXT.out, txt_app], b⟩
            rcases Nat.eq_zero_or_pos q' with h | h
            · exact .inr ⟨by omega, by omega⟩
            · exact .inl ⟨by omega, KN.out (by omega), q' - 1, by omega, by omega⟩
          rcases hT.out with hnil | ⟨p, hp, hop, hi0, IX⟩
          · have i0 := hofnil.out hnil
            have t4 : decide ((0 : Int) < (i : Int)) = false := by rw [i0]; rfl
            have t4' : decide (0 < i) = false := by rw [i0]; rfl
            clear hnil i0 hyX KVX KVS KVB
            generalize kv y = ky at *
            go_wp2
            go_quiet (fail)
            generalize hW : wr.drewN nq = w1
            have BJ : Hid (DNb w w1) := Lib.hid (by rw [← hW]; exact BI.out.n nq)
            clear hW
            go_wp2
            go_roundw
            case rel => exact REL.out _ BJ.out
            case measure => simp [intOf]; try omega
          · have t4 : decide ((0 : Int) < (i : Int)) = true := by simp; omega
            have t4' : decide (0 < i) = true := by simpa using hi0
            have hi1 : (1 : Int) ≤ i := by omega
            have t6 := unblocked' hp (by omega) (fun e => KVO.out (hop.trans e))
            clear hyX KVX KVS KVB hop hi0 hp
            generalize oth (letB y) = o at hxr t6
            generalize kv y = ky at *
            go_wp2
            go_quiet (fail)
            generalize hW : wr.drewN nq = w1
            have BJ : Hid (DNb w w1) := Lib.hid (by rw [← hW]; exact BI.out.n nq)
            clear hW
            go_wp2
            go_roundw
            case rel => exact REL.out _ BJ.out
            case measure => simp [intOf]; try omega
    · go_wp2
      go_ret2
      exact ⟨rfl, B.out.below⟩
theorem sred_any (g n k : Int) (w : World) : Calls Try.prog 14 #[.int .i64 g, .int .i64 n, .int .i64 k] w (RaPost g n k w) := by
  unfold RaPost
  by_cases h : raOk g n k
  · rw [if_pos h, if_pos h]
    obtain ⟨⟨h1, h2⟩, ⟨h3, h4⟩, h5, h6⟩ := h
    obtain ⟨m, rfl⟩ : ∃ m : Nat, n = (m : Int) := ⟨n.toNat, by omega⟩
    rw [Int.toNat_natCast] at h6 ⊢
    exact sred_core g h1 h2 m (by omega) k h5 h6 w
  · rw [if_neg h, if_neg h]
    have CC := Lib.hid (fun w => counted_any g n w)
    by_cases hg : (1 ≤ g ∧ g ≤ 4) ∧ 0 ≤ n ∧ n ≤ 12
    · rw [if_pos hg] at CC
      obtain ⟨m, rfl⟩ : ∃ m : Nat, n = (m : Int) := ⟨n.toNat, by omega⟩
      have CW := Lib.hid (fun w => ways_any g hg.1.1 hg.1.2 m (by omega) false w)
      have hb := ways_le hg.1.1 hg.1.2 false (k := m) (by omega)
      have CI : Hid (∀ w, Calls Try.prog 52 #[.int .i64 k, .int .i64 0, .int .i64 (ways g false m - 1)] w fun e w' => e = .returned (.bool false) ∧ w = w') := Lib.hid fun w => l00In_no _ _ _ (by
        rcases Int.lt_or_le k 0 with h0 | h0
        · exact .inl h0
        · rcases Int.lt_or_le k (ways g false m) with h1 | h1
          · exact absurd ⟨hg.1, hg.2, h0, by rw [Int.toNat_natCast]; exact h1⟩ h
          · exact .inr (by omega)) w
      generalize ways g false m = cnt at CW CI hb
      obtain ⟨hb1, hb2⟩ := hb
      clear h hg
      go_enter Try.func14, Try.ntmps14
      go_wp2_with fail
      refine (CC.out _).mono ?_
      rintro e w' ⟨rfl, rfl⟩
      go_wp2_with fail
      refine (CW.out _).mono ?_
      rintro e w' ⟨rfl, rfl⟩
      go_wp2_with fail
      refine (CI.out _).mono ?_
      rintro e w' ⟨rfl, rfl⟩
      go_wp2
      go_ret2
      exact ⟨rfl, Below.refl _ _⟩
    · rw [if_neg hg] at CC
      clear h hg
      go_enter Try.func14, Try.ntmps14
      go_wp2_with fail
      refine (CC.out _).mono ?_
      rintro e w' ⟨rfl, rfl⟩
      go_wp2
      go_ret2
      exact ⟨rfl, Below.refl _ _⟩
theorem fnExactReducedAt_walk (g : Int) {p0 : Prop} (_ : p0) (n : Int) {p1 : Prop} (_ : p1) (k : Int) {p2 : Prop} (_ : p2) (w : World) :
    Calls Try.prog 3 #[.int .i64 g, .int .i64 n, .int .i64 k] w fun e w' => e = .returned (.bool true) ∧ Below w.heap.size w w' := by
  have h1 := Lib.hid (fun w => ired_any g n k w)
  have h2 := Lib.hid (fun w => sred_any g n k w)
  unfold RaPost at h1 h2
  generalize (if raOk g n k then ofL (atF g n.toNat k) n.toNat else []) = R at h1 h2
  generalize (if raOk g n k then (0 : Int) else 2) = C at h1 h2
  go_enter Try.func3, Try.ntmps3
  go_wp2_with (first | (go_at_call 14; refine (h2.out _).mono ?_; rintro e w1 ⟨rfl, B1⟩) | (go_at_call 15; refine (h1.out _).mono ?_; rintro e w2 ⟨rfl, B2⟩))
  go_ret
  first | exact ⟨rfl, B1.trans (B2.mono B1.size)⟩ | exact ⟨rfl, B2.trans (B1.mono B2.size)⟩
end Go.Proofs.Ytdcphheeapmjcaa
