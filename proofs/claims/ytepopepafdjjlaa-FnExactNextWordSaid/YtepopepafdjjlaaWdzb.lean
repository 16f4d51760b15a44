/-
  CONTRACT: the specification's NextWord.
-/
import Derived.Test.YtepopepafdjjlaaWdza
namespace Go.Proofs.Ytepopepafdjjlaa
open Go.ChangeShapes Go.WideShapes Go.ChangeAt Go.RowKit Go.Shelf
open Wd
attribute [local go_sem] Oper.semAt_some
theorem slice_one (K : Nat) (hK : K ≤ 7) (w : World) : (Instr.slice 9 (.string (⟨#[97, 65, 98, 66, 99, 67, 100, 68]⟩ : ByteArray)) (some (.int .i64 (K : Int))) (some (.int .i64 ((K : Int) + 1))) none).run Try.prog w = .ok (.string (txt [chr K])) w := by
  have := slice_lz [97, 65, 98, 66, 99, 67, 100, 68] K (K + 1) (by omega) (by simp; omega) (K : Int) ((K : Int) + 1) rfl (by push_cast; rfl) w
  refine this.trans ?_
  have : K = 0 ∨ K = 1 ∨ K = 2 ∨ K = 3 ∨ K = 4 ∨ K = 5 ∨ K = 6 ∨ K = 7 := by omega
  rcases this with rfl | rfl | rfl | rfl | rfl | rfl | rfl | rfl <;> rfl
theorem slice_hz (v : List UInt8) (b : Nat) (h2 : b ≤ v.length) (w : World) : (Instr.slice 9 (.string (txt v)) none (some (.int .i64 (b : Int))) none).run Try.prog w = .ok (.string (txt (v.take b))) w := by
  have hs := txt_size v
  have he : (txt v).extract 0 b = txt (v.take b) := by apply ByteArray.ext; simp [txt]
  rw [run_slice_string_h w 9 (txt v) Try.underlying9 .i64 (b : Int) (by omega) (by omega)]
  simp [he]
theorem blocked {p : UInt8} (hp : isL p = true) {y : Nat} (hy : lnum (oth p) = (y : Int)) : (((p.toNat : Nat) : Int) == (((oth (letB y)).toNat : Nat) : Int)) = true := by
  have h7 := (lnum_yes (oth_isL hp)).2
  have e : oth p = letB y := by rw [letB_chr (by omega), ← chr_lnum (oth_isL hp), hy, Int.toNat_natCast]
  rw [← e, oth_oth hp]
  simp
theorem unblocked {p : UInt8} (hp : isL p = true) {y : Nat} (h7 : y ≤ 7) (hy : lnum (oth p) ≠ (y : Int)) : (((p.toNat : Nat) : Int) == (((oth (letB y)).toNat : Nat) : Int)) = false := by
  refine u8ne fun e => hy ?_
  rw [← e, letB_chr h7, oth_oth (isL_chr y), lnum_chr (by omega)]
set_option maxHeartbeats 4000000 in
theorem snext_any (g : Int) (l : List UInt8) (hm : l.length ≤ 4000000) (w : World) :
    Calls Try.prog 35 #[.int .i64 g, .string (txt l)] w (NwPost g l w) := by
  have hs := txt_size l
  have GA := Lib.hid (given_any g l hm)
  by_cases h : givenC g l = 0
  · obtain ⟨⟨h1, h2⟩, hb⟩ := given_zero h
    obtain ⟨hg, hr⟩ := given_full h
    have HL := Lib.hid (wordB_lets hb)
    have h40 := wordB_len hb
    have h40' : (l.length : Int) ≤ 40 := by omega
    have H40 := Lib.hid h40
    have HO := Lib.hid (okch_red HL.out hr)
    have HG := Lib.hid hg
    have PT := Lib.hid (fun i hi => place_turn h2 HL.out hr hg i hi)
    have PE := Lib.hid (fun i hi => place_end HL.out hr hg i hi)
    have HPj : Hid (∀ i, i < l.length → chAt l i + 1 < chN g i → (∀ i', i < i' → i' < l.length → chN g i' ≤ chAt l i' + 1) → ∀ K, chr K = chr (ofNum (l.take i) (chAt l i + 1)).toNat → ∀ w', Below w.heap.size w w' → NwPost g l w (.returned (.tuple #[.string (txt (goL (l.take i ++ [chr K]) (l.length - (l.take i ++ [chr K]).length))), .int .i64 0])) w') := Lib.hid fun i hi hlt ha K hK w' B => by
      have hnx : NextCh g l.length (chAt l) l.length (fun k => if k < i then chAt l k else if k = i then chAt l i + 1 else 0) := .inl ⟨i, hi, hlt, ha, rfl, rfl⟩
      refine ⟨fun x => absurd h x, fun _ => ⟨_, _, hnx, (hnx.ok h2 HO.out).1, ?_⟩⟩
      rw [if_pos h40, if_pos h40]
      refine ⟨?_, B⟩
      have e0 : (l.take i ++ [chr K]).length = i + 1 := by simp; omega
      have e1 : ofL (fun k => if k < i then chAt l k else if k = i then chAt l i + 1 else 0) (i + 1) = l.take i ++ [chr K] := by
        show ofL _ i ++ [chr (ofNum (ofL _ i) _).toNat] = _
        rw [ofL_congr (f' := chAt l) (fun k hk => if_pos hk), ofL_chAt HL.out hr i (by omega), hK]
        simp
      have e2 := ofL_zeros (f := fun k => if k < i then chAt l k else if k = i then chAt l i + 1 else 0) (j := i + 1) (l.length - (i + 1)) (fun k hk => by show (if k < i then chAt l k else if k = i then chAt l i + 1 else 0) = 0; rw [if_neg (by omega), if_neg (by omega)])
      rw [e1, show i + 1 + (l.length - (i + 1)) = l.length from by omega] at e2
      rw [e0, e2]
    have HPe : Hid ((∀ i, i < l.length → chN g i ≤ chAt l i + 1) → ∀ w', Below w.heap.size w w' → NwPost g l w (.returned (.tuple #[.string (txt (if (goL [] (l.length + 1)).length ≤ 40 then goL [] (l.length + 1) else [])), .int .i64 (if (goL [] (l.length + 1)).length ≤ 40 then 0 else 3)])) w') := Lib.hid fun ha w' B => by
      have hnx : NextCh g l.length (chAt l) (l.length + 1) (fun _ => 0) := .inr ⟨ha, rfl, rfl⟩
      refine ⟨fun x => absurd h x, fun _ => ⟨_, _, hnx, (hnx.ok h2 HO.out).1, ?_⟩⟩
      have e0 : (goL [] (l.length + 1)).length = l.length + 1 := by rw [goL_length]; simp
      have e2 := ofL_zeros (f := fun _ => 0) (j := 0) (l.length + 1) (fun k hk => rfl)
      rw [Nat.zero_add] at e2
      rw [e0, e2]
      exact ⟨rfl, B⟩
    have GO : Hid (∀ (b : List UInt8) (n : Nat), n ≤ 41 → b.length ≤ n → ∀ w, Calls Try.prog 63 #[.int .i64 g, .string (txt b), .int .i64 (n : Int)] w fun e w' => e = .returned (.string (txt (goL b (n - b.length)))) ∧ DN w w') := Lib.hid (go_any g h1 h2)
    have GC : Hid (∀ w, Calls Try.prog 59 #[.int .i64 g, .string (txt l)] w fun e w' => e = .returned (.int .i64 0) ∧ Below w.heap.size w w') := Lib.hid (by rw [h] at GA; exact GA.out)
    have GO0 : Hid (∀ w, Calls Try.prog 63 #[.int .i64 g, .string (⟨#[]⟩ : ByteArray), .int .i64 ((l.length : Int) + 1)] w fun e w' => e = .returned (.string (txt (goL [] (l.length + 1)))) ∧ DN w w') := Lib.hid fun w => by
      have := GO.out [] (l.length + 1) (by omega) (by simp) w
      exact this
    have TO := Lib.hid (fun w => told_any (goL [] (l.length + 1)) (by rw [goL_length]; simp; omega) w)
    generalize NwPost g l w = P at HPj HPe ⊢
    clear GA hb h hm hg hr h40 HO
    go_enter Try.func35, Try.ntmps35
    go_wp2_with (go_at_call 59; refine (GC.out _).mono ?_; rintro e w0 ⟨rfl, b0⟩)
    have B0 := Lib.hid b0
    clear b0 GC
    go_loopw [7] (fun z wr => ∃ t : Nat, t ≤ l.length ∧ z = .int .i64 ((t : Int) - 1) ∧ (∀ i, t ≤ i → i < l.length → chN g i ≤ chAt l i + 1) ∧ Below w.heap.size w wr) (fun z _ => (intOf z + 1).toNat)
    case atStart => exact ⟨l.length, Nat.le_refl _, rfl, fun i a b => absurd a (by omega), B0.out⟩
    case round =>
      obtain ⟨t, ht, rfl, hall, hB⟩ := hrel
      have HA := Lib.hid hall
      have B := Lib.hid hB
      clear hall hB B0
      cases t with
      | zero =>
        have fin := Lib.hid (HPe.out fun i hi => HA.out i (Nat.zero_le _) hi)
        rw [show ((0 : Nat) : Int) - 1 = -1 from rfl]
        clear HPj PT PE
        by_cases hq : (goL [] (l.length + 1)).length ≤ 40
        · have fin2 := fin.out
          rw [if_pos hq, if_pos hq] at fin2
          have fin3 := Lib.hid fin2
          have TO2 := TO
          rw [if_pos hq, if_pos hq] at TO2
          clear fin fin2 hq
          go_wp2_with (first | (go_at_call 63; refine (GO0.out _).mono ?_; rintro e w1 ⟨rfl, b1⟩) | (go_at_call 47; refine (TO2.out _).mono ?_; rintro e w2 ⟨rfl, rfl⟩))
          have B1 : Hid (Below w.heap.size w w1) := Lib.hid (B.out.trans (b1.below.mono B.out.size))
          exact fin3.out _ B1.out
        · have fin2 := fin.out
          rw [if_neg hq, if_neg hq] at fin2
          have fin3 := Lib.hid fin2
          have TO2 := TO
          rw [if_neg hq, if_neg hq] at TO2
          clear fin fin2 hq
          go_wp2_with (first | (go_at_call 63; refine (GO0.out _).mono ?_; rintro e w1 ⟨rfl, b1⟩) | (go_at_call 47; refine (TO2.out _).mono ?_; rintro e w2 ⟨rfl, rfl⟩))
          have B1 : Hid (Below w.heap.size w w1) := Lib.hid (B.out.trans (b1.below.mono B.out.size))
          exact fin3.out _ B1.out
      | succ i =>
        rw [show ((i + 1 : Nat) : Int) - 1 = (i : Int) from by omega]
        have hi : i < l.length := ht
        have HI := Lib.hid hi
        have hi' : (i : Int) ≤ 39 := by omega
        obtain ⟨c, hc⟩ : ∃ c, l[i]'hi = c := ⟨_, rfl⟩
        have IX : ∀ w, (Instr.index 9 (.string (txt l)) (.int .i64 (i : Int))).run Try.prog w = .ok (.int .u8 ((c.toNat : Nat) : Int)) w := fun w => by rw [← hc]; exact idx_txt l i hi w
        have IL : isL c = true := by rw [← hc]; exact HL.out _ (List.getElem_mem hi)
        have LC := Lib.hid (letter_any c)
        obtain ⟨X, hX⟩ : ∃ X : Nat, lnum c = (X : Int) := ⟨(lnum c).toNat, by have := (lnum_yes IL).1; omega⟩
        have hX7 : X ≤ 7 := by have := (lnum_yes IL).2; omega
        have hX7' : (X : Int) ≤ 7 := by omega
        have XG : Hid ((X : Int) + 1 ≤ 2 * g) := Lib.hid (by
          have := of_decide_eq_true (List.all_eq_true.1 HG.out _ (List.getElem_mem hi))
          have h2 : lnum c < 2 * g := by rw [← hc]; exact this
          omega)
        have hX' : lnum (l[i]'hi) = (X : Int) := by rw [hc]; exact hX
        rw [hX] at LC
        clear IL
        have hl1 : ∀ h0 : 0 < i, isL l[i - 1] = true ∧ ∀ w, (Instr.index 9 (.string (txt l)) (.int .i64 ((i : Int) - 1))).run Try.prog w = .ok (.int .u8 (((l[i - 1]).toNat : Nat) : Int)) w := fun h0 => ⟨HL.out _ (List.getElem_mem (by omega)), fun w => by
          have := idx_txt l (i - 1) (by omega) w
          rwa [show ((i - 1 : Nat) : Int) = (i : Int) - 1 from by omega] at this⟩
        by_cases hlt : chAt l i + 1 < chN g i
        · obtain ⟨K, k1, k2, k3, k4, k5⟩ := PT.out i hi hlt
          have k2' : (X : Int) + 1 ≤ K := by rw [← hX']; exact k2
          have k4' : i = 0 → (K : Int) = X + 1 := fun h => by rw [← hX']; exact k4 h
          have k5' : ∀ h0 : 0 < i, lnum (oth l[i - 1]) ≠ K ∧ ∀ y : Nat, (X : Int) + 1 ≤ y → y < K → lnum (oth l[i - 1]) = y := fun h0 => ⟨(k5 h0).1, fun y a b => (k5 h0).2 y (by rw [← hX'] at a; exact a) b⟩
          have fin := Lib.hid (HPj.out i hi hlt (fun i' a b => HA.out i' a b) K k3)
          have K4 := Lib.hid k4'
          have K5 := Lib.hid k5'
          have hK7 : K ≤ 7 := by omega
          have K2 : Hid ((X : Int) + 1 ≤ K) := Lib.hid k2'
          clear k3 k4 k5 k4' k5' k2' hX' hX hc hlt HPj HPe PT PE TO GO0 k2
          go_wp2_with (go_at_call 60; with_reducible refine (LC.out _).mono ?_; rintro e w' ⟨rfl, rfl⟩)
          go_loopw [8] (fun z wq => ∃ y : Nat, z = .int .i64 (y : Int) ∧ X + 1 ≤ y ∧ y ≤ K ∧ Below w.heap.size w wq) (fun z _ => K - (intOf z).toNat)
          case atStart => exact ⟨X + 1, by go_num, Nat.le_refl _, by have := K2.out; omega, B.out⟩
          case round =>
            obtain ⟨y, rfl, hy1, hy2, hBI⟩ := hrel
            have BI := Lib.hid hBI
            clear hBI
            have hx := idx_xor y (by omega)
            have hy7 : (y : Int) ≤ 7 := by omega
            have t3 : decide ((y : Int) < 2 * g) = true := by simp; omega
            by_cases hyK : y < K
            · have HY := Lib.hid hyK
              have HY1 := Lib.hid hy1
              have h0 : 0 < i := by
                rcases Nat.eq_zero_or_pos i with h | h
                · have := K4.out h; omega
                · exact h
              have hbk := (K5.out h0).2 y (by omega) hyK
              clear hyK hy1 hy2
              have hp := hl1 h0
              have t5 : ((i : Int) == 0) = false := by rw [beq_eq_false_iff_ne]; omega
              have h0' : (1 : Int) ≤ i := by omega
              have t6 := blocked hp.1 hbk
              have IXp := hp.2
              generalize oth (letB y) = o at hx t6
              generalize l[i - 1] = p at IXp t6
              clear hp hbk h0
              go_wp2
              go_quiet (fail)
              generalize hW : wr.drewN nq = w1
              have BJ : Hid (Below w.heap.size w w1) := Lib.hid (by rw [← hW]; exact BI.out.trans (drewN_below0 nq))
              clear hW
              go_wp2
              go_roundw
              case rel => exact ⟨y + 1, by go_num, by have := HY1.out; omega, HY.out, BJ.out⟩
              case measure => have := HY.out; simp [intOf]; omega
            · obtain rfl : y = K := by omega
              have SH := slice_hz l i (by have := HI.out; omega)
              have S1 := slice_one y hK7
              have z1 : (txt (l.take i)).size = i := by rw [txt_size, List.length_take]; have := HI.out; omega
              have z2 : (txt [chr y]).size = 1 := rfl
              have GOQ : Hid (∀ (w1 : World) (j : Nat), Calls Try.prog 63 #[.int .i64 g, .string (txt (l.take i) ++ txt [chr y]), .int .i64 (l.length : Int)] (w1.drewN j) fun e w' => e = .returned (.string (txt (goL (l.take i ++ [chr y]) (l.length - (l.take i ++ [chr y]).length)))) ∧ ∃ m, w' = w1.drewN m) := Lib.hid fun w1 j => by
                rw [txt_app]
                refine (GO.out (l.take i ++ [chr y]) l.length (by have := H40.out; omega) (by simp; have := HI.out; omega) (w1.drewN j)).mono ?_
                rintro e w' ⟨rfl, m, rfl⟩
                exact ⟨rfl, j + m, by rw [World.drewN_drewN]⟩
              generalize goL (l.take i ++ [chr y]) (l.length - (l.take i ++ [chr y]).length) = R at fin GOQ
              clear hyK hy1 hy2
              by_cases h0 : i = 0
              · have t5 : ((i : Int) == 0) = true := by rw [h0]; rfl
                clear h0 hl1
                go_wp2
                go_quiet (fail)
                generalize hW : wr.drewN nq = w1
                have BJ : Hid (Below w.heap.size w w1) := Lib.hid (by rw [← hW]; exact BI.out.trans (drewN_below0 nq))
                clear hW
                go_wp2
                go_quiet ((go_at_call 63; exact GOQ.out _ _))
                go_wp2
                exact fin.out _ (BJ.out.trans (drewN_below0 _))
              · have h0p : 0 < i := Nat.pos_of_ne_zero h0
                have hp := hl1 h0p
                have t5 : ((i : Int) == 0) = false := by rw [beq_eq_false_iff_ne]; omega
                have h0' : (1 : Int) ≤ i := by omega
                have t6 := unblocked hp.1 hK7 (K5.out h0p).1
                have IXp := hp.2
                generalize oth (letB y) = o at hx t6
                generalize l[i - 1] = p at IXp t6
                clear hp h0 h0p
                go_wp2
                go_quiet (fail)
                generalize hW : wr.drewN nq = w1
                have BJ : Hid (Below w.heap.size w w1) := Lib.hid (by rw [← hW]; exact BI.out.trans (drewN_below0 nq))
                clear hW
                go_wp2
                go_quiet ((go_at_call 63; exact GOQ.out _ _))
                go_wp2
                exact fin.out _ (BJ.out.trans (drewN_below0 _))
        · have pe := PE.out i hi (by omega)
          have pe' : (i = 0 → (X : Int) + 1 = 2 * g) ∧ (∀ h0 : 0 < i, ∀ y : Nat, (X : Int) + 1 ≤ y → (y : Int) < 2 * g → lnum (oth l[i - 1]) = y) := ⟨fun h => by rw [← hX']; exact pe.1 h, fun h0 y a b => pe.2 h0 y (by rw [← hX'] at a; exact a) b⟩
          have PEI := Lib.hid pe'
          have HE := Lib.hid hlt
          clear pe pe' hX' hX hc hlt HPj HPe PT PE TO GO0
          go_wp2_with (go_at_call 60; with_reducible refine (LC.out _).mono ?_; rintro e w' ⟨rfl, rfl⟩)
          go_loopw [8] (fun z wq => ∃ y : Nat, z = .int .i64 (y : Int) ∧ X + 1 ≤ y ∧ (y : Int) ≤ 2 * g ∧ Below w.heap.size w wq) (fun z _ => (2 * g - intOf z).toNat)
          case atStart => exact ⟨X + 1, by go_num, Nat.le_refl _, by have := XG.out; omega, B.out⟩
          case round =>
            obtain ⟨y, rfl, hy1, hy2, hBI⟩ := hrel
            have BI := Lib.hid hBI
            clear hBI
            by_cases hyK : (y : Int) < 2 * g
            · have hx := idx_xor y (by omega)
              have hy7 : (y : Int) ≤ 7 := by omega
              have t3 : decide ((y : Int) < 2 * g) = true := by simpa using hyK
              have HY : Hid ((y : Int) < 2 * g) := Lib.hid hyK
              have HY1 := Lib.hid hy1
              have h0 : 0 < i := by
                rcases Nat.eq_zero_or_pos i with h | h
                · have := PEI.out.1 h; omega
                · exact h
              have hbk := PEI.out.2 h0 y (by omega) hyK
              clear hyK hy1 hy2
              have hp := hl1 h0
              have t5 : ((i : Int) == 0) = false := by rw [beq_eq_false_iff_ne]; omega
              have h0' : (1 : Int) ≤ i := by omega
              have t6 := blocked hp.1 hbk
              have IXp := hp.2
              generalize oth (letB y) = o at hx t6
              generalize l[i - 1] = p at IXp t6
              clear hp hbk h0
              go_wp2
              go_quiet (fail)
              generalize hW : wr.drewN nq = w1
              have BJ : Hid (Below w.heap.size w w1) := Lib.hid (by rw [← hW]; exact BI.out.trans (drewN_below0 nq))
              clear hW
              go_wp2
              go_roundw
              case rel => exact ⟨y + 1, by go_num, by have := HY1.out; omega, by have := HY.out; push_cast; omega, BJ.out⟩
              case measure => have := HY.out; simp [intOf]; omega
            · have t3 : decide ((y : Int) < 2 * g) = false := by simpa using hyK
              clear hyK hy1 hl1
              go_wp2
              go_roundw
              case rel => exact ⟨i, by have := HI.out; omega, rfl, fun i' a b => by
                rcases Nat.lt_or_ge i i' with h | h
                · exact HA.out i' h b
                · obtain rfl : i' = i := by omega
                  have := HE.out; omega, BI.out⟩
              case measure => simp [intOf] <;> omega
  · have HP : Hid (∀ w', Below w.heap.size w w' → NwPost g l w (.returned (.tuple #[.string (txt []), .int .i64 (givenC g l)])) w') := Lib.hid fun w' b => ⟨fun _ => ⟨rfl, b⟩, fun x => absurd x h⟩
    generalize NwPost g l w = P at HP ⊢
    generalize givenC g l = c at h GA HP
    have t0 : ((c : Int) == 0) = false := by rw [beq_eq_false_iff_ne]; exact h
    clear h
    go_enter Try.func35, Try.ntmps35
    go_wp2_with (go_at_call 59; with_reducible refine (GA.out _).mono ?_; rintro e w0 ⟨rfl, b0⟩)
    exact HP.out _ b0
end Go.Proofs.Ytepopepafdjjlaa
