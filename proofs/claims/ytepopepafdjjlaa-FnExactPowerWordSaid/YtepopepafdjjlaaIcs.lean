/-
  CONTRACTS: the program's readWords, CommonStart.
-/
import Derived.Test.YtepopepafdjjlaaIrw
import Derived.Test.YtepopepafdjjlaaWdv
namespace Go.Proofs.Ytepopepafdjjlaa
open Go.ChangeShapes Go.WideShapes Go.ChangeAt Go.RowKit
open Wd
/-- two words: rows of their letters -/
def TwoPost (u v : List UInt8) (w : World) (e : Ending) (w' : World) : Prop :=
  ∃ v1 v2, e = .returned (.tuple #[v1, v2, .int .i64 0]) ∧ LRow w'.heap.size w' v1 u ∧ LRow w'.heap.size w' v2 v ∧ Below w.heap.size w w'
def BadPost (w : World) (e : Ending) (w' : World) : Prop := (∃ v1 v2, e = .returned (.tuple #[v1, v2, .int .i64 1])) ∧ Below w.heap.size w w'
/-- what readWord answers -/
def ReadAs (w : World) (c : Int) (l : List UInt8) (e : Ending) (w' : World) : Prop := ∃ v, e = .returned (.tuple #[v, .int .i64 c]) ∧ (c = 0 → LRow w'.heap.size w' v l) ∧ Below w.heap.size w w'
theorem read_as (l : List UInt8) (hm : l.length ≤ 4000000) (w : World) :
    Calls Try.prog 40 #[.string (txt l)] w (ReadAs w (if wordB l then 0 else 1) l) := by
  cases h : wordB l
  · exact (read_no l hm h w).mono fun e w' ⟨h1, h2⟩ => ⟨_, h1, (fun h => by cases h), h2⟩
  · exact (read_yes l h w).mono fun e w' ⟨v, h1, h2, h3⟩ => ⟨v, h1, fun _ => h2.row, h3⟩
set_option maxHeartbeats 1000000 in
theorem words_core (u v : List UInt8) (hu : u.length ≤ 4000000) (hv : v.length ≤ 4000000) (w : World) :
    Calls Try.prog 48 #[.string (txt u), .string (txt v)] w fun e w' => ∃ v1 v2, e = .returned (.tuple #[v1, v2, .int .i64 (if (if wordB u then (0 : Int) else 1) = 0 then (if wordB v then 0 else 1) else (if wordB u then 0 else 1))]) ∧
      (wordB u = true → LRow w'.heap.size w' v1 u) ∧ (wordB v = true → LRow w'.heap.size w' v2 v) ∧ Below w.heap.size w w' := by
  have h1 := Lib.hid (read_as u hu)
  have h2 := Lib.hid (read_as v hv)
  have e1 : Hid (wordB u = true → (if wordB u then (0 : Int) else 1) = 0) := Lib.hid fun h => if_pos h
  have e2 : Hid (wordB v = true → (if wordB v then (0 : Int) else 1) = 0) := Lib.hid fun h => if_pos h
  generalize (if wordB u then (0 : Int) else 1) = c1 at h1 e1
  generalize (if wordB v then (0 : Int) else 1) = c2 at h2 e2
  have ho : Hid (∀ (g : Nat) (w : World), w.cell? ⟨g, 0, none⟩ = some (.int .i64 c1) → w.cell? ⟨g, 1, none⟩ = some (.int .i64 c2) → Calls Try.prog 75 #[.slice (some ⟨g, 0, none⟩) 2 2] w fun e w' => e = .returned (.int .i64 (if c1 = 0 then c2 else c1)) ∧ w = w') := Lib.hid fun g w h0 h1 => or64_any g c1 c2 w h0 h1
  generalize (if c1 = 0 then c2 else c1) = r at ho ⊢
  clear hu hv
  go_enter Try.func48, Try.ntmps48
  go_wp2_with fail
  refine (h1.out _).mono ?_
  rintro e w1 ⟨v1, rfl, r1, b1⟩
  have R1 := Lib.hid r1
  have B1 := Lib.hid b1
  clear r1 b1 h1
  go_wp2_with fail
  refine (h2.out _).mono ?_
  rintro e w2 ⟨v2, rfl, r2, b2⟩
  have R1' : Hid (c1 = 0 → LRow w2.heap.size w2 v1 u) := Lib.hid fun h => ((R1.out h).below b2).up b2.size
  have R2 := Lib.hid r2
  have B2 : Hid (Below w.heap.size w w2) := Lib.hid (B1.out.trans (b2.mono B1.out.size))
  clear r2 b2 h2 R1 B1
  go_wp2_with (go_at_call 75; refine (ho.out _ _ (by simp) (by simp)).mono ?_; rintro e w' ⟨rfl, rfl⟩)
  have A : Below w2.heap.size w2 (w2.alloc (.cells #[.int .i64 c1, .int .i64 c2] 2)) := (Below.refl _ _).alloc (Nat.le_refl _) _
  refine bodyPost_ret (v := .tuple #[v1, v2, .int .i64 r]) (by simp [results, Try.results48, go_sem]) rfl ?_
  exact ⟨v1, v2, rfl, fun h => LRow.up (n₀ := w2.heap.size) (by simp) ((R1'.out (e1.out h)).below A), fun h => LRow.up (n₀ := w2.heap.size) (by simp) ((R2.out (e2.out h)).below A), B2.out.alloc B2.out.size _⟩
theorem words_yes (u v : List UInt8) (hu : wordB u = true) (hv : wordB v = true) (w : World) :
    Calls Try.prog 48 #[.string (txt u), .string (txt v)] w (TwoPost u v w) := by
  have := words_core u v (by have := wordB_len hu; omega) (by have := wordB_len hv; omega) w
  rw [hu, hv] at this
  exact this.mono fun e w' ⟨v1, v2, h1, h2, h3, h4⟩ => ⟨v1, v2, h1, h2 rfl, h3 rfl, h4⟩
theorem words_no (u v : List UInt8) (hu : u.length ≤ 4000000) (hv : v.length ≤ 4000000) (h : (wordB u && wordB v) = false) (w : World) :
    Calls Try.prog 48 #[.string (txt u), .string (txt v)] w (BadPost w) := by
  refine (words_core u v hu hv w).mono ?_
  rintro e w' ⟨v1, v2, h1, -, -, h4⟩
  refine ⟨⟨v1, v2, ?_⟩, h4⟩
  rw [h1]
  cases hu : wordB u
  · simp
  · rw [hu] at h
    simp only [Bool.true_and] at h
    rw [h]; rfl
set_option maxHeartbeats 2000000 in
theorem icommon_any (u v : List UInt8) (hu : u.length ≤ 4000000) (hv : v.length ≤ 4000000) (w : World) :
    Calls Try.prog 28 #[.string (txt u), .string (txt v)] w fun e w' =>
      e = .returned (.tuple #[.int .i64 (if wordB u && wordB v then (comL u v : Int) else 0), .int .i64 (if wordB u && wordB v then 0 else 1)]) ∧ Below w.heap.size w w' := by
  cases hb : wordB u && wordB v
  · have hw := Lib.hid (words_no u v hu hv hb)
    go_enter Try.func28, Try.ntmps28
    go_wp2_with (go_at_call 48; refine (hw.out _).mono ?_; rintro e w' ⟨⟨v1, v2, rfl⟩, B⟩)
    go_ret2
    exact ⟨rfl, B⟩
  · rw [Bool.and_eq_true] at hb
    have hw := Lib.hid (words_yes u v hb.1 hb.2)
    have LU := wordB_len hb.1
    have LV := wordB_len hb.2
    have HLU := Lib.hid (wordB_lets hb.1)
    have HLV := Lib.hid (wordB_lets hb.2)
    clear hu hv hb
    show Calls _ _ _ _ fun e w' => e = .returned (.tuple #[.int .i64 (comL u v : Int), .int .i64 0]) ∧ Below w.heap.size w w'
    go_enter Try.func28, Try.ntmps28
    go_wp2_with fail
    refine (hw.out _).mono ?_
    rintro e w1 ⟨v1, v2, rfl, r1, r2, b⟩
    obtain ⟨a1, c1, rfl⟩ := r1.len
    obtain ⟨a2, c2, rfl⟩ := r2.len
    have R1 := Lib.hid r1
    have R2 := Lib.hid r2
    have B := Lib.hid b
    clear r1 r2 b hw
    go_wp2
    go_loopw [9] (fun i wr => ∃ k : Nat, k ≤ u.length ∧ k ≤ v.length ∧ i = .int .i64 (k : Int) ∧ comL u v = k + comL (u.drop k) (v.drop k) ∧ ∃ n, wr = w1.drewN n) (fun i _ => u.length - (intOf i).toNat)
    case atStart => exact ⟨0, Nat.zero_le _, Nat.zero_le _, rfl, by simp, 0, rfl⟩
    case round =>
      obtain ⟨k, hku, hkv, rfl, hd, n, rfl⟩ := hrel
      by_cases hlt : k < u.length ∧ k < v.length
      · obtain ⟨hlu, hlv⟩ := hlt
        obtain ⟨b1, o1, rfl, hc1⟩ : ∃ b o, a1 = some ⟨b, o, none⟩ ∧ w1.cell? ⟨b, o + k, none⟩ = some (.int .u8 (lnum (u[k]'hlu))) := by
          rcases R1.out with ⟨h, h'⟩ | ⟨b, o, c, h, _, hc⟩
          · subst h'; simp at hlu
          · cases h; exact ⟨b, o, rfl, hc k hlu⟩
        obtain ⟨b2, o2, rfl, hc2⟩ : ∃ b o, a2 = some ⟨b, o, none⟩ ∧ w1.cell? ⟨b, o + k, none⟩ = some (.int .u8 (lnum (v[k]'hlv))) := by
          rcases R2.out with ⟨h, h'⟩ | ⟨b, o, c, h, _, hc⟩
          · subst h'; simp at hlv
          · cases h; exact ⟨b, o, rfl, hc k hlv⟩
        have tu : decide ((k : Int) < if v.length < u.length then (v.length : Int) else (u.length : Int)) = true := by rw [decide_eq_true_iff]; split <;> omega
        rw [drop_at u k hlu, drop_at v k hlv] at hd
        have IU : Hid (isL u[k] = true) := Lib.hid (HLU.out _ (List.getElem_mem hlu))
        have IV : Hid (isL v[k] = true) := Lib.hid (HLV.out _ (List.getElem_mem hlv))
        obtain ⟨n0, n7⟩ := lnum_yes IU.out
        obtain ⟨m0, m7⟩ := lnum_yes IV.out
        have HU := Lib.hid hlu
        have HV := Lib.hid hlv
        generalize u[k] = c at hc1 hd IU n0 n7
        generalize v[k] = d at hc2 hd IV m0 m7
        have hk' : (k : Int) ≤ 40 := by omega
        by_cases hcd : c = d
        · have HD : Hid (comL u v = (k + 1) + comL (u.drop (k + 1)) (v.drop (k + 1))) := Lib.hid (by
            rw [hd]; show k + (if c = d then _ else _) = _; rw [if_pos hcd]; omega)
          subst hcd
          clear hd hku hkv
          go_wp2
          go_quiet (fail)
          go_wp2
          go_roundw
          case rel => exact ⟨k + 1, HU.out, HV.out, by go_num, HD.out, _, rfl⟩
          case measure => have := HU.out; simp [intOf]; omega
        · have HD : Hid (comL u v = k) := Lib.hid (by rw [hd]; show k + (if c = d then _ else _) = _; rw [if_neg hcd]; rfl)
          have hne : (lnum c == lnum d) = false := by rw [beq_eq_false_iff_ne]; exact fun h => hcd (lnum_inj IU.out IV.out h)
          clear hd hcd hku hkv
          go_wp2
          go_quiet (fail)
          go_wp2
          all_goals
            go_ret2
            exact ⟨by rw [HD.out]; rfl, B.out.trans (drewN_below ⟨n + nq, rfl⟩)⟩
      · have tu : decide ((k : Int) < if v.length < u.length then (v.length : Int) else (u.length : Int)) = false := by rw [decide_eq_false_iff_not]; split <;> omega
        have HD : Hid (comL u v = k) := Lib.hid (by
          rw [hd]
          by_cases h : k < u.length
          · obtain rfl : k = v.length := by omega
            rw [List.drop_of_length_le (Nat.le_refl v.length), comL_nil]; rfl
          · obtain rfl : k = u.length := by omega
            rw [List.drop_of_length_le (Nat.le_refl u.length)]; rfl)
        clear hd hku hkv hlt
        go_wp2
        go_quiet (fail)
        go_wp2
        all_goals
          go_ret2
          exact ⟨by rw [HD.out]; rfl, B.out.trans (drewN_below ⟨n + nq, rfl⟩)⟩
end Go.Proofs.Ytepopepafdjjlaa
