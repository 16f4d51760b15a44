/-
  CONTRACTS: the program's order of words.
-/
import Derived.Test.YtdcphheeapmjcaaIcs
namespace Go.Proofs.Ytdcphheeapmjcaa
open Go.ChangeShapes Go.WideShapes Go.ChangeAt Go.RowKit
open Wd
def sgnI (a b : Int) : Int := if a < b then -1 else if b < a then 1 else 0
theorem cmpint_any (a b : Int) (w : World) :
    Calls Try.prog 110 #[.int .i64 a, .int .i64 b] w fun e w' => e = .returned (.int .i64 (sgnI a b)) ∧ w = w' := by
  have hn : ∀ (x : Int) (w : World), Calls Try.prog 121 #[.int .i64 x] w fun e w' => e = .returned (.bool false) ∧ w = w' := by
    intro x w
    go_enter Try.func121, Try.ntmps121
    go_wp2
    go_ret
    exact ⟨rfl, rfl⟩
  have HN := Lib.hid hn
  clear hn
  unfold sgnI
  by_cases h1 : a < b
  · rw [if_pos h1]
    go_enter Try.func110, Try.ntmps110
    go_wp2_with (go_at_call 121; refine (HN.out _ _).mono ?_; rintro e w' ⟨rfl, rfl⟩)
    go_ret
    exact ⟨rfl, rfl⟩
  · rw [if_neg h1]
    have h1' : b ≤ a := by omega
    by_cases h2 : b < a
    · rw [if_pos h2]
      go_enter Try.func110, Try.ntmps110
      go_wp2_with (go_at_call 121; refine (HN.out _ _).mono ?_; rintro e w' ⟨rfl, rfl⟩)
      go_ret
      exact ⟨rfl, rfl⟩
    · rw [if_neg h2]
      have h2' : a ≤ b := by omega
      go_enter Try.func110, Try.ntmps110
      go_wp2_with (go_at_call 121; refine (HN.out _ _).mono ?_; rintro e w' ⟨rfl, rfl⟩)
      go_ret
      exact ⟨rfl, rfl⟩
theorem cmplet_any (a b : Int) (w : World) :
    Calls Try.prog 122 #[.int .u8 a, .int .u8 b] w fun e w' => e = .returned (.int .i64 (sgnI a b)) ∧ w = w' := by
  have hn : ∀ (x : Int) (w : World), Calls Try.prog 125 #[.int .u8 x] w fun e w' => e = .returned (.bool false) ∧ w = w' := by
    intro x w
    go_enter Try.func125, Try.ntmps125
    go_wp2
    go_ret
    exact ⟨rfl, rfl⟩
  have HN := Lib.hid hn
  clear hn
  unfold sgnI
  by_cases h1 : a < b
  · rw [if_pos h1]
    go_enter Try.func122, Try.ntmps122
    go_wp2_with (go_at_call 125; refine (HN.out _ _).mono ?_; rintro e w' ⟨rfl, rfl⟩)
    go_ret
    exact ⟨rfl, rfl⟩
  · rw [if_neg h1]
    have h1' : b ≤ a := by omega
    by_cases h2 : b < a
    · rw [if_pos h2]
      go_enter Try.func122, Try.ntmps122
      go_wp2_with (go_at_call 125; refine (HN.out _ _).mono ?_; rintro e w' ⟨rfl, rfl⟩)
      go_ret
      exact ⟨rfl, rfl⟩
    · rw [if_neg h2]
      have h2' : a ≤ b := by omega
      go_enter Try.func122, Try.ntmps122
      go_wp2_with (go_at_call 125; refine (HN.out _ _).mono ?_; rintro e w' ⟨rfl, rfl⟩)
      go_ret
      exact ⟨rfl, rfl⟩
theorem orint_any (g : Nat) (a b : Int) (w : World) (h0 : w.cell? ⟨g, 0, none⟩ = some (.int .i64 a)) (h1 : w.cell? ⟨g, 1, none⟩ = some (.int .i64 b)) :
    Calls Try.prog 109 #[.slice (some ⟨g, 0, none⟩) 2 2] w fun e w' => e = .returned (.int .i64 (if a = 0 then b else a)) ∧ w = w' := by
  by_cases ha : a = 0
  · subst ha
    rw [if_pos rfl]
    by_cases hb : b = 0
    · subst hb
      go_enter Try.func109, Try.ntmps109
      go_wp2
      refine wp_loop_rounds 3 ?_
      repeat (rw [rounds_succ]; go_wp2)
      go_ret
      exact ⟨rfl, rfl⟩
    · have t1 : (!(b == 0)) = true := by simp [hb]
      go_enter Try.func109, Try.ntmps109
      go_wp2
      refine wp_loop_rounds 3 ?_
      repeat (rw [rounds_succ]; go_wp2)
      go_ret
      exact ⟨rfl, rfl⟩
  · rw [if_neg ha]
    have t1 : (!(a == 0)) = true := by simp [ha]
    go_enter Try.func109, Try.ntmps109
    go_wp2
    refine wp_loop_rounds 3 ?_
    repeat (rw [rounds_succ]; go_wp2)
    go_ret
    exact ⟨rfl, rfl⟩
/-- the order of rows, one place after the other; the shorter one is the smaller one, where it ends -/
def rowCmp : List UInt8 → List UInt8 → Int
  | [], [] => 0
  | [], _ :: _ => -1
  | _ :: _, [] => 1
  | c :: r, d :: s => if sgnI (lnum c) (lnum d) = 0 then rowCmp r s else sgnI (lnum c) (lnum d)
theorem rowCmp_nil (u : List UInt8) : rowCmp u [] = if u.length = 0 then 0 else 1 := by cases u <;> simp [rowCmp]
theorem nil_rowCmp (u : List UInt8) : rowCmp [] u = if u.length = 0 then 0 else -1 := by cases u <;> simp [rowCmp]
theorem sgnI_eq {a b : Int} : sgnI a b = 0 ↔ a = b := by
  unfold sgnI
  constructor
  · intro h; split at h
    · omega
    · split at h <;> omega
  · rintro rfl; simp
theorem rowCmp_same {u v : List UInt8} (hl : u.length = v.length) (hu : ∀ c ∈ u, isL c = true) (hv : ∀ c ∈ v, isL c = true) : rowCmp u v = cmpL u v := by
  induction u generalizing v with
  | nil => cases v with
    | nil => rfl
    | cons => simp at hl
  | cons c r ih =>
    cases v with
    | nil => simp at hl
    | cons d s =>
      simp only [rowCmp, cmpL]
      by_cases h : c = d
      · subst h
        rw [if_pos (sgnI_eq.2 rfl), if_pos rfl]
        exact ih (by simpa using hl) (fun x hx => hu x (List.mem_cons_of_mem _ hx)) (fun x hx => hv x (List.mem_cons_of_mem _ hx))
      · have hn : lnum c ≠ lnum d := fun e => h (lnum_inj (hu c List.mem_cons_self) (hv d List.mem_cons_self) e)
        rw [if_neg (fun e => hn (sgnI_eq.1 e)), if_neg h]
        unfold sgnI
        by_cases h1 : lnum c < lnum d
        · rw [if_pos h1, if_pos h1]
        · rw [if_neg h1, if_neg h1, if_pos (by omega)]
theorem LRow.at {n₀ : Nat} {W : World} {a : Option Addr} {n c : Nat} {l : List UInt8} (h : LRow n₀ W (.slice a n c) l) {k : Nat} (hk : k < l.length) : ∃ b o, a = some ⟨b, o, none⟩ ∧ W.cell? ⟨b, o + k, none⟩ = some (.int .u8 (lnum (l[k]'hk))) := by
  rcases h with ⟨_, h'⟩ | ⟨b, o, c, h, _, hc⟩
  · subst h'; simp at hk
  · cases h; exact ⟨b, o, rfl, hc k hk⟩
set_option maxHeartbeats 1000000 in
theorem scmp_any (n₀ : Nat) (a1 a2 : Option Addr) (c1 c2 : Nat) (u v : List UInt8) (hu : u.length ≤ 1000000) (hv : v.length ≤ 1000000) (hlu : ∀ c ∈ u, isL c = true) (hlv : ∀ c ∈ v, isL c = true) (w : World)
    (r1 : LRow n₀ w (.slice a1 u.length c1) u) (r2 : LRow n₀ w (.slice a2 v.length c2) v) :
    Calls Try.prog 111 #[.slice a1 u.length c1, .slice a2 v.length c2] w fun e w' => e = .returned (.int .i64 (rowCmp u v)) ∧ w = w' := by
  have HLU := Lib.hid hlu
  have HLV := Lib.hid hlv
  have R1 := Lib.hid r1
  have R2 := Lib.hid r2
  have hu' : (u.length : Int) ≤ 1000000 := by omega
  have hv' : (v.length : Int) ≤ 1000000 := by omega
  clear hlu hlv r1 r2
  go_enter Try.func111, Try.ntmps111
  go_wp2
  go_loopw [11] (fun i wr => ∃ k : Nat, k ≤ u.length ∧ k ≤ v.length ∧ i = .int .i64 (k : Int) ∧ rowCmp u v = rowCmp (u.drop k) (v.drop k) ∧ w = wr) (fun i _ => u.length - (intOf i).toNat)
  case atStart => exact ⟨0, Nat.zero_le _, Nat.zero_le _, rfl, by simp, rfl⟩
  case round =>
    obtain ⟨k, hku, hkv, rfl, hd, rfl⟩ := hrel
    by_cases hlu : k < u.length
    · obtain ⟨b1, o1, rfl, hc1⟩ := R1.out.at hlu
      by_cases hlv : k < v.length
      · obtain ⟨b2, o2, rfl, hc2⟩ := R2.out.at hlv
        rw [drop_at u k hlu, drop_at v k hlv] at hd
        have IU : Hid (isL u[k] = true) := Lib.hid (HLU.out _ (List.getElem_mem hlu))
        have IV : Hid (isL v[k] = true) := Lib.hid (HLV.out _ (List.getElem_mem hlv))
        have HU := Lib.hid hlu
        have HV := Lib.hid hlv
        generalize u[k] = c at hc1 hd IU
        generalize v[k] = d at hc2 hd IV
        have HC := Lib.hid (cmplet_any (lnum c) (lnum d))
        have hd' : rowCmp u v = if sgnI (lnum c) (lnum d) = 0 then rowCmp (u.drop (k + 1)) (v.drop (k + 1)) else sgnI (lnum c) (lnum d) := hd
        clear hd
        generalize sgnI (lnum c) (lnum d) = s at HC hd'
        by_cases hs : s = 0
        · have HD : Hid (rowCmp u v = rowCmp (u.drop (k + 1)) (v.drop (k + 1))) := Lib.hid (by rw [hd', if_pos hs])
          subst hs
          clear hd'
          go_wp2_with (go_at_call 122; refine (HC.out _).mono ?_; rintro e w' ⟨rfl, rfl⟩)
          go_roundw
          case rel => exact ⟨k + 1, HU.out, HV.out, by go_num, HD.out, trivial⟩
          case measure => have := HU.out; simp [intOf]; omega
        · have HD : Hid (rowCmp u v = s) := Lib.hid (by rw [hd', if_neg hs])
          have t1 : (s != 0) = true := by simp [hs]
          clear hd' hs
          go_wp2_with (go_at_call 122; refine (HC.out _).mono ?_; rintro e w' ⟨rfl, rfl⟩)
          go_ret
          exact ⟨by rw [HD.out]; rfl, rfl⟩
      · obtain rfl : k = v.length := by omega
        have HD : Hid (rowCmp u v = 1) := Lib.hid (by rw [hd, List.drop_of_length_le (Nat.le_refl v.length), rowCmp_nil, if_neg (by simp; omega)])
        clear hd
        go_wp2
        go_ret
        exact ⟨by rw [HD.out]; rfl, rfl⟩
    · obtain rfl : k = u.length := by omega
      rw [List.drop_of_length_le (Nat.le_refl u.length), nil_rowCmp] at hd
      by_cases hl : u.length < v.length
      · have HD : Hid (rowCmp u v = -1) := Lib.hid (by rw [hd, if_neg (by simp; omega)])
        clear hd
        go_wp2
        go_ret
        exact ⟨by rw [HD.out]; rfl, rfl⟩
      · have HD : Hid (rowCmp u v = 0) := Lib.hid (by rw [hd, if_pos (by simp; omega)])
        have hl' : v.length ≤ u.length := by omega
        clear hd
        go_wp2
        go_ret
        exact ⟨by rw [HD.out]; rfl, rfl⟩
/-- the order of words, shorter ones first -/
def wordCmp (u v : List UInt8) : Int := if sgnI u.length v.length = 0 then rowCmp u v else sgnI u.length v.length
theorem wordCmp_eq {u v : List UInt8} (hu : ∀ c ∈ u, isL c = true) (hv : ∀ c ∈ v, isL c = true) : wordCmp u v = cmpW u v := by
  unfold wordCmp cmpW
  by_cases h : u.length = v.length
  · rw [if_pos (sgnI_eq.2 (by rw [h])), if_pos h]; exact rowCmp_same h hu hv
  · rw [if_neg (fun e => h (by have := sgnI_eq.1 e; omega)), if_neg h]
    unfold sgnI
    by_cases h1 : u.length < v.length
    · rw [if_pos (by omega), if_pos h1]
    · rw [if_neg (by omega), if_pos (by omega), if_neg h1]
theorem cmpl_any (n₀ : Nat) (a1 a2 : Option Addr) (c1 c2 : Nat) (u v : List UInt8) (hu : u.length ≤ 1000000) (hv : v.length ≤ 1000000) (hlu : ∀ c ∈ u, isL c = true) (hlv : ∀ c ∈ v, isL c = true) (w : World)
    (r1 : LRow n₀ w (.slice a1 u.length c1) u) (r2 : LRow n₀ w (.slice a2 v.length c2) v) :
    Calls Try.prog 88 #[.slice a1 u.length c1, .slice a2 v.length c2] w fun e w' => e = .returned (.int .i64 (wordCmp u v)) ∧ Below w.heap.size w w' := by
  have H1 := Lib.hid (cmpint_any (u.length : Int) (v.length : Int))
  have H2 := Lib.hid (scmp_any n₀ a1 a2 c1 c2 u v hu hv hlu hlv w r1 r2)
  have H3 : Hid (∀ (g : Nat) (w : World), w.cell? ⟨g, 0, none⟩ = some (.int .i64 (sgnI u.length v.length)) → w.cell? ⟨g, 1, none⟩ = some (.int .i64 (rowCmp u v)) → Calls Try.prog 109 #[.slice (some ⟨g, 0, none⟩) 2 2] w fun e w' => e = .returned (.int .i64 (wordCmp u v)) ∧ w = w') := Lib.hid fun g w h0 h1 => orint_any g _ _ w h0 h1
  generalize wordCmp u v = r at H3 ⊢
  generalize rowCmp u v = y at H2 H3
  generalize sgnI u.length v.length = x at H1 H3
  have hu' : (u.length : Int) ≤ 1000000 := by omega
  have hv' : (v.length : Int) ≤ 1000000 := by omega
  clear hu hv hlu hlv r1 r2
  go_enter Try.func88, Try.ntmps88
  go_wp2_with (first | (go_at_call 110; refine (H1.out _).mono ?_; rintro e w' ⟨rfl, rfl⟩) | (go_at_call 111; refine H2.out.mono ?_; rintro e w' ⟨rfl, rfl⟩) | (go_at_call 109; refine (H3.out _ _ (by simp) (by simp)).mono ?_; rintro e w' ⟨rfl, rfl⟩))
  go_ret
  exact ⟨rfl, (Below.refl _ _).alloc (Nat.le_refl _) _⟩
theorem icompare_any (u v : List UInt8) (hu : u.length ≤ 4000000) (hv : v.length ≤ 4000000) (w : World) :
    Calls Try.prog 49 #[.string (txt u), .string (txt v)] w fun e w' =>
      e = .returned (.tuple #[.int .i64 (if wordB u && wordB v then cmpW u v else 0), .int .i64 (if wordB u && wordB v then 0 else 1)]) ∧ Below w.heap.size w w' := by
  cases hb : wordB u && wordB v
  · have hw := Lib.hid (words_no u v hu hv hb)
    go_enter Try.func49, Try.ntmps49
    go_wp2_with (go_at_call 77; refine (hw.out _).mono ?_; rintro e w' ⟨⟨v1, v2, rfl⟩, B⟩)
    go_ret2
    exact ⟨rfl, B⟩
  · rw [Bool.and_eq_true] at hb
    have hw := Lib.hid (words_yes u v hb.1 hb.2)
    have LU := wordB_len hb.1
    have LV := wordB_len hb.2
    have HLU := Lib.hid (wordB_lets hb.1)
    have HLV := Lib.hid (wordB_lets hb.2)
    have HE := Lib.hid (wordCmp_eq HLU.out HLV.out)
    clear hu hv hb
    show Calls _ _ _ _ fun e w' => e = .returned (.tuple #[.int .i64 (cmpW u v), .int .i64 0]) ∧ Below w.heap.size w w'
    rw [← HE.out]
    clear HE
    go_enter Try.func49, Try.ntmps49
    go_wp2_with fail
    refine (hw.out _).mono ?_
    rintro e w1 ⟨v1, v2, rfl, r1, r2, b⟩
    obtain ⟨a1, c1, rfl⟩ := r1.len
    obtain ⟨a2, c2, rfl⟩ := r2.len
    have HC := Lib.hid (cmpl_any _ a1 a2 c1 c2 u v (by omega) (by omega) HLU.out HLV.out w1 r1 r2)
    have B := Lib.hid b
    clear r1 r2 b hw
    go_wp2_with (go_at_call 88; refine HC.out.mono ?_; rintro e w' ⟨rfl, B2⟩)
    go_ret2
    exact ⟨rfl, B.out.trans (B2.mono B.out.size)⟩
end Go.Proofs.Ytdcphheeapmjcaa
