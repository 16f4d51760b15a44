/-
  CONTRACTS: numbers held against each other for the sort.
-/
import Derived.Test.YtgjejolfkfpobaaUn
import Derived.Test.YtgjejolfkfpobaaSo
import Derived.Test.YtgjejolfkfpobaaSos
import Derived.Test.YtgjejolfkfpobaaSl
import Derived.BigQuiet
namespace Go.Proofs.Ytgjejolfkfpobaa
open Go.ChangeShapes Go.WideShapes Go.ChangeAt Go.RowKit Go.Deep
open Fl
theorem l01NaN_any (a : Nat) (w : World) :
    Calls Try.prog 41 #[.float .f32 a] w fun e w' => e = .returned (.bool (decide (kd a = 4))) ∧ w = w' := by
  have hn := neq_self a
  go_enter Try.func41, Try.ntmps41
  go_wp2
  go_ret
  exact ⟨rfl, rfl⟩
theorem placeOf_any (a : Nat) (h : W32 a) (w : World) :
    Calls Try.prog 110 #[.float .f32 a] w fun e w' => e = .returned (.int .i64 (key a)) ∧ w = w' := by
  have hm := and_mask a h
  have hl : sz a ≤ 2147483647 := by have := sz_lt a; omega
  cases hn : neg a
  all_goals
    go_enter Try.func110, Try.ntmps110
    go_wp2_with (go_at_call 133; refine (isNegative_any _ h _).mono ?_; rintro e w' ⟨rfl, rfl⟩)
    go_ret
    exact ⟨ret_int (by simp [key, hn]), rfl⟩
theorem l01Key_any (a : Nat) (h : W32 a) (w : World) :
    Calls Try.prog 42 #[.float .f32 a] w fun e w' => e = .returned (.int .i64 (key a)) ∧ w = w' := by
  have hl : sz a ≤ 2147483647 := by have := sz_lt a; omega
  have hl2 : a ≤ 4294967295 := by unfold W32 at h; omega
  have ht := top31 a h
  have hm := low31 a h
  have e := split_bits h
  cases hn : neg a
  all_goals
    rw [hn] at ht e
    have E := Lib.hid e
    clear e
    go_enter Try.func42, Try.ntmps42
    go_wp2
    go_ret
    refine ⟨ret_int ?_, rfl⟩
    have e := E.out
    simp only [Bool.false_eq_true, ↓reduceIte] at e
    simp only [key, hn, Bool.false_eq_true, ↓reduceIte]
    first | done | omega
theorem isNaN_any (k : Int) (w : World) :
    Calls Try.prog 109 #[.int .i64 k] w fun e w' => e = .returned (.bool (k == 4)) ∧ w = w' := by
  go_enter Try.func109, Try.ntmps109
  go_wp2
  go_ret
  exact ⟨rfl, rfl⟩
def cmpI (x y : Int) : Int := if x < y then -1 else if y < x then 1 else 0
theorem cmpNaN_any (x : Int) (w : World) :
    Calls Try.prog 108 #[.int .i64 x] w fun e w' => e = .returned (.bool false) ∧ w = w' := by
  go_enter Try.func108, Try.ntmps108
  go_wp2
  go_ret
  exact ⟨by simp, rfl⟩
theorem cmpCompare_any (x y : Int) (w : World) :
    Calls Try.prog 79 #[.int .i64 x, .int .i64 y] w fun e w' => e = .returned (.int .i64 (cmpI x y)) ∧ w = w' := by
  rcases Int.lt_trichotomy x y with h | h | h
  · have t : decide (x < y) = true := by simpa using h
    have R : Hid (cmpI x y = -1) := Lib.hid (by unfold cmpI; rw [if_pos h])
    clear h
    go_enter Try.func79, Try.ntmps79
    go_wp2_with (go_at_call 108; refine (cmpNaN_any _ _).mono ?_; rintro e w' ⟨rfl, rfl⟩)
    go_ret
    exact ⟨ret_int (by rw [R.out]), rfl⟩
  · subst h
    have t : decide (x < x) = false := by simp
    have R : Hid (cmpI x x = 0) := Lib.hid (by unfold cmpI; rw [if_neg (by omega), if_neg (by omega)])
    go_enter Try.func79, Try.ntmps79
    go_wp2_with (go_at_call 108; refine (cmpNaN_any _ _).mono ?_; rintro e w' ⟨rfl, rfl⟩)
    go_ret
    exact ⟨ret_int (by rw [R.out]), rfl⟩
  · have t : decide (x < y) = false := by simp; omega
    have t2 : decide (y < x) = true := by simpa using h
    have R : Hid (cmpI x y = 1) := Lib.hid (by unfold cmpI; rw [if_neg (by omega), if_pos h])
    clear h
    go_enter Try.func79, Try.ntmps79
    go_wp2_with (go_at_call 108; refine (cmpNaN_any _ _).mono ?_; rintro e w' ⟨rfl, rfl⟩)
    go_ret
    exact ⟨ret_int (by rw [R.out]), rfl⟩
theorem sortPlace_any (a : Nat) (h : W32 a) (w : World) :
    Calls Try.prog 80 #[.float .f32 a] w fun e w' => e = .returned (.int .i64 (skey a)) ∧ w = w' := by
  by_cases hk : kd a = 4
  · have t : (kd a == 4) = true := by simpa using hk
    have R := Lib.hid (skey_nan hk)
    clear hk
    go_enter Try.func80, Try.ntmps80
    go_wp2_with (first | (go_at_call 87; refine (kindOf_any _ h _).mono ?_; rintro e w' ⟨rfl, rfl⟩) | (go_at_call 109; refine (isNaN_any _ _).mono ?_; rintro e w' ⟨rfl, rfl⟩))
    go_ret
    exact ⟨ret_int (by rw [R.out]), rfl⟩
  · have t : (kd a == 4) = false := by simpa using hk
    have R := Lib.hid (skey_num hk)
    clear hk
    go_enter Try.func80, Try.ntmps80
    go_wp2_with (first | (go_at_call 87; refine (kindOf_any _ h _).mono ?_; rintro e w' ⟨rfl, rfl⟩) | (go_at_call 109; refine (isNaN_any _ _).mono ?_; rintro e w' ⟨rfl, rfl⟩) | (go_at_call 110; refine (placeOf_any _ h _).mono ?_; rintro e w' ⟨rfl, rfl⟩))
    go_ret
    exact ⟨ret_int (by rw [R.out]), rfl⟩
theorem cmpReals_any (a b : Nat) (ha : W32 a) (hb : W32 b) (w : World) :
    Calls Try.prog 38 #[.float .f32 a, .float .f32 b] w fun e w' => e = .returned (.int .i64 (cmpI (skey a) (skey b))) ∧ w = w' := by
  go_enter Try.func38, Try.ntmps38
  go_wp2_with (first | (go_at_call 80; first | ((with_reducible refine (sortPlace_any _ ha _).mono ?_); rintro e w' ⟨rfl, rfl⟩) | ((with_reducible refine (sortPlace_any _ hb _).mono ?_); rintro e w' ⟨rfl, rfl⟩)) | (go_at_call 79; refine (cmpCompare_any _ _ _).mono ?_; rintro e w' ⟨rfl, rfl⟩))
  go_ret
  exact ⟨rfl, rfl⟩
/-- does a number stand before another one? -/
def bef (a b : Nat) : Bool := decide (skey a < skey b)
theorem before_any (a b : Nat) (ha : W32 a) (hb : W32 b) (w : World) :
    Calls Try.prog 39 #[.float .f32 a, .float .f32 b] w fun e w' => e = .returned (.bool (bef a b)) ∧ w = w' := by
  by_cases h1 : kd a = 4
  · have t : decide (kd a = 4) = true := by simpa using h1
    have R : Hid (bef a b = false) := Lib.hid (by
      unfold bef
      rw [skey_nan h1]
      by_cases h2 : kd b = 4
      · rw [skey_nan h2]; simp
      · have := key_le h2
        rw [skey_num h2]; simp; omega)
    clear h1
    go_enter Try.func39, Try.ntmps39
    go_wp2_with (first | (go_at_call 41; first | ((with_reducible refine (l01NaN_any a _).mono ?_); rintro e w' ⟨rfl, rfl⟩) | ((with_reducible refine (l01NaN_any b _).mono ?_); rintro e w' ⟨rfl, rfl⟩)) | (go_at_call 42; first | ((with_reducible refine (l01Key_any _ ha _).mono ?_); rintro e w' ⟨rfl, rfl⟩) | ((with_reducible refine (l01Key_any _ hb _).mono ?_); rintro e w' ⟨rfl, rfl⟩)))
    go_ret
    exact ⟨ret_bool (by rw [R.out]), rfl⟩
  · have t : decide (kd a = 4) = false := by simpa using h1
    by_cases h2 : kd b = 4
    · have t2 : decide (kd b = 4) = true := by simpa using h2
      have R : Hid (bef a b = true) := Lib.hid (by
        unfold bef
        have := key_le h1
        rw [skey_num h1, skey_nan h2]; simp; omega)
      clear h1 h2
      go_enter Try.func39, Try.ntmps39
      go_wp2_with (first | (go_at_call 41; first | ((with_reducible refine (l01NaN_any a _).mono ?_); rintro e w' ⟨rfl, rfl⟩) | ((with_reducible refine (l01NaN_any b _).mono ?_); rintro e w' ⟨rfl, rfl⟩)) | (go_at_call 42; first | ((with_reducible refine (l01Key_any _ ha _).mono ?_); rintro e w' ⟨rfl, rfl⟩) | ((with_reducible refine (l01Key_any _ hb _).mono ?_); rintro e w' ⟨rfl, rfl⟩)))
      go_ret
      exact ⟨ret_bool (by rw [R.out]), rfl⟩
    · have t2 : decide (kd b = 4) = false := by simpa using h2
      have R : Hid (bef a b = decide (key a < key b)) := Lib.hid (by unfold bef; rw [skey_num h1, skey_num h2])
      clear h1 h2
      go_enter Try.func39, Try.ntmps39
      go_wp2_with (first | (go_at_call 41; first | ((with_reducible refine (l01NaN_any a _).mono ?_); rintro e w' ⟨rfl, rfl⟩) | ((with_reducible refine (l01NaN_any b _).mono ?_); rintro e w' ⟨rfl, rfl⟩)) | (go_at_call 42; first | ((with_reducible refine (l01Key_any _ ha _).mono ?_); rintro e w' ⟨rfl, rfl⟩) | ((with_reducible refine (l01Key_any _ hb _).mono ?_); rintro e w' ⟨rfl, rfl⟩)))
      go_ret
      exact ⟨ret_bool (by rw [R.out]), rfl⟩
/-- a number of 32 bits -/
structure Word32 where
  val : Nat
  ok : W32 val
instance : Inhabited Word32 := ⟨⟨0, by unfold W32; omega⟩⟩
def encW (x : Word32) : Value := .float .f32 x.1
def cfW (x y : Word32) : Int := cmpI (skey x.1) (skey y.1)
theorem cfW_lt (x y : Word32) : Go.Proofs.ltOf cfW x y = decide (skey x.1 < skey y.1) := by
  unfold Go.Proofs.ltOf cfW cmpI
  by_cases h1 : skey x.1 < skey y.1
  · simp [h1]
  · by_cases h2 : skey y.1 < skey x.1 <;> simp [h1, h2]
theorem swoW : Go.Sort.SWO (Go.Proofs.ltOf cfW) where
  irrefl x := by rw [cfW_lt]; simp
  trans x y z h1 h2 := by rw [cfW_lt] at *; simp at *; omega
  ntrans x y z h1 h2 := by rw [cfW_lt] at *; simp at *; omega
theorem cmpReads (blk off n : Nat) (w : World) : CmpReads Try.prog 38 #[] encW cfW blk off n w := fun m os dk hs x y =>
  (cmpReals_any x.1 y.1 x.2 y.2 _).mono fun e w' ⟨h1, h2⟩ => ⟨h1, 0, h2.symm⟩
end Go.Proofs.Ytgjejolfkfpobaa
