import Derived.Test.YtanepboepeijoaaDoorHex
import Derived.Test.YtanepboepeijoaaDoorTk
namespace Go.Proofs.YtanepboepeijoaaDoor
open Go.ChangeShapes Go.WideShapes Go.ChangeAt Go.RowKit
open Fl
theorem l01Text_nan (a : Nat) (hk : kd a = 4) (w : World) :
    Calls Tryd.prog 29 #[.float .f32 a] w fun e w' => e = .returned (.string ⟨#[110, 97, 110]⟩) ∧ Below w.heap.size w w' := by
  go_enter Tryd.func29, Tryd.ntmps29
  go_wp2_with (go_at_call 43; refine (l01NaN_any _ _).mono ?_; rintro e w' ⟨rfl, rfl⟩)
  go_ret
  exact ⟨rfl, Below.refl _ _⟩
set_option maxRecDepth 8000 in
set_option maxHeartbeats 2000000 in
theorem l01Text_num (a : Nat) (ha : W32 a) (hk : kd a ≠ 4) (w : World) :
    Calls Tryd.prog 29 #[.float .f32 a] w fun e w' => e = .returned (.string ⟨(hexT a 8).toArray⟩) ∧ Below w.heap.size w w' := by
  have hkb : decide (kd a = 4) = false := by simpa using hk
  have HW := Lib.hid ha
  have ha1 : (a : Int) ≤ 4294967295 := by unfold W32 at ha; omega
  clear ha
  go_enter Tryd.func29, Tryd.ntmps29
  go_wp2_with (go_at_call 43; refine (l01NaN_any _ _).mono ?_; rintro e w' ⟨rfl, rfl⟩; rw [hkb])
  refine wp_loop_rounds 9 ?_
  have HX : Hid (∀ (d : Nat), d < 16 → ∀ w, (Instr.index 9 (.string ⟨#[48, 49, 50, 51, 52, 53, 54, 55, 56, 57, 97, 98, 99, 100, 101, 102]⟩) (.int .u32 (d : Int))).run Tryd.prog w = .ok (.int .u8 ((hexC d).toNat : Int)) w) := Lib.hid fun d hd w => idx16 9 Tryd.underlying9 .u32 d hd w
  have O0 : Hid (OwnB w.heap.size (.slice (some ⟨w.heap.size, 0, none⟩) 0 0) (hexT a 0) (w.alloc (.cells #[] 5))) := Lib.hid (World.ownsRow_made (size := 1) w #[] 0 (Nat.le_refl _) (by unfold maxLen; omega) rfl)
  have B0 : Hid (Below w.heap.size w (w.alloc (.cells #[] 5))) := Lib.hid ((Below.refl _ _).alloc (Nat.le_refl _) _)
  generalize hv0 : Value.slice (some ⟨w.heap.size, 0, none⟩) 0 0 = v0 at O0 ⊢
  generalize w.alloc (.cells #[] 5) = w0 at O0 B0 ⊢
  clear hv0
  obtain ⟨d0, hd0⟩ : ∃ d, a / 16 ^ 7 % 16 = d := ⟨_, rfl⟩
  have hx0 := HX.out d0 (by omega)
  have hb0 : bits .and .u32 ((a : Int) / 268435456) 15 = (d0 : Int) := by
    have := and15 (a / 268435456) (by have := HW.out; unfold W32 at this; omega)
    rw [← hd0, show (a / 16 ^ 7 : Nat) = a / 268435456 from rfl, ← this]; congr 1 <;> omega
  have HD0 : Hid (hexT a 0 ++ [hexC d0] = hexT a 1) := Lib.hid (by rw [← hd0]; rfl)
  clear hd0
  rw [rounds_succ]
  go_wp2_with (refine wpList_append_byte rfl (.tmp 16) (.tmp 24) rfl w.heap.size v0 (hexT a 0) (hexC d0) rfl (O0.out.alloc _) w0.heap.size rfl (by simp) (by rw [hexT_len]; omega) (by have := B0.out.size; simp; omega) w (B0.out.alloc (by exact B0.out.size) _) ?_; intro v1 w1 o b; have O1 := Lib.hid o; have B1 := Lib.hid b; clear o b hx0 hb0)
  rw [HD0.out] at O1
  clear HD0 O0 B0
  obtain ⟨d1, hd1⟩ : ∃ d, a / 16 ^ 6 % 16 = d := ⟨_, rfl⟩
  have hx1 := HX.out d1 (by omega)
  have hb1 : bits .and .u32 ((a : Int) / 16777216) 15 = (d1 : Int) := by
    have := and15 (a / 16777216) (by have := HW.out; unfold W32 at this; omega)
    rw [← hd1, show (a / 16 ^ 6 : Nat) = a / 16777216 from rfl, ← this]; congr 1 <;> omega
  have HD1 : Hid (hexT a 1 ++ [hexC d1] = hexT a 2) := Lib.hid (by rw [← hd1]; rfl)
  clear hd1
  rw [rounds_succ]
  go_wp2_with (refine wpList_append_byte rfl (.tmp 16) (.tmp 24) rfl w.heap.size v1 (hexT a 1) (hexC d1) rfl (O1.out.alloc _) w1.heap.size rfl (by simp) (by rw [hexT_len]; omega) (by have := B1.out.size; simp; omega) w (B1.out.alloc (by exact B1.out.size) _) ?_; intro v2 w2 o b; have O2 := Lib.hid o; have B2 := Lib.hid b; clear o b hx1 hb1)
  rw [HD1.out] at O2
  clear HD1 O1 B1
  obtain ⟨d2, hd2⟩ : ∃ d, a / 16 ^ 5 % 16 = d := ⟨_, rfl⟩
  have hx2 := HX.out d2 (by omega)
  have hb2 : bits .and .u32 ((a : Int) / 1048576) 15 = (d2 : Int) := by
    have := and15 (a / 1048576) (by have := HW.out; unfold W32 at this; omega)
    rw [← hd2, show (a / 16 ^ 5 : Nat) = a / 1048576 from rfl, ← this]; congr 1 <;> omega
  have HD2 : Hid (hexT a 2 ++ [hexC d2] = hexT a 3) := Lib.hid (by rw [← hd2]; rfl)
  clear hd2
  rw [rounds_succ]
  go_wp2_with (refine wpList_append_byte rfl (.tmp 16) (.tmp 24) rfl w.heap.size v2 (hexT a 2) (hexC d2) rfl (O2.out.alloc _) w2.heap.size rfl (by simp) (by rw [hexT_len]; omega) (by have := B2.out.size; simp; omega) w (B2.out.alloc (by exact B2.out.size) _) ?_; intro v3 w3 o b; have O3 := Lib.hid o; have B3 := Lib.hid b; clear o b hx2 hb2)
  rw [HD2.out] at O3
  clear HD2 O2 B2
  obtain ⟨d3, hd3⟩ : ∃ d, a / 16 ^ 4 % 16 = d := ⟨_, rfl⟩
  have hx3 := HX.out d3 (by omega)
  have hb3 : bits .and .u32 ((a : Int) / 65536) 15 = (d3 : Int) := by
    have := and15 (a / 65536) (by have := HW.out; unfold W32 at this; omega)
    rw [← hd3, show (a / 16 ^ 4 : Nat) = a / 65536 from rfl, ← this]; congr 1 <;> omega
  have HD3 : Hid (hexT a 3 ++ [hexC d3] = hexT a 4) := Lib.hid (by rw [← hd3]; rfl)
  clear hd3
  rw [rounds_succ]
  go_wp2_with (refine wpList_append_byte rfl (.tmp 16) (.tmp 24) rfl w.heap.size v3 (hexT a 3) (hexC d3) rfl (O3.out.alloc _) w3.heap.size rfl (by simp) (by rw [hexT_len]; omega) (by have := B3.out.size; simp; omega) w (B3.out.alloc (by exact B3.out.size) _) ?_; intro v4 w4 o b; have O4 := Lib.hid o; have B4 := Lib.hid b; clear o b hx3 hb3)
  rw [HD3.out] at O4
  clear HD3 O3 B3
  obtain ⟨d4, hd4⟩ : ∃ d, a / 16 ^ 3 % 16 = d := ⟨_, rfl⟩
  have hx4 := HX.out d4 (by omega)
  have hb4 : bits .and .u32 ((a : Int) / 4096) 15 = (d4 : Int) := by
    have := and15 (a / 4096) (by have := HW.out; unfold W32 at this; omega)
    rw [← hd4, show (a / 16 ^ 3 : Nat) = a / 4096 from rfl, ← this]; congr 1 <;> omega
  have HD4 : Hid (hexT a 4 ++ [hexC d4] = hexT a 5) := Lib.hid (by rw [← hd4]; rfl)
  clear hd4
  rw [rounds_succ]
  go_wp2_with (refine wpList_append_byte rfl (.tmp 16) (.tmp 24) rfl w.heap.size v4 (hexT a 4) (hexC d4) rfl (O4.out.alloc _) w4.heap.size rfl (by simp) (by rw [hexT_len]; omega) (by have := B4.out.size; simp; omega) w (B4.out.alloc (by exact B4.out.size) _) ?_; intro v5 w5 o b; have O5 := Lib.hid o; have B5 := Lib.hid b; clear o b hx4 hb4)
  rw [HD4.out] at O5
  clear HD4 O4 B4
  obtain ⟨d5, hd5⟩ : ∃ d, a / 16 ^ 2 % 16 = d := ⟨_, rfl⟩
  have hx5 := HX.out d5 (by omega)
  have hb5 : bits .and .u32 ((a : Int) / 256) 15 = (d5 : Int) := by
    have := and15 (a / 256) (by have := HW.out; unfold W32 at this; omega)
    rw [← hd5, show (a / 16 ^ 2 : Nat) = a / 256 from rfl, ← this]; congr 1 <;> omega
  have HD5 : Hid (hexT a 5 ++ [hexC d5] = hexT a 6) := Lib.hid (by rw [← hd5]; rfl)
  clear hd5
  rw [rounds_succ]
  go_wp2_with (refine wpList_append_byte rfl (.tmp 16) (.tmp 24) rfl w.heap.size v5 (hexT a 5) (hexC d5) rfl (O5.out.alloc _) w5.heap.size rfl (by simp) (by rw [hexT_len]; omega) (by have := B5.out.size; simp; omega) w (B5.out.alloc (by exact B5.out.size) _) ?_; intro v6 w6 o b; have O6 := Lib.hid o; have B6 := Lib.hid b; clear o b hx5 hb5)
  rw [HD5.out] at O6
  clear HD5 O5 B5
  obtain ⟨d6, hd6⟩ : ∃ d, a / 16 ^ 1 % 16 = d := ⟨_, rfl⟩
  have hx6 := HX.out d6 (by omega)
  have hb6 : bits .and .u32 ((a : Int) / 16) 15 = (d6 : Int) := by
    have := and15 (a / 16) (by have := HW.out; unfold W32 at this; omega)
    rw [← hd6, show (a / 16 ^ 1 : Nat) = a / 16 from rfl, ← this]; congr 1 <;> omega
  have HD6 : Hid (hexT a 6 ++ [hexC d6] = hexT a 7) := Lib.hid (by rw [← hd6]; rfl)
  clear hd6
  rw [rounds_succ]
  go_wp2_with (refine wpList_append_byte rfl (.tmp 16) (.tmp 24) rfl w.heap.size v6 (hexT a 6) (hexC d6) rfl (O6.out.alloc _) w6.heap.size rfl (by simp) (by rw [hexT_len]; omega) (by have := B6.out.size; simp; omega) w (B6.out.alloc (by exact B6.out.size) _) ?_; intro v7 w7 o b; have O7 := Lib.hid o; have B7 := Lib.hid b; clear o b hx6 hb6)
  rw [HD6.out] at O7
  clear HD6 O6 B6
  obtain ⟨d7, hd7⟩ : ∃ d, a / 16 ^ 0 % 16 = d := ⟨_, rfl⟩
  have hx7 := HX.out d7 (by omega)
  have hb7 : bits .and .u32 ((a : Int)) 15 = (d7 : Int) := by
    have := and15 (a / 1) (by have := HW.out; unfold W32 at this; omega)
    rw [← hd7, show (a / 16 ^ 0 : Nat) = a / 1 from rfl, ← this]; congr 1 <;> omega
  have HD7 : Hid (hexT a 7 ++ [hexC d7] = hexT a 8) := Lib.hid (by rw [← hd7]; rfl)
  clear hd7
  rw [rounds_succ]
  go_wp2_with (refine wpList_append_byte rfl (.tmp 16) (.tmp 24) rfl w.heap.size v7 (hexT a 7) (hexC d7) rfl (O7.out.alloc _) w7.heap.size rfl (by simp) (by rw [hexT_len]; omega) (by have := B7.out.size; simp; omega) w (B7.out.alloc (by exact B7.out.size) _) ?_; intro v8 w8 o b; have O8 := Lib.hid o; have B8 := Lib.hid b; clear o b hx7 hb7)
  rw [HD7.out] at O8
  clear HD7 O7 B7
  rw [rounds_succ]
  have hc := own_string O8.out
  go_wp2
  go_ret
  exact ⟨rfl, B8.out⟩
end Go.Proofs.YtanepboepeijoaaDoor
