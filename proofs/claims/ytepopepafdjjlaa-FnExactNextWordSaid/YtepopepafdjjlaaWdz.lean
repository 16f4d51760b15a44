/-
  CONTRACT: l05Go of the specification; the choices of a reduced word.
-/
import Derived.Test.YtepopepafdjjlaaInw
import Derived.Test.YtepopepafdjjlaaIrk
namespace Go.Proofs.Ytepopepafdjjlaa
open Go.ChangeShapes Go.WideShapes Go.ChangeAt Go.RowKit Go.Shelf
open Wd
attribute [local go_sem] Oper.semAt_some
theorem okch_red {l : List UInt8} (hl : ∀ c ∈ l, isL c = true) (hr : red l = l) : OkCh (chAt l) l.length := by
  intro k hk
  obtain ⟨a, b⟩ := chAt_nonneg l hl k
  refine ⟨a, b, fun h0 => ?_⟩
  have hn : NI l := by have := NI_red l; rwa [hr] at this
  obtain ⟨j, rfl⟩ : ∃ j, k = j + 1 := ⟨k - 1, by omega⟩
  have e1 : l[j]? = some l[j] := List.getElem?_eq_getElem (by omega)
  have e2 : l[j + 1]? = some l[j + 1] := List.getElem?_eq_getElem hk
  have hne := hn j _ _ e1 e2
  have i1 := hl _ (List.getElem_mem (show j < l.length by omega))
  have i2 := hl _ (List.getElem_mem hk)
  unfold chAt
  rw [Nat.add_sub_cancel, e1, e2]
  simp only [Option.getD_some]
  obtain ⟨c1, c2⟩ := lnum_yes i2
  obtain ⟨d1, d2⟩ := lnum_yes (oth_isL i1)
  have h7 : lnum (oth l[j]) ≠ lnum l[j + 1] := fun e => hne (by rw [← lnum_inj (oth_isL i1) i2 e, oth_oth i1])
  split
  · omega
  · rename_i hx
    have : ¬ lnum (oth l[j]) < lnum l[j + 1] := fun h => hx ⟨by omega, h⟩
    omega
/-- the first letter that may stand behind a word -/
def goC (T : List UInt8) : UInt8 := if T.getLast? = some 65 then 65 else 97
/-- the first reduced word that begins so, with so many letters more -/
def goL (b : List UInt8) : Nat → List UInt8
  | 0 => b
  | k + 1 => goL b k ++ [goC (goL b k)]
theorem goL_length (b : List UInt8) (k : Nat) : (goL b k).length = b.length + k := by
  induction k with
  | zero => rfl
  | succ k ih => simp [goL, ih]; omega
theorem slice_lz (v : List UInt8) (a b : Nat) (h1 : a ≤ b) (h2 : b ≤ v.length) (x y : Int) (hx : x = (a : Int)) (hy : y = (b : Int)) (w : World) : (Instr.slice 9 (.string (txt v)) (some (.int .i64 x)) (some (.int .i64 y)) none).run Try.prog w = .ok (.string (txt ((v.drop a).take (b - a)))) w := by
  subst hx hy
  have hs := txt_size v
  have he : (txt v).extract a b = txt ((v.drop a).take (b - a)) := by apply ByteArray.ext; simp [txt]
  rw [run_slice_string w 9 (txt v) .i64 .i64 a b Try.underlying9 (by omega) (by omega) (by omega)]
  simp [he]
/-- no more than draws lie between -/
def DN (w w' : World) : Prop := ∃ n, w' = w.drewN n
theorem DN.refl (w : World) : DN w w := ⟨0, rfl⟩
theorem DN.n {w w1 : World} (h : DN w w1) (k : Nat) : DN w (w1.drewN k) := by
  obtain ⟨m, rfl⟩ := h
  exact ⟨m + k, by rw [World.drewN_drewN]⟩
theorem DN.below {w w1 : World} (h : DN w w1) : Below w.heap.size w w1 := by
  obtain ⟨m, rfl⟩ := h
  exact drewN_below0 m
def strLen : Value → Nat
  | .string s => s.size
  | _ => 0
set_option maxHeartbeats 2000000 in
theorem go_any (g : Int) (h1 : 1 ≤ g) (h2 : g ≤ 4) (b : List UInt8) (n : Nat) (hn : n ≤ 41) (hb : b.length ≤ n) (w : World) :
    Calls Try.prog 63 #[.int .i64 g, .string (txt b), .int .i64 (n : Int)] w fun e w' => e = .returned (.string (txt (goL b (n - b.length)))) ∧ DN w w' := by
  have hx0 : ∀ w, (Instr.index 9 (.string (⟨#[97, 65, 98, 66, 99, 67, 100, 68]⟩ : ByteArray)) (.int .i64 (bits BinOp.xor IntKind.i64 0 1))).run Try.prog w = .ok (.int .u8 65) w := fun w => idx_xor 0 (by decide) w
  have hx1 : ∀ w, (Instr.index 9 (.string (⟨#[97, 65, 98, 66, 99, 67, 100, 68]⟩ : ByteArray)) (.int .i64 (bits BinOp.xor IntKind.i64 1 1))).run Try.prog w = .ok (.int .u8 97) w := fun w => idx_xor 1 (by decide) w
  have hn' : (n : Int) ≤ 41 := by omega
  go_enter Try.func63, Try.ntmps63
  go_wp2
  go_loopw [1] (fun r wr => ∃ k : Nat, b.length + k ≤ n ∧ r = .string (txt (goL b k)) ∧ DN w wr) (fun r _ => n - strLen r)
  case atStart => exact ⟨0, hb, rfl, DN.refl _⟩
  case round =>
    obtain ⟨k, hk, rfl, hB⟩ := hrel
    have B := Lib.hid hB
    clear hB
    have hs : (txt (goL b k)).size = b.length + k := by rw [txt_size, goL_length]
    by_cases hlt : b.length + k < n
    · have HK := Lib.hid hlt
      have t1 : decide ((((txt (goL b k)).size : Nat) : Int) < (n : Int)) = true := by rw [hs]; simp; omega
      have NX : Hid (goL b (k + 1) = goL b k ++ [goC (goL b k)]) := Lib.hid rfl
      have HS := Lib.hid hs
      have T0 : Hid (0 < (goL b k).length → ∀ w, (Instr.index 9 (.string (txt (goL b k))) (.int .i64 (((goL b k).length : Int) - 1))).run Try.prog w = .ok (.int .u8 ((((goL b k).getLast?.getD 0).toNat : Nat) : Int)) w) := Lib.hid fun h0 w => by
        have := idx_txt (goL b k) ((goL b k).length - 1) (by omega) w
        rw [show (((goL b k).length - 1 : Nat) : Int) = ((goL b k).length : Int) - 1 from by omega] at this
        rw [this, List.getLast?_eq_getElem?, List.getElem?_eq_getElem (by omega)]
        rfl
      have hs97 : (txt [97]).size = 1 := rfl
      have hs65 : (txt [65]).size = 1 := rfl
      have LN : (goL b k).length ≤ 40 := by rw [goL_length]; omega
      rw [← goL_length] at hs
      have E1 : (goL b k).length < n := by rw [goL_length]; omega
      have M : Hid (n - strLen (.string (txt (goL b (k + 1)))) < n - strLen (.string (txt (goL b k)))) := Lib.hid (by simp only [strLen, txt_size, goL_length]; omega)
      have SL : Hid (∀ w, (Instr.slice 9 (.string (⟨#[97, 65, 98, 66, 99, 67, 100, 68]⟩ : ByteArray)) (some (.int .i64 0)) (some (.int .i64 1)) none).run Try.prog w = .ok (.string (txt [97])) w) := Lib.hid fun w => slice_lz [97, 65, 98, 66, 99, 67, 100, 68] 0 1 (by decide) (by decide) 0 1 rfl rfl w
      have SL1 : Hid (∀ w, (Instr.slice 9 (.string (⟨#[97, 65, 98, 66, 99, 67, 100, 68]⟩ : ByteArray)) (some (.int .i64 1)) (some (.int .i64 2)) none).run Try.prog w = .ok (.string (txt [65])) w) := Lib.hid fun w => slice_lz [97, 65, 98, 66, 99, 67, 100, 68] 1 2 (by decide) (by decide) 1 2 rfl rfl w
      generalize hT' : goL b (k + 1) = T' at NX M
      have RT := Lib.hid hT'
      clear hT'
      clear t1 hlt
      generalize goL b k = T at *
      have t1 : decide (T.length < n) = true := by simp; omega
      have LN' : (T.length : Int) ≤ 40 := by omega
      clear LN E1
      by_cases h0 : T = []
      · have NJ : Hid (T' = T ++ [97]) := Lib.hid (by rw [NX.out]; unfold goC; rw [h0]; rfl)
        have t2 : ((T.length : Int) == 0) = true := by rw [h0]; rfl
        have S := SL.out
        clear h0 T0 NX SL SL1 hx1
        go_wp2
        refine wp_loop_rounds 3 ?_
        rw [rounds_succ]
        go_wp2
        go_quiet (fail)
        generalize hW : wr.drewN nq = w1
        have B1 : Hid (DN w w1) := Lib.hid (by rw [← hW]; exact B.out.n nq)
        clear hW
        go_wp2
        go_roundw
        case rel => exact ⟨k + 1, HK.out, by rw [RT.out, NJ.out, ← txt_app], B1.out⟩
        case measure => rw [txt_app, ← NJ.out]; exact M.out
      · have h0' : 0 < T.length := List.length_pos_iff.2 h0
        have t2 : ((T.length : Int) == 0) = false := by rw [beq_eq_false_iff_ne]; omega
        have h1' : (1 : Int) ≤ T.length := by omega
        have IX := T0.out h0'
        obtain ⟨c, hc⟩ : ∃ c, T.getLast? = some c := by
          cases e : T.getLast? with
          | none => rw [List.getLast?_eq_none_iff] at e; exact absurd e h0
          | some c => exact ⟨c, rfl⟩
        rw [hc] at IX
        simp only [Option.getD_some] at IX
        by_cases h65 : c = 65
        · have NJ : Hid (T' = T ++ [65]) := Lib.hid (by rw [NX.out]; unfold goC; rw [hc, if_pos (by rw [h65])])
          have t6 : (((c.toNat : Nat) : Int) == 65) = true := by rw [h65]; rfl
          have t7 : (((c.toNat : Nat) : Int) == 97) = false := by rw [h65]; rfl
          have S := SL1.out
          clear h0 h0' hc h65 T0 NX SL SL1
          go_wp2
          refine wp_loop_rounds 3 ?_
          rw [rounds_succ]
          go_wp2
          go_quiet (fail)
          generalize hW : wr.drewN nq = w1
          have B1 : Hid (DN w w1) := Lib.hid (by rw [← hW]; exact B.out.n nq)
          clear hW
          go_wp2
          rw [rounds_succ]
          go_wp2
          go_quiet (fail)
          generalize hW : w1.drewN nq = w2
          have B2 : Hid (DN w w2) := Lib.hid (by rw [← hW]; exact B1.out.n nq)
          clear hW
          go_wp2
          go_roundw
          case rel => exact ⟨k + 1, HK.out, by rw [RT.out, NJ.out, ← txt_app], B2.out⟩
          case measure => rw [txt_app, ← NJ.out]; exact M.out
        · have NJ : Hid (T' = T ++ [97]) := Lib.hid (by rw [NX.out]; unfold goC; rw [hc, if_neg (fun e => h65 (Option.some.inj e))])
          have t6 : (((c.toNat : Nat) : Int) == 65) = false := u8ne (c := 65) (d := c) (fun e => h65 e.symm)
          have S := SL.out
          clear h0 h0' hc h65 T0 NX SL SL1
          go_wp2
          refine wp_loop_rounds 3 ?_
          rw [rounds_succ]
          go_wp2
          go_quiet (fail)
          generalize hW : wr.drewN nq = w1
          have B1 : Hid (DN w w1) := Lib.hid (by rw [← hW]; exact B.out.n nq)
          clear hW
          go_wp2
          go_roundw
          case rel => exact ⟨k + 1, HK.out, by rw [RT.out, NJ.out, ← txt_app], B1.out⟩
          case measure => rw [txt_app, ← NJ.out]; exact M.out
    · obtain hk' : k = n - b.length := by omega
      have t1 : decide (b.length + k < n) = false := by simp; omega
      have t1' : decide ((b.length : Int) + (k : Int) < (n : Int)) = false := by simp; omega
      subst hk'
      have HK : Hid ((b.length : Int) + ((n - b.length : Nat) : Int) = n) := Lib.hid (by omega)
      clear hk hlt hb
      go_wp2
      go_ret
      exact ⟨rfl, B.out⟩
end Go.Proofs.Ytepopepafdjjlaa
