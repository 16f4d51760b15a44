/-
  CONTRACTS: PictureFile by the program: the file of what is valid.
-/
import Derived.Test.YthfmkejdpflpcaaPfc
namespace Go.Proofs.Ythfmkejdpflpcaa
open Go.ChangeShapes Go.WideShapes Go.ChangeAt Go.RowKit
theorem pr_lowP {s lo lo' hi : Nat} {w : World} {v : Value} {n : Nat} {f : Nat → Value} (hl : lo' ≤ lo) (h : PR s lo hi w v n f) : PR s lo' hi w v n f := by
  obtain ⟨a, cap, rfl, h0 | ⟨g, rfl, h1, h2⟩⟩ := h
  · exact ⟨a, cap, rfl, .inl h0⟩
  · exact ⟨_, cap, rfl, .inr ⟨g, rfl, Nat.le_trans hl h1, h2⟩⟩
theorem tp_pt (v : Value) (w : World) : (Instr.typeAssert (.iface 101 v) 148 150 true).run Try.prog w = .ok (.tuple #[.slice none 0 0, .bool false]) w := by
  simp [Instr.typeAssert, run_underlying Try.underlying150, Try.zeroValue150, go_sem, Result.andThen]
theorem tp_pic (v : Value) (w : World) : (Instr.typeAssert (.iface 101 v) 148 101 true).run Try.prog w = .ok (.tuple #[v, .bool true]) w := by
  simp [Instr.typeAssert, run_underlying Try.underlying101, go_sem, Result.andThen]
theorem methP (N : Nat) (hN : 0 < N) (x : Value) (w : World) : (method N 101 x "loop.example/g01171/impl.packed").run Try.prog w = .ok (212, x) w := by
  cases N with
  | zero => omega
  | succ N => kernel_rfl
set_option maxRecDepth 20000 in
set_option maxHeartbeats 8000000 in
theorem fileOfP_any (a : Option Addr) (n cap : Nat) (f : Nat → Int) (w : World) (hn : n ≤ 64) (h : BlR w.heap.size w a n f) (hf : BlF n f) :
    Calls Try.prog 83 #[.iface 101 (.slice a n cap)] w fun e w' => ∃ v, e = .returned (.tuple #[v, .int .i64 (hdC 2 (n : Int) (pfN f n))]) ∧ PR 16 w.heap.size w'.heap.size w' v (pkM 2 (n : Int) (pfN f n)) (FF (pfW f n)) ∧ Below w.heap.size w w' := by
  have PW := Lib.hid (packedP_any a n cap f w hn h hf)
  have PF : Hid (∀ aD cD W, YrR W.heap.size W aD (pfN f n) (pfB f n) → Calls Try.prog 123 #[.int .i64 2, .int .i64 (n : Int), .slice aD (pfN f n) cD] W fun e w' => ∃ v, e = .returned (.tuple #[v, .int .i64 (hdC 2 (n : Int) (pfN f n))]) ∧ PR 16 W.heap.size w'.heap.size w' v (pkM 2 (n : Int) (pfN f n)) (FF (pfW f n)) ∧ Below W.heap.size W w') := Lib.hid fun aD cD W hY => iPack_any 2 (n : Int) (pfN f n) (by have := pfN_le f n; omega) (pfB f n) (pfB_by f n) aD cD W hY
  generalize pkM 2 (n : Int) (pfN f n) = M at PF ⊢
  generalize hdC 2 (n : Int) (pfN f n) = C at PF ⊢
  generalize pfW f n = FW at PF ⊢
  generalize pfB f n = D at PW PF
  generalize pfN f n = N at PW PF
  clear hf h hn
  go_enter Try.func83, Try.ntmps83
  have INV := fun N hN W => methP N hN (.slice a n cap) W
  have A1 := tp_pt (.slice a n cap)
  have A2 := tp_pic (.slice a n cap)
  go_wp2_with (rw [INV _ (by decide)])
  refine PW.out.mono ?_
  rintro e w1 ⟨v, rfl, ho, b⟩
  have B1 := Lib.hid b
  obtain ⟨aD, cD, rfl, hyD⟩ := own_yr ho
  have PC := Lib.hid (PF.out aD cD w1 hyD)
  clear ho b hyD PW PF A1 A2 INV
  go_wp2_with fail
  refine PC.out.mono ?_
  rintro e w2 ⟨v, rfl, hp, b⟩
  have R : Hid (PR 16 w.heap.size w2.heap.size w2 v M (FF FW) ∧ Below w.heap.size w w2) := Lib.hid ⟨pr_lowP B1.out.size hp, B1.out.trans (b.mono B1.out.size)⟩
  clear hp b PC
  go_wp2
  exact bodyPost_ret (v := .tuple #[v, .int .i64 C]) (by simp [results, Try.results83, go_sem]) rfl ⟨v, rfl, R.out⟩
theorem iValidP_any (a : Option Addr) (n cap : Nat) (f : Nat → Int) (w : World) (hn : n ≤ 1048576) (h : BlR w.heap.size w a n f) (hf : BlF n f) :
    Calls Try.prog 82 #[.slice a n cap] w fun e w' => e = .returned (.bool (validP f n)) ∧ Below w.heap.size w w' := by
  have IP := Lib.hid (isPic_any a n cap f w.heap.size w (Nat.le_refl _) hn h hf)
  generalize validP f n = r at IP ⊢
  clear h hf hn
  go_enter Try.func82, Try.ntmps82
  go_wp2_with fail
  refine IP.out.mono ?_
  rintro e w1 ⟨rfl, b⟩
  have B1 := Lib.hid b
  clear b
  go_wp2
  exact bodyPost_ret (v := .bool r) (by simp [results, Try.results82, go_sem]) rfl ⟨rfl, B1.out⟩
set_option maxRecDepth 20000 in
set_option maxHeartbeats 8000000 in
theorem iPicFile_any (a : Option Addr) (n cap : Nat) (f : Nat → Int) (w : World) (hn : n ≤ 1048576) (h : BlR w.heap.size w a n f) (hf : BlF n f) :
    Calls Try.prog 44 #[.slice a n cap] w (PfPost f n w) := by
  have VP := Lib.hid (iValidP_any a n cap f w hn h hf)
  cases hv : validP f n with
  | false =>
    have BAD := Lib.hid (fun a c w' hb => PfPost.bad (f := f) (n := n) (w := w) (w' := w') (a := a) (c := c) hv hb)
    rw [hv] at VP
    clear hv h hf hn
    go_enter Try.func44, Try.ntmps44
    go_wp2_with fail
    refine VP.out.mono ?_
    rintro e w1 ⟨rfl, b⟩
    have B1 := Lib.hid b
    clear b VP
    go_wp2
    exact bodyPost_ret (v := .tuple #[.slice none 0 0, .int .i64 1]) (by simp [results, Try.results44, go_sem]) rfl (BAD.out _ _ _ B1.out)
  | true =>
    have h64 := validP_le hv
    have FO : Hid (∀ W, Below w.heap.size w W → Calls Try.prog 83 #[.iface 101 (.slice a n cap)] W fun e w' => ∃ v, e = .returned (.tuple #[v, .int .i64 (hdC 2 (n : Int) (pfN f n))]) ∧ PR 16 W.heap.size w'.heap.size w' v (pkM 2 (n : Int) (pfN f n)) (FF (pfW f n)) ∧ Below W.heap.size W w') := Lib.hid fun W hW => fileOfP_any a n cap f W h64 (h.below hW hW.size) hf
    have E1 : pfC f n = hdC 2 (n : Int) (pfN f n) := if_pos hv
    have E2 : pfM f n = pkM 2 (n : Int) (pfN f n) := if_pos hv
    unfold PfPost
    rw [E1, E2]
    rw [hv] at VP
    clear hv h hf hn h64 E1 E2
    generalize pkM 2 (n : Int) (pfN f n) = M at FO ⊢
    generalize hdC 2 (n : Int) (pfN f n) = C at FO ⊢
    generalize pfW f n = FW at FO ⊢
    go_enter Try.func44, Try.ntmps44
    go_wp2_with fail
    refine VP.out.mono ?_
    rintro e w1 ⟨rfl, b⟩
    have B1 := Lib.hid b
    clear b VP
    go_wp2_with fail
    refine (FO.out _ B1.out).mono ?_
    rintro e w2 ⟨v, rfl, hp, b⟩
    have R : Hid (PR 16 w.heap.size w2.heap.size w2 v M (FF FW) ∧ Below w.heap.size w w2) := Lib.hid ⟨pr_lowP B1.out.size hp, B1.out.trans (b.mono B1.out.size)⟩
    clear hp b FO
    go_wp2
    exact bodyPost_ret (v := .tuple #[v, .int .i64 C]) (by simp [results, Try.results44, go_sem]) rfl ⟨v, rfl, R.out⟩
end Go.Proofs.Ythfmkejdpflpcaa
