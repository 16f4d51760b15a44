/-
  CONTRACTS: WordFile by the program.
-/
import Derived.Test.YtkijgadkgfapgaaZi
namespace Go.Proofs.Ytkijgadkgfapgaa
open Go.ChangeShapes Go.WideShapes Go.ChangeAt Go.RowKit
open Wd
set_option maxRecDepth 20000 in
set_option maxHeartbeats 8000000 in
theorem packedW_any (n : Nat) (hn : n ≤ 256) (f : Nat → List UInt8) (hf : ∀ i, i < n → wordB (f i) = true) (a : Option Addr) (cap : Nat) (w : World) (h : StR w.heap.size w a n f) :
    Calls Try.prog 170 #[.slice a n cap] w fun e w' => ∃ v, e = .returned (.tuple #[.int .i64 (n : Int), v]) ∧ OwnU w.heap.size v (16 * n) (wfD f) w' ∧ Below w.heap.size w w' := by
  have nI : (n : Int) ≤ 256 := by omega
  have HN := Lib.hid hn
  have HROW := Lib.hid h
  have SC : Hid (∀ k, k < n → ∀ W, Calls Try.prog 171 #[.string (txt (f k))] W fun e w' => e = .returned (.tuple #[.agg (Q16 (codeF (f k))), .int .i64 0]) ∧ Below W.heap.size W w') := Lib.hid fun k hk W => (icode_any (f k) (by have := hf k hk; unfold wordB at this; simp only [Bool.and_eq_true, decide_eq_true_eq] at this; omega) W).mono fun e w' h => CwPost.ok (hf k hk) h
  have DE : Hid (∀ k j, j < 16 → wfD f (16 * k + j) = codeF (f k) j) := Lib.hid fun k j hj => by
    unfold wfD
    rw [show (16 * k + j) / 16 = k by omega, show (16 * k + j) % 16 = j by omega]
  have O0 : Hid (OwnU w.heap.size (.slice none 0 0) (16 * 0) (wfD f) w) := Lib.hid (OwnU.nil _ _ _)
  clear h hf hn
  go_enter Try.func170, Try.ntmps170
  go_wp2_with fail
  go_loopw [4, 11] (fun d vi wr => ∃ k : Nat, k ≤ n ∧ vi = .int .i64 (k : Int) ∧ Hid (OwnU w.heap.size d (16 * k) (wfD f) wr) ∧ Hid (Below w.heap.size w wr)) (fun _ vi _ => n - (intOf vi).toNat)
  case atStart => exact ⟨0, by omega, rfl, O0, Lib.hid (Below.refl _ _)⟩
  case round =>
    rename World => wq
    obtain ⟨k, hk, rfl, ho, hb⟩ := hrel
    have WZ : Hid (w.heap.size ≤ wq.heap.size) := Lib.hid hb.out.size
    by_cases hlt : k < n
    · have tk : (k : Int) < (n : Int) := by omega
      obtain ⟨g, off, rfl, hg, hc⟩ : ∃ g off, a = some ⟨g, off, none⟩ ∧ g < w.heap.size ∧ ∀ j, j < n → w.cell? ⟨g, off + j, none⟩ = some (.string (txt (f j))) := by
        rcases HROW.out with h | h
        · omega
        · exact h
      have cx : wq.cell? ⟨g, off + k, none⟩ = some (.string (txt (f k))) := (Below.cell (p := ⟨g, off + k, none⟩) hb.out hg).trans (hc k hlt)
      have HK := Lib.hid hlt
      have CW2 := Lib.hid (SC.out k hlt wq)
      have DEk := Lib.hid (DE.out k)
      have A16 : Hid ((Q16 (codeF (f k))).size = 16) := Lib.hid (arr_size _ _ _)
      have AO : Hid ((Q16 (codeF (f k))).all (·.oneCell') = true) := Lib.hid (arr_cells _ _ _)
      have ASZ : Hid ((Q16 (codeF (f k))).size = (#[Value.int .u8 0, Value.int .u8 0, Value.int .u8 0, Value.int .u8 0, Value.int .u8 0, Value.int .u8 0, Value.int .u8 0, Value.int .u8 0, Value.int .u8 0, Value.int .u8 0, Value.int .u8 0, Value.int .u8 0, Value.int .u8 0, Value.int .u8 0, Value.int .u8 0, Value.int .u8 0] : Array Value).size) := Lib.hid (A16.out.trans rfl)
      have AG : Hid (∀ j, j < 16 → (Q16 (codeF (f k)))[j]? = some (.int .u8 (wfD f (16 * k + j)))) := Lib.hid fun j hj => by rw [DEk.out j hj]; exact arr_get _ _ _ _ hj
      generalize Q16 (codeF (f k)) = A at CW2 A16 AO ASZ AG
      generalize txt (f k) = tx at CW2 cx
      clear hc hg hk hlt
      go_wp2_with fail
      refine CW2.out.mono ?_
      rintro e w2 ⟨rfl, b⟩
      have B2 := Lib.hid (hb.out.trans (b.mono hb.out.size))
      have O2 : Hid (OwnU w.heap.size u4 (16 * k) (wfD f) w2) := Lib.hid (ownsRow_belowB ho.out b)
      clear b CW2
      obtain ⟨w3, hw3⟩ : ∃ x, w2.alloc (.cells #[Value.int .u8 0, Value.int .u8 0, Value.int .u8 0, Value.int .u8 0, Value.int .u8 0, Value.int .u8 0, Value.int .u8 0, Value.int .u8 0, Value.int .u8 0, Value.int .u8 0, Value.int .u8 0, Value.int .u8 0, Value.int .u8 0, Value.int .u8 0, Value.int .u8 0, Value.int .u8 0] 117) = x := ⟨_, rfl⟩
      have T3 : Hid (w3.heap[w2.heap.size]? = some (.cells #[Value.int .u8 0, Value.int .u8 0, Value.int .u8 0, Value.int .u8 0, Value.int .u8 0, Value.int .u8 0, Value.int .u8 0, Value.int .u8 0, Value.int .u8 0, Value.int .u8 0, Value.int .u8 0, Value.int .u8 0, Value.int .u8 0, Value.int .u8 0, Value.int .u8 0, Value.int .u8 0] 117 (0, 0))) := Lib.hid (by rw [← hw3]; exact World.alloc_heap_new w2 _)
      have B23 : Hid (Below w2.heap.size w2 w3) := Lib.hid (by rw [← hw3]; exact (Below.refl _ _).alloc (Nat.le_refl _) _)
      obtain ⟨w4, hw4⟩ : ∃ x, w3.setRow w2.heap.size A = x := ⟨_, rfl⟩
      have B24 : Hid (Below w2.heap.size w2 w4) := Lib.hid (by rw [← hw4]; exact below_setRow B23.out (Nat.le_refl _) _)
      have R4 : Hid (w4.heap[w2.heap.size]? = some (.cells A 117 (0, 0))) := Lib.hid (by rw [← hw4]; exact setRow_heap _ _ _ _ _ _ T3.out)
      have O4 : Hid (OwnU w.heap.size u4 (16 * k) (wfD f) w4) := Lib.hid (ownsRow_belowB O2.out B24.out)
      have B4 := Lib.hid (B2.out.trans (B24.out.mono B2.out.size))
      have CN : Hid (∀ j0, j0 < 16 → w4.cell? ⟨w2.heap.size, 0 + j0, none⟩ = some (.int .u8 (wfD f (16 * k + j0)))) := Lib.hid fun j0 hj0 => by
        rw [Nat.zero_add]
        exact (Lib.cell_of_heap R4.out j0).trans (AG.out j0 hj0)
      have BN : Hid (16 * k + 16 ≤ 100000000) := Lib.hid (by have := HK.out; have := HN.out; omega)
      have NX : Hid (∀ x, x < 16 * k + 16 → catU (wfD f) (16 * k) (fun j => wfD f (16 * k + j)) x = wfD f x) := Lib.hid fun x hx => by
        by_cases hx2 : x < 16 * k
        · exact catU_lo hx2
        · unfold catU
          rw [if_neg hx2]
          show wfD f (16 * k + (x - 16 * k)) = wfD f x
          rw [show 16 * k + (x - 16 * k) = x by omega]
      have BS : Hid (w.heap.size ≤ w4.heap.size) := Lib.hid B4.out.size
      go_wp2_with (first | (refine wpList_store_row rfl 117 _ _ rfl w2.heap.size A rfl rfl 117 _ T3.out (wc_info _ A16.out) ASZ.out.symm AO.out ?_; rw [hw4]) | (at_builtin; refine wpList_append_u rfl _ _ rfl w.heap.size _ (16 * k) (wfD f) rfl O4.out w2.heap.size 0 16 16 (fun j => wfD f (16 * k + j)) rfl CN.out BN.out BS.out w B4.out ?_; intro v9 w9 h1 h2; have H1 := Lib.hid h1; have H2 := Lib.hid h2; clear h1 h2))
      go_roundw
      case rel => exact ⟨k + 1, HK.out, by go_num, Lib.hid (OwnU.congr H1.out NX.out), H2⟩
      case measure => have := HK.out; simp [intOf]; omega
    · obtain rfl : k = n := by omega
      have R : Hid (OwnU w.heap.size u4 (16 * k) (wfD f) wq ∧ Below w.heap.size w wq) := Lib.hid ⟨ho.out, hb.out⟩
      clear hlt hk ho hb
      go_wp2
      exact bodyPost_ret (v := .tuple #[.int .i64 (k : Int), u4]) (by simp [results, Try.results170, go_sem]) rfl ⟨u4, rfl, R.out⟩
theorem pr_low {s lo lo' hi : Nat} {w : World} {v : Value} {n : Nat} {f : Nat → Value} (hl : lo' ≤ lo) (h : PR s lo hi w v n f) : PR s lo' hi w v n f := by
  obtain ⟨a, cap, rfl, h0 | ⟨g, rfl, h1, h2⟩⟩ := h
  · exact ⟨a, cap, rfl, .inl h0⟩
  · exact ⟨_, cap, rfl, .inr ⟨g, rfl, Nat.le_trans hl h1, h2⟩⟩
theorem ta_pt (v : Value) (w : World) : (Instr.typeAssert (.iface 122 v) 166 167 true).run Try.prog w = .ok (.tuple #[.slice none 0 0, .bool false]) w := by
  simp [Instr.typeAssert, run_underlying Try.underlying167, Try.zeroValue167, go_sem, Result.andThen]
theorem ta_pic (v : Value) (w : World) : (Instr.typeAssert (.iface 122 v) 166 169 true).run Try.prog w = .ok (.tuple #[.slice none 0 0, .bool false]) w := by
  simp [Instr.typeAssert, run_underlying Try.underlying169, Try.zeroValue169, go_sem, Result.andThen]
theorem ta_wd (v : Value) (w : World) : (Instr.typeAssert (.iface 122 v) 166 122 true).run Try.prog w = .ok (.tuple #[v, .bool true]) w := by
  simp [Instr.typeAssert, run_underlying Try.underlying122, go_sem, Result.andThen]
theorem methW (N : Nat) (hN : 0 < N) (x : Value) (w : World) : (method N 122 x "loop.example/g01171/impl.packed").run Try.prog w = .ok (170, x) w := by
  cases N with
  | zero => omega
  | succ N => kernel_rfl
set_option maxRecDepth 20000 in
set_option maxHeartbeats 8000000 in
theorem fileOfW_any (n : Nat) (hn : n ≤ 256) (f : Nat → List UInt8) (hf : ∀ i, i < n → wordB (f i) = true) (a : Option Addr) (cap : Nat) (w : World) (h : StR w.heap.size w a n f) :
    Calls Try.prog 79 #[.iface 122 (.slice a n cap)] w fun e w' => ∃ v, e = .returned (.tuple #[v, .int .i64 0]) ∧ PR 16 w.heap.size w'.heap.size w' v (pkM 3 n (16 * n)) (FF (wfW f n)) ∧ Below w.heap.size w w' := by
  have PW := Lib.hid (packedW_any n hn f hf a cap w h)
  have PF : Hid (∀ aD cD W, YrR W.heap.size W aD (16 * n) (wfD f) → Calls Try.prog 66 #[.int .i64 3, .int .i64 (n : Int), .slice aD (16 * n) cD] W fun e w' => ∃ v, e = .returned (.tuple #[v, .int .i64 0]) ∧ PR 16 W.heap.size w'.heap.size w' v (pkM 3 n (16 * n)) (FF (wfW f n)) ∧ Below W.heap.size W w') := Lib.hid fun aD cD W hY => (iPack_any 3 (n : Int) (16 * n) (by omega) (wfD f) (fun j _ => codeF_ok _ _) aD cD W hY).mono fun e w' ⟨v, he, hp, hb⟩ => ⟨v, by rw [he, hdC_words hn], hp, hb⟩
  generalize pkM 3 n (16 * n) = M at PF ⊢
  generalize wfW f n = FW at PF ⊢
  generalize wfD f = D at PW PF
  generalize 16 * n = N at PW PF
  clear hf h hn
  go_enter Try.func79, Try.ntmps79
  have INV := fun N hN W => methW N hN (.slice a n cap) W
  have A1 := ta_pt (.slice a n cap)
  have A2 := ta_pic (.slice a n cap)
  have A3 := ta_wd (.slice a n cap)
  go_wp2_with (rw [INV _ (by decide)])
  refine PW.out.mono ?_
  rintro e w1 ⟨v, rfl, ho, b⟩
  have B1 := Lib.hid b
  obtain ⟨aD, cD, rfl, hcD, hcM, haD, hyD, hpD⟩ := ho.gen
  have PC := Lib.hid (PF.out aD cD w1 hyD)
  clear ho b hcD hcM haD hyD hpD PW PF A1 A2 A3 INV
  go_wp2_with fail
  refine PC.out.mono ?_
  rintro e w2 ⟨v, rfl, hp, b⟩
  have R : Hid (PR 16 w.heap.size w2.heap.size w2 v M (FF FW) ∧ Below w.heap.size w w2) := Lib.hid ⟨pr_low B1.out.size hp, B1.out.trans (b.mono B1.out.size)⟩
  clear hp b PC
  go_wp2
  exact bodyPost_ret (v := .tuple #[v, .int .i64 0]) (by simp [results, Try.results79, go_sem]) rfl ⟨v, rfl, R.out⟩
set_option maxRecDepth 20000 in
set_option maxHeartbeats 8000000 in
theorem iWordF_any (n : Nat) (hn : n ≤ 1048576) (f : Nat → List UInt8) (hf : ∀ i, i < n → (f i).length ≤ 1048576) (a : Option Addr) (cap : Nat) (w : World) (h : StR w.heap.size w a n f) :
    Calls Try.prog 42 #[.slice a n cap] w (WfPost f n w) := by
  have nI : (n : Int) ≤ 1048576 := by omega
  have HROW := Lib.hid h
  have VW : Hid (∀ k, k < n → ∀ W, Calls Try.prog 78 #[.string (txt (f k))] W fun e w' => e = .returned (.bool (wordB (f k))) ∧ Below W.heap.size W w') := Lib.hid fun k hk W => ivalid_any (f k) (by have := hf k hk; omega) W
  have G1 : Hid ((∀ k, k < n → wordB (f k) = true) → n ≤ 256 → wfC f n = 0) := Lib.hid fun hv h2 => by unfold wfC; rw [wfV_all hv, if_pos rfl, if_neg (by omega)]
  have G3 : Hid ((∀ k, k < n → wordB (f k) = true) → 256 < n → wfC f n = 3) := Lib.hid fun hv h2 => by unfold wfC; rw [wfV_all hv, if_pos rfl, if_pos h2]
  have GB : Hid (∀ k, k < n → wordB (f k) = false → wfC f n = 1) := Lib.hid fun k hk hb => by unfold wfC; rw [wfV_bad hk hb]; exact if_neg (by decide)
  have FO : Hid (n ≤ 256 → (∀ k, k < n → wordB (f k) = true) → ∀ W, StR W.heap.size W a n f → Calls Try.prog 79 #[.iface 122 (.slice a n cap)] W fun e w' => ∃ v, e = .returned (.tuple #[v, .int .i64 0]) ∧ PR 16 W.heap.size w'.heap.size w' v (pkM 3 n (16 * n)) (FF (wfW f n)) ∧ Below W.heap.size W w') := Lib.hid fun h2 hv W hW => fileOfW_any n h2 f hv a cap W hW
  have GO : Hid (∀ v w', wfC f n = 0 → PR 16 w.heap.size w'.heap.size w' v (pkM 3 n (16 * n)) (FF (wfW f n)) → Below w.heap.size w w' → WfPost f n w (.returned (.tuple #[v, .int .i64 0])) w') := Lib.hid fun v w' hc hp hb => ⟨v, by rw [hc], by unfold wfN; rw [if_pos hc]; exact hp, hb⟩
  have SW : Hid (∀ W, Below w.heap.size w W → StR W.heap.size W a n f) := Lib.hid fun W hW => by
    rcases h with h | ⟨g, off, ha, hg, hc⟩
    · exact .inl h
    · exact .inr ⟨g, off, ha, Nat.lt_of_lt_of_le hg hW.size, fun j hj => (hW.cell (p := ⟨g, off + j, none⟩) hg).trans (hc j hj)⟩
  generalize pkM 3 n (16 * n) = M at FO GO
  generalize wfW f n = FW at FO GO
  clear h hf hn
  go_enter Try.func42, Try.ntmps42
  go_wp2_with fail
  go_loopw [8] (fun vi wr => ∃ k : Nat, k ≤ n ∧ vi = .int .i64 (k : Int) ∧ Hid (Below w.heap.size w wr) ∧ Hid (∀ i, i < k → wordB (f i) = true)) (fun vi _ => n - (intOf vi).toNat)
  case atStart => exact ⟨0, by omega, rfl, Lib.hid (Below.refl _ _), Lib.hid fun i h => absurd h (by omega)⟩
  case round =>
    rename World => wq
    obtain ⟨k, hk, rfl, hb, hs⟩ := hrel
    by_cases hlt : k < n
    · have tk : (k : Int) < (n : Int) := by omega
      obtain ⟨g, off, rfl, hg, hc⟩ : ∃ g off, a = some ⟨g, off, none⟩ ∧ g < w.heap.size ∧ ∀ j, j < n → w.cell? ⟨g, off + j, none⟩ = some (.string (txt (f j))) := by
        rcases HROW.out with h | h
        · omega
        · exact h
      have cx : wq.cell? ⟨g, off + k, none⟩ = some (.string (txt (f k))) := (Below.cell (p := ⟨g, off + k, none⟩) hb.out hg).trans (hc k hlt)
      have HK := Lib.hid hlt
      have VK := Lib.hid (VW.out k hlt wq)
      have GBk := Lib.hid (GB.out k hlt)
      generalize txt (f k) = tx at VK cx
      clear hc hg hk hlt
      cases hok : wordB (f k) with
      | false =>
        have Q := Lib.hid (GBk.out hok)
        rw [hok] at VK
        clear hok
        go_wp2_with fail
        refine VK.out.mono ?_
        rintro e w2 ⟨rfl, b⟩
        have B2 := Lib.hid (hb.out.trans (b.mono hb.out.size))
        clear b VK
        go_wp2
        exact bodyPost_ret (v := .tuple #[.slice none 0 0, .int .i64 1]) (by simp [results, Try.results42, go_sem]) rfl (WfPost.bad Q.out (by decide) B2.out)
      | true =>
        have HOK := Lib.hid hok
        rw [hok] at VK
        clear hok
        go_wp2_with fail
        refine VK.out.mono ?_
        rintro e w2 ⟨rfl, b⟩
        have B2 := Lib.hid (hb.out.trans (b.mono hb.out.size))
        have S6 : Hid (∀ i2, i2 < k + 1 → wordB (f i2) = true) := Lib.hid fun i2 h2 => by
          rcases Nat.lt_or_ge i2 k with h | h
          · exact hs.out i2 h
          · obtain rfl : i2 = k := by omega
            exact HOK.out
        clear b VK
        go_wp2
        go_roundw
        case rel => exact ⟨k + 1, HK.out, by go_num, B2, S6⟩
        case measure => have := HK.out; simp [intOf]; omega
    · obtain rfl : k = n := by omega
      by_cases hbig : 256 < k
      · have tb : (256 : Int) < (k : Int) := by omega
        have Q := Lib.hid (G3.out (fun i h => hs.out i h) hbig)
        clear hlt hk hbig
        go_wp2
        exact bodyPost_ret (v := .tuple #[.slice none 0 0, .int .i64 3]) (by simp [results, Try.results42, go_sem]) rfl (WfPost.bad Q.out (by decide) hb.out)
      · have tb : (k : Int) ≤ 256 := by omega
        have Q := Lib.hid (G1.out (fun i h => hs.out i h) (by omega))
        have FC := Lib.hid (FO.out (by omega) (fun i h => hs.out i h) wq (SW.out wq hb.out))
        clear hlt hk hbig FO SW
        go_wp2_with fail
        refine FC.out.mono ?_
        rintro e w3 ⟨v, rfl, hp, b⟩
        have B3 := Lib.hid (hb.out.trans (b.mono hb.out.size))
        have R := Lib.hid (GO.out v w3 Q.out (pr_low hb.out.size hp) B3.out)
        clear hp b
        go_wp2
        exact bodyPost_ret (v := .tuple #[v, .int .i64 0]) (by simp [results, Try.results42, go_sem]) rfl R.out
theorem sWordFU_any (n : Nat) (hn : n ≤ 1048576) (f : Nat → List UInt8) (hf : ∀ i, i < n → (f i).length ≤ 1048576) (a : Option Addr) (cap : Nat) (w : World) (h : StR w.heap.size w a n f) :
    Calls Try.prog 40 #[.slice a n cap] w fun e w' => ∃ v, e = .returned (.tuple #[v, .int .i64 (wfC f n)]) ∧ PR 16 w.heap.size w'.heap.size w' v (wfN f n) (FF (wfW f n)) ∧ Below w.heap.size w w' := sWordF_any n hn f hf a cap w h
theorem iWordFU_any (n : Nat) (hn : n ≤ 1048576) (f : Nat → List UInt8) (hf : ∀ i, i < n → (f i).length ≤ 1048576) (a : Option Addr) (cap : Nat) (w : World) (h : StR w.heap.size w a n f) :
    Calls Try.prog 42 #[.slice a n cap] w fun e w' => ∃ v, e = .returned (.tuple #[v, .int .i64 (wfC f n)]) ∧ PR 16 w.heap.size w'.heap.size w' v (wfN f n) (FF (wfW f n)) ∧ Below w.heap.size w w' := iWordF_any n hn f hf a cap w h
end Go.Proofs.Ytkijgadkgfapgaa
