/-
  CONTRACTS: a key that is read, on both sides.
-/
import Derived.Test.YtkijgadkgfapgaaYc
import Derived.Test.YtkijgadkgfapgaaYd
import Derived.Test.YtkijgadkgfapgaaHex
import Derived.Lib.Bytealg
import Derived.Laws.Externs
namespace Go.Proofs.Ytkijgadkgfapgaa
open Go.ChangeShapes Go.WideShapes Go.ChangeAt Go.RowKit
/-- the number of a digit; -1 if it is none -/
def dv (c : UInt8) : Int := if 48 ≤ c.toNat ∧ c.toNat ≤ 57 then (c.toNat : Int) - 48 else if 97 ≤ c.toNat ∧ c.toNat ≤ 102 then (c.toNat : Int) - 97 + 10 else -1
theorem dv_le (c : UInt8) : -1 ≤ dv c ∧ dv c ≤ 15 := by
  unfold dv
  split
  · omega
  · split <;> omega
theorem idx_hex0 : ∀ c : Fin 256, Lib.indexByte [48, 49, 50, 51, 52, 53, 54, 55, 56, 57, 97, 98, 99, 100, 101, 102] (UInt8.ofNat c.val) = dv (UInt8.ofNat c.val) := by decide +kernel
theorem idx_hex (c : UInt8) : Lib.indexByte [48, 49, 50, 51, 52, 53, 54, 55, 56, 57, 97, 98, 99, 100, 101, 102] c = dv c := by
  have := idx_hex0 ⟨c.toNat, c.toNat_lt⟩
  simpa using this
set_option maxRecDepth 100000 in
set_option maxHeartbeats 1000000 in
theorem liteY_any (s : ByteArray) (c : Int) (w : World) :
    Calls Try.prog 87 #[.string s, .int .u8 c] w fun e w' => e = .returned (.int .i64 (Lib.indexByte s.data.toList c.toNat.toUInt8)) ∧ w = w' := by
  go_enter Try.func87, Try.ntmps87
  go_wp2
  rw [run_callFunc_extern Try.func119 (by kernel_rfl) (by kernel_rfl) (by kernel_rfl) (e := Extern.BytealgIndexByte.indexByte) (by kernel_rfl), Lib.run_indexByteString]
  simp only [Result.andThen]
  rw [Oper.upon_value]
  go_wp2
  go_ret
  exact ⟨rfl, rfl⟩
theorem index_hex (c : UInt8) (w : World) :
    Calls Try.prog 57 #[.string { data := #[48, 49, 50, 51, 52, 53, 54, 55, 56, 57, 97, 98, 99, 100, 101, 102] }, .int .u8 ((c.toNat : Nat) : Int)] w fun e w' => e = .returned (.int .i64 (dv c)) ∧ w = w' := by
  have h : Hid (∀ w, Calls Try.prog 87 #[.string { data := #[48, 49, 50, 51, 52, 53, 54, 55, 56, 57, 97, 98, 99, 100, 101, 102] }, .int .u8 ((c.toNat : Nat) : Int)] w fun e w' => e = .returned (.int .i64 (dv c)) ∧ w = w') := Lib.hid fun w => by
    have := liteY_any { data := #[48, 49, 50, 51, 52, 53, 54, 55, 56, 57, 97, 98, 99, 100, 101, 102] } ((c.toNat : Nat) : Int) w
    rw [Int.toNat_natCast] at this
    have e : c.toNat.toUInt8 = c := by simp
    rw [e] at this
    rw [← idx_hex c]; exact this
  go_enter Try.func57, Try.ntmps57
  go_wp2_with (go_at_call 87; refine (h.out _).mono ?_; rintro e w' ⟨rfl, rfl⟩)
  go_ret
  exact ⟨rfl, rfl⟩
theorem idx_strY (t : ByteArray) (k : Nat) (hk : k < t.size) (w : World) :
    (Instr.index 9 (.string t) (.int .i64 (k : Int))).run Try.prog w = .ok (.int .u8 (((t.data[k]?.getD 0).toNat : Nat) : Int)) w := by
  rw [run_index_string w 9 t .i64 _ Try.underlying9, dif_pos ⟨by omega, by omega⟩]
  have hk' : k < t.data.size := hk
  have e : t.data[k]?.getD 0 = t[k] := by rw [Array.getElem?_eq_getElem hk']; rfl
  rw [e]
  simp
/-- the byte number j of a text -/
def chY (t : ByteArray) (j : Nat) : UInt8 := t.data[j]?.getD 0
/-- one digit more is taken into a byte of a key -/
def rkS (x d : Int) : Int := bits .or .u8 (x * 16 % 256) d
/-- a key behind k digits -/
def rk (c : Nat → UInt8) : Nat → Nat → Int
  | 0 => zI
  | k + 1 => updI (rk c k) (k / 2) (rkS (rk c k (k / 2)) (dv (c k)))
def okH (c : Nat → UInt8) (k : Nat) : Bool := (List.range k).all fun j => decide (0 ≤ dv (c j))
def okKey (t : ByteArray) : Bool := decide (t.size = 32) && okH (chY t) 32
def rkF (t : ByteArray) : Nat → Int := if okKey t then rk (chY t) 32 else zI
def rkC (t : ByteArray) : Int := if okKey t then 0 else 5
theorem rk_size {t : ByteArray} (h : t.size ≠ 32) : rkF t = zI ∧ rkC t = 5 := by
  have : okKey t = false := by unfold okKey; rw [decide_eq_false h]; rfl
  unfold rkF rkC
  rw [this]
  exact ⟨if_neg (by decide), if_neg (by decide)⟩
theorem rk_bad {t : ByteArray} {k : Nat} (hk : k < 32) (h : dv (chY t k) < 0) : rkF t = zI ∧ rkC t = 5 := by
  have : okKey t = false := by
    unfold okKey okH
    rw [Bool.and_eq_false_iff]
    right
    rw [List.all_eq_false]
    exact ⟨k, by simpa using hk, by simpa using h⟩
  unfold rkF rkC
  rw [this]
  exact ⟨if_neg (by decide), if_neg (by decide)⟩
theorem rk_good {t : ByteArray} (hs : t.size = 32) (h : ∀ j, j < 32 → 0 ≤ dv (chY t j)) : rkF t = rk (chY t) 32 ∧ rkC t = 0 := by
  have : okKey t = true := by
    unfold okKey okH
    rw [decide_eq_true hs, Bool.true_and, List.all_eq_true]
    intro j hj
    exact decide_eq_true (h j (by simpa using hj))
  unfold rkF rkC
  rw [this]
  exact ⟨if_pos rfl, if_pos rfl⟩
theorem rkS_in (x d : Int) : 0 ≤ rkS x d ∧ rkS x d ≤ 255 := by
  have := bits_within .or .u8 (x * 16 % 256) d
  exact this
theorem rk_in (c : Nat → UInt8) : ∀ k j, 0 ≤ rk c k j ∧ rk c k j ≤ 255
  | 0, j => by simp [rk, zI]
  | k + 1, j => by
    show 0 ≤ updI (rk c k) (k / 2) (rkS (rk c k (k / 2)) (dv (c k))) j ∧ updI (rk c k) (k / 2) (rkS (rk c k (k / 2)) (dv (c k))) j ≤ 255
    unfold updI
    split
    · exact rkS_in _ _
    · exact rk_in c k j
theorem zR_is16 : #[Value.int .u8 0, Value.int .u8 0, Value.int .u8 0, Value.int .u8 0, Value.int .u8 0, Value.int .u8 0, Value.int .u8 0, Value.int .u8 0, Value.int .u8 0, Value.int .u8 0, Value.int .u8 0, Value.int .u8 0, Value.int .u8 0, Value.int .u8 0, Value.int .u8 0, Value.int .u8 0] = Q16 zI := rfl
set_option maxRecDepth 20000 in
set_option maxHeartbeats 4000000 in
theorem iRead_any (t : ByteArray) (ht : t.size ≤ 1048576) (w : World) :
    Calls Try.prog 20 #[.string t] w fun e w' => e = .returned (.tuple #[.agg (Q16 (rkF t)), .int .i64 (rkC t)]) ∧ Below w.heap.size w w' := by
  obtain ⟨w1, hw1⟩ : ∃ w1, (w.alloc (.cells #[Value.int .u8 0, Value.int .u8 0, Value.int .u8 0, Value.int .u8 0, Value.int .u8 0, Value.int .u8 0, Value.int .u8 0, Value.int .u8 0, Value.int .u8 0, Value.int .u8 0, Value.int .u8 0, Value.int .u8 0, Value.int .u8 0, Value.int .u8 0, Value.int .u8 0, Value.int .u8 0] 25)).alloc (.cells #[Value.int .u8 0, Value.int .u8 0, Value.int .u8 0, Value.int .u8 0, Value.int .u8 0, Value.int .u8 0, Value.int .u8 0, Value.int .u8 0, Value.int .u8 0, Value.int .u8 0, Value.int .u8 0, Value.int .u8 0, Value.int .u8 0, Value.int .u8 0, Value.int .u8 0, Value.int .u8 0] 25) = w1 := ⟨_, rfl⟩
  have B0 : Hid (Below w.heap.size w w1) := Lib.hid (by rw [← hw1]; exact ((Below.refl _ w).alloc (Nat.le_refl _) _).alloc (by simp) _)
  have H0 : Hid (w1.heap[w.heap.size]? = some (.cells #[Value.int .u8 0, Value.int .u8 0, Value.int .u8 0, Value.int .u8 0, Value.int .u8 0, Value.int .u8 0, Value.int .u8 0, Value.int .u8 0, Value.int .u8 0, Value.int .u8 0, Value.int .u8 0, Value.int .u8 0, Value.int .u8 0, Value.int .u8 0, Value.int .u8 0, Value.int .u8 0] 25 (0, 0))) := Lib.hid (by rw [← hw1]; exact (Below.heap_alloc _ _ _ (by simp)).trans (World.alloc_heap_new w _))
  have H1' : Hid (w1.heap[w.heap.size + 1]? = some (.cells #[Value.int .u8 0, Value.int .u8 0, Value.int .u8 0, Value.int .u8 0, Value.int .u8 0, Value.int .u8 0, Value.int .u8 0, Value.int .u8 0, Value.int .u8 0, Value.int .u8 0, Value.int .u8 0, Value.int .u8 0, Value.int .u8 0, Value.int .u8 0, Value.int .u8 0, Value.int .u8 0] 25 (0, 0))) := Lib.hid (by
    rw [← hw1]
    have := World.alloc_heap_new (w.alloc (.cells #[Value.int .u8 0, Value.int .u8 0, Value.int .u8 0, Value.int .u8 0, Value.int .u8 0, Value.int .u8 0, Value.int .u8 0, Value.int .u8 0, Value.int .u8 0, Value.int .u8 0, Value.int .u8 0, Value.int .u8 0, Value.int .u8 0, Value.int .u8 0, Value.int .u8 0, Value.int .u8 0] 25)) (.cells #[Value.int .u8 0, Value.int .u8 0, Value.int .u8 0, Value.int .u8 0, Value.int .u8 0, Value.int .u8 0, Value.int .u8 0, Value.int .u8 0, Value.int .u8 0, Value.int .u8 0, Value.int .u8 0, Value.int .u8 0, Value.int .u8 0, Value.int .u8 0, Value.int .u8 0, Value.int .u8 0] 25)
    rw [World.size_alloc] at this
    exact this)
  have H1 : Hid (w1.heap[w.heap.size + 1]? = some (.cells (Q16 (rk (chY t) 0)) 25 (0, 0))) := Lib.hid (by rw [show rk (chY t) 0 = zI from rfl, ← zR_is16]; exact H1'.out)
  have ZO : Hid ((#[Value.int .u8 0, Value.int .u8 0, Value.int .u8 0, Value.int .u8 0, Value.int .u8 0, Value.int .u8 0, Value.int .u8 0, Value.int .u8 0, Value.int .u8 0, Value.int .u8 0, Value.int .u8 0, Value.int .u8 0, Value.int .u8 0, Value.int .u8 0, Value.int .u8 0, Value.int .u8 0] : Array Value).all (·.oneCell') = true) := Lib.hid (by rw [zR_is16]; exact arr_cells _ _ _)
  clear H1'
  by_cases h32 : t.size = 32
  · have IX : Hid (∀ k : Nat, k < 32 → ∀ w, (Instr.index 9 (.string t) (.int .i64 (k : Int))).run Try.prog w = .ok (.int .u8 (((chY t k).toNat : Nat) : Int)) w) := Lib.hid fun k hk w => idx_strY t k (by omega) w
    have RB : Hid (∀ k, k < 32 → dv (chY t k) < 0 → Q16 (rkF t) = #[Value.int .u8 0, Value.int .u8 0, Value.int .u8 0, Value.int .u8 0, Value.int .u8 0, Value.int .u8 0, Value.int .u8 0, Value.int .u8 0, Value.int .u8 0, Value.int .u8 0, Value.int .u8 0, Value.int .u8 0, Value.int .u8 0, Value.int .u8 0, Value.int .u8 0, Value.int .u8 0] ∧ rkC t = 5) := Lib.hid fun k hk hd => ⟨by rw [(rk_bad hk hd).1]; exact zR_is16.symm, (rk_bad hk hd).2⟩
    have RG : Hid ((∀ j, j < 32 → 0 ≤ dv (chY t j)) → rkF t = rk (chY t) 32 ∧ rkC t = 0) := Lib.hid (rk_good h32)
    have h32' : (t.size : Int) = 32 := by omega
    have RS : Hid (∀ k, rk (chY t) (k + 1) = updI (rk (chY t) k) (k / 2) (rkS (rk (chY t) k (k / 2)) (dv (chY t k)))) := Lib.hid fun _ => rfl
    have RI := Lib.hid (rk_in (chY t))
    have IH := Lib.hid index_hex
    have DL := Lib.hid dv_le
    generalize rkF t = F at RB RG ⊢
    generalize rkC t = C at RB RG ⊢
    generalize rk (chY t) = R at H1 RG RS RI
    generalize chY t = c at IX RB RG RS
    clear h32 ht
    go_enter Try.func20, Try.ntmps20
    go_wp2
    clear hw1
    go_loopw [5, 6, 13] (fun _ _ i wr => ∃ k : Nat, k ≤ 32 ∧ i = .int .i64 (k : Int) ∧ (∀ j, j < k → 0 ≤ dv (c j)) ∧ wr.heap[w.heap.size + 1]? = some (.cells (Q16 (R k)) 25 (0, 0)) ∧ wr.heap[w.heap.size]? = some (.cells #[Value.int .u8 0, Value.int .u8 0, Value.int .u8 0, Value.int .u8 0, Value.int .u8 0, Value.int .u8 0, Value.int .u8 0, Value.int .u8 0, Value.int .u8 0, Value.int .u8 0, Value.int .u8 0, Value.int .u8 0, Value.int .u8 0, Value.int .u8 0, Value.int .u8 0, Value.int .u8 0] 25 (0, 0)) ∧ Below w.heap.size w wr) (fun _ _ i _ => 32 - (intOf i).toNat)
    case atStart => exact ⟨0, by omega, rfl, fun j hj => by omega, H1.out, H0.out, B0.out⟩
    case round =>
      obtain ⟨k, hk, rfl, hd, h1, h0, hb⟩ := hrel
      have K1 := Lib.hid h1
      have K0 := Lib.hid h0
      have KB := Lib.hid hb
      have KD := Lib.hid hd
      clear h1 h0 hb hd H1 H0 B0
      by_cases hlt : k < 32
      · have tk : (k : Int) < 32 := by omega
        have HK := Lib.hid hlt
        have ix := IX.out k hlt
        have IC := Lib.hid (IH.out (c k))
        obtain ⟨d0, d1⟩ := DL.out (c k)
        by_cases hneg : dv (c k) < 0
        · obtain ⟨r1, r2⟩ := RB.out k hlt hneg
          have R1 := Lib.hid r1
          have R2 := Lib.hid r2
          clear r1 r2 hlt hk
          generalize dv (c k) = d at IC hneg d0 d1
          go_wp2_with (first | (go_at_call 57; refine (IC.out _).mono ?_; rintro e w' ⟨rfl, rfl⟩) | (refine wpList_store_row rfl 25 _ _ rfl w.heap.size _ rfl rfl 25 _ K0.out (ky_info _ rfl) rfl ZO.out ?_))
          refine bodyPost_ret (v := .tuple #[.agg #[Value.int .u8 0, Value.int .u8 0, Value.int .u8 0, Value.int .u8 0, Value.int .u8 0, Value.int .u8 0, Value.int .u8 0, Value.int .u8 0, Value.int .u8 0, Value.int .u8 0, Value.int .u8 0, Value.int .u8 0, Value.int .u8 0, Value.int .u8 0, Value.int .u8 0, Value.int .u8 0], .int .i64 5]) ?_ rfl ⟨by rw [R1.out, R2.out], ?_⟩
          · exact results_cell_tmp_rowF Try.results20 _ _ w.heap.size _ _ _ _ rfl (setRow_heap _ _ _ _ _ _ K0.out) Try.underlying25 rfl (ky_info _ rfl)
          · exact below_setRow KB.out (by omega) _
        · have hpos : 0 ≤ dv (c k) := by omega
          have KD2 : Hid (∀ j, j < k + 1 → 0 ≤ dv (c j)) := Lib.hid fun j hj => by
            rcases Nat.lt_or_ge j k with h | h
            · exact KD.out j h
            · obtain rfl : j = k := by omega
              exact hpos
          have SK := Lib.hid (RS.out k)
          obtain ⟨m, hm⟩ : ∃ m, k / 2 = m := ⟨_, rfl⟩
          have hm2 : (k : Int) / 2 = (m : Int) := by omega
          have m16 : m < 16 := by omega
          have tm : (m : Int) < 16 := by omega
          have c0 : wr.cell? ⟨w.heap.size + 1, m, none⟩ = some (.int .u8 (R k m)) := (Lib.cell_of_heap K1.out m).trans (arr_get _ _ _ _ m16)
          have f0 : wr.frozen? ⟨w.heap.size + 1, m, none⟩ = false := Lib.frozen_of_heap K1.out m
          have HM := Lib.hid m16
          obtain ⟨x0, x1⟩ := RI.out k m
          rw [hm] at SK
          obtain ⟨x, hx⟩ : ∃ x, R k m = x := ⟨_, rfl⟩
          rw [hx] at c0 x0 x1 SK
          unfold rkS at SK
          clear hneg hlt hk hm hx m16
          generalize dv (c k) = d at IC hpos d0 d1 SK
          clear d0
          go_wp2_with (go_at_call 57; refine (IC.out _).mono ?_; rintro e w' ⟨rfl, rfl⟩)
          go_roundw
          case rel => exact ⟨k + 1, HK.out, by go_num, KD2.out, by rw [fset_at K1.out, arr_set _ _ _ _ _ HM.out, SK.out], by rw [fset_far (by omega)]; exact K0.out, KB.out.setCell (p := ⟨w.heap.size + 1, _, none⟩) (by simp) _⟩
          case measure => have := HK.out; simp [intOf]; omega
      · obtain rfl : k = 32 := by omega
        obtain ⟨r1, r2⟩ := RG.out KD.out
        have R1 := Lib.hid r1
        have R2 := Lib.hid r2
        clear r1 r2 hlt hk
        generalize R 32 = m at K1 R1
        go_wp2_with (first | (refine wpList_load_row rfl 25 _ rfl (w.heap.size + 1) rfl 25 _ _ _ K1.out Try.underlying25 rfl (ky_info _ (arr_size _ _ _)) ?_) | (refine wpList_store_row rfl 25 _ _ rfl w.heap.size (Q16 m) rfl rfl 25 _ K0.out (ky_info _ rfl) rfl (arr_cells _ _ _) ?_))
        refine bodyPost_ret (v := .tuple #[.agg (Q16 m), .int .i64 0]) ?_ rfl ⟨by rw [R1.out, R2.out], ?_⟩
        · exact results_cell_tmp_rowF Try.results20 _ _ w.heap.size _ _ _ _ rfl (setRow_heap _ _ _ _ _ _ K0.out) Try.underlying25 rfl (ky_info _ (arr_size _ _ _))
        · exact below_setRow KB.out (by omega) _
  · obtain ⟨r1, r2⟩ := rk_size h32
    have R1 : Hid (Q16 (rkF t) = #[Value.int .u8 0, Value.int .u8 0, Value.int .u8 0, Value.int .u8 0, Value.int .u8 0, Value.int .u8 0, Value.int .u8 0, Value.int .u8 0, Value.int .u8 0, Value.int .u8 0, Value.int .u8 0, Value.int .u8 0, Value.int .u8 0, Value.int .u8 0, Value.int .u8 0, Value.int .u8 0]) := Lib.hid (by rw [r1]; exact zR_is16.symm)
    have R2 := Lib.hid r2
    have e1 : decide ((t.size : Int) = 32) = false := by simp; omega
    have e2 : (!((t.size : Int) == 32)) = true := by simp; omega
    have e3 : ((t.size : Int) == 32) = false := by simp; omega
    clear r1 r2 h32 ht H1
    go_enter Try.func20, Try.ntmps20
    go_wp2_with (refine wpList_store_row rfl 25 _ _ rfl w.heap.size _ rfl rfl 25 _ H0.out (ky_info _ rfl) rfl ZO.out ?_)
    refine bodyPost_ret (v := .tuple #[.agg #[Value.int .u8 0, Value.int .u8 0, Value.int .u8 0, Value.int .u8 0, Value.int .u8 0, Value.int .u8 0, Value.int .u8 0, Value.int .u8 0, Value.int .u8 0, Value.int .u8 0, Value.int .u8 0, Value.int .u8 0, Value.int .u8 0, Value.int .u8 0, Value.int .u8 0, Value.int .u8 0], .int .i64 5]) ?_ rfl ⟨by rw [R1.out, R2.out], ?_⟩
    · exact results_cell_tmp_rowF Try.results20 _ _ w.heap.size _ _ _ _ rfl (setRow_heap _ _ _ _ _ _ H0.out) Try.underlying25 rfl (ky_info _ rfl)
    · exact below_setRow B0.out (by omega) _
end Go.Proofs.Ytkijgadkgfapgaa
