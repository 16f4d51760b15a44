/-
  SEVERAL TEXTS IN ONE: XWd,XWdc,XOwn,XWdo,XWdr,XWde,XWds,XWdi,XWdp,XZm,XWma,XIw,XIrw,XWls,XIls,XCo,XCow,XCos,XIbw,XShS,XItx,XWoc,XSrc,XBase,XFd,XWos
-/
import Derived.WalkKit
import Derived.Test.YtkijgadkgfapgaaGab
import Derived.LoopTactic
import Derived.Lib.Hide
import Derived.OwnWalk
import Derived.Below
import Derived.Deep.QuietTactic
import Derived.BigQuiet
import Derived.StillTailTactics
import Derived.Deep.OwnRows
import Derived.Deep.Slices
import Derived.Lib.Bytealg
import Derived.Laws.Externs
import Derived.RangeFuncRecord
import Derived.Laws.Rows
import Derived.Lib.Builder
import Derived.Laws.CopyOwn
import Derived.Laws.ResultCell
import Derived.Laws.Entries
import Derived.Shelf.Strings.Builder1
import Derived.Shelf.Small.Strs
import Derived.Shelf.Strings.Search1
import Derived.Test.YtkijgadkgfapgaaProg
import Derived.RangeFuncBox
import Derived.Deep.RegionHeld3
import Derived.Deep.DeepFit
import Derived.Test.YtkijgadkgfapgaaChecked
import Derived.ProofKit
import Derived.OpenShut
import Derived.WalkLawsBesides
import Derived.Laws.FloatArith
import Derived.Outline
import Derived.Deep.Upon
import Derived.Lib.AppendZerosOnto
/-
  PLAIN MATHEMATICS OF WORDS: letters, their numbers, inverses; reduced words.
-/
namespace Go.Proofs.Ytkijgadkgfapgaa.Wd
/-- the number of a letter in the order a A b B c C d D; -1 for every other byte -/
def lnum (c : UInt8) : Int := if c = 97 then 0 else if c = 65 then 1 else if c = 98 then 2 else if c = 66 then 3 else if c = 99 then 4 else if c = 67 then 5 else if c = 100 then 6 else if c = 68 then 7 else -1
/-- the inverse of a letter -/
def oth (c : UInt8) : UInt8 := if c = 97 then 65 else if c = 65 then 97 else if c = 98 then 66 else if c = 66 then 98 else if c = 99 then 67 else if c = 67 then 99 else if c = 100 then 68 else if c = 68 then 100 else c
def isL (c : UInt8) : Bool := decide (0 ≤ lnum c)
theorem lcases {c : UInt8} (h : isL c = true) : c = 97 ∨ c = 65 ∨ c = 98 ∨ c = 66 ∨ c = 99 ∨ c = 67 ∨ c = 100 ∨ c = 68 := by
  unfold isL lnum at h
  by_cases h0 : c = 97; · simp [h0]
  by_cases h1 : c = 65; · simp [h1]
  by_cases h2 : c = 98; · simp [h2]
  by_cases h3 : c = 66; · simp [h3]
  by_cases h4 : c = 99; · simp [h4]
  by_cases h5 : c = 67; · simp [h5]
  by_cases h6 : c = 100; · simp [h6]
  by_cases h7 : c = 68; · simp [h7]
  simp [h0, h1, h2, h3, h4, h5, h6, h7] at h
theorem nocase {c : UInt8} (h : isL c = false) : c ≠ 97 ∧ c ≠ 65 ∧ c ≠ 98 ∧ c ≠ 66 ∧ c ≠ 99 ∧ c ≠ 67 ∧ c ≠ 100 ∧ c ≠ 68 := by
  refine ⟨?_, ?_, ?_, ?_, ?_, ?_, ?_, ?_⟩ <;> (rintro rfl; revert h; decide)
theorem lnum_no {c : UInt8} (h : isL c = false) : lnum c = -1 := by
  obtain ⟨h0, h1, h2, h3, h4, h5, h6, h7⟩ := nocase h
  simp [lnum, h0, h1, h2, h3, h4, h5, h6, h7]
theorem lnum_yes {c : UInt8} (h : isL c = true) : 0 ≤ lnum c ∧ lnum c ≤ 7 := by
  rcases lcases h with rfl | rfl | rfl | rfl | rfl | rfl | rfl | rfl <;> decide
theorem oth_isL {c : UInt8} (h : isL c = true) : isL (oth c) = true := by
  rcases lcases h with rfl | rfl | rfl | rfl | rfl | rfl | rfl | rfl <;> decide
theorem oth_oth {c : UInt8} (h : isL c = true) : oth (oth c) = c := by
  rcases lcases h with rfl | rfl | rfl | rfl | rfl | rfl | rfl | rfl <;> decide
/-- only letters -/
def lets (l : List UInt8) : Bool := l.all isL
/-- a word -/
def wordB (l : List UInt8) : Bool := lets l && decide (l.length ≤ 40)
theorem wordB_lets {l : List UInt8} (h : wordB l = true) : ∀ c ∈ l, isL c = true := by
  unfold wordB lets at h
  rw [Bool.and_eq_true, List.all_eq_true] at h
  exact h.1
theorem wordB_len {l : List UInt8} (h : wordB l = true) : l.length ≤ 40 := by
  unfold wordB at h
  simp at h
  exact h.2
/-- the inverse of a word -/
def inv (l : List UInt8) : List UInt8 := l.reverse.map oth
theorem inv_length (l : List UInt8) : (inv l).length = l.length := by simp [inv]
/-- a letter more: left out with its inverse, or laid on -/
def redS (out : List UInt8) (c : UInt8) : List UInt8 := if out.getLast? = some (oth c) then out.dropLast else out ++ [c]
/-- the reduced word -/
def red (l : List UInt8) : List UInt8 := l.foldl redS []
theorem red_snoc (l : List UInt8) (c : UInt8) : red (l ++ [c]) = redS (red l) c := by simp [red, List.foldl_append]
theorem redS_length (out : List UInt8) (c : UInt8) : (redS out c).length ≤ out.length + 1 := by
  unfold redS; split
  · simp; omega
  · simp
theorem red_length (l : List UInt8) : (red l).length ≤ l.length := by
  suffices h : ∀ (l out : List UInt8), (l.foldl redS out).length ≤ out.length + l.length by
    have := h l []
    simpa [red] using this
  intro l
  induction l with
  | nil => intro out; simp
  | cons c r ih =>
    intro out
    have h1 := ih (redS out c)
    have h2 := redS_length out c
    simp only [List.foldl_cons, List.length_cons]
    omega
theorem take_snoc (l : List UInt8) (k : Nat) (h : k < l.length) : l.take (k + 1) = l.take k ++ [l[k]] := by
  rw [List.take_succ_eq_append_getElem h]
theorem red_take (l : List UInt8) (k : Nat) (h : k < l.length) : red (l.take (k + 1)) = redS (red (l.take k)) l[k] := by
  rw [take_snoc l k h, red_snoc]
end Go.Proofs.Ytkijgadkgfapgaa.Wd
/-
  CONTRACTS: the specification's letters.
-/
namespace Go.Proofs.Ytkijgadkgfapgaa
open Go.ChangeShapes Go.WideShapes Go.ChangeAt Go.RowKit
open Wd
theorem u8ne {c d : UInt8} (h : c ≠ d) : (((d.toNat : Nat) : Int) == ((c.toNat : Nat) : Int)) = false := by
  have : d.toNat ≠ c.toNat := fun e => h (UInt8.toNat_inj.1 e.symm)
  simp; omega
theorem letter_no (c : UInt8) (h : isL c = false) (w : World) :
    Calls Try.prog 115 #[.int .u8 ((c.toNat : Nat) : Int)] w fun e w' => e = .returned (.int .i64 (-1)) ∧ w = w' := by
  obtain ⟨h0, h1, h2, h3, h4, h5, h6, h7⟩ := nocase h
  have t0 : ((97 : Int) == ((c.toNat : Nat) : Int)) = false := u8ne h0
  have t1 : ((65 : Int) == ((c.toNat : Nat) : Int)) = false := u8ne h1
  have t2 : ((98 : Int) == ((c.toNat : Nat) : Int)) = false := u8ne h2
  have t3 : ((66 : Int) == ((c.toNat : Nat) : Int)) = false := u8ne h3
  have t4 : ((99 : Int) == ((c.toNat : Nat) : Int)) = false := u8ne h4
  have t5 : ((67 : Int) == ((c.toNat : Nat) : Int)) = false := u8ne h5
  have t6 : ((100 : Int) == ((c.toNat : Nat) : Int)) = false := u8ne h6
  have t7 : ((68 : Int) == ((c.toNat : Nat) : Int)) = false := u8ne h7
  clear h h0 h1 h2 h3 h4 h5 h6 h7
  generalize ((c.toNat : Nat) : Int) = x at t0 t1 t2 t3 t4 t5 t6 t7 ⊢
  have e0 : (({ data := #[97, 65, 98, 66, 99, 67, 100, 68] } : ByteArray)[0]'(by decide)).toNat = 97 := rfl
  have e1 : (({ data := #[97, 65, 98, 66, 99, 67, 100, 68] } : ByteArray)[1]'(by decide)).toNat = 65 := rfl
  have e2 : (({ data := #[97, 65, 98, 66, 99, 67, 100, 68] } : ByteArray)[2]'(by decide)).toNat = 98 := rfl
  have e3 : (({ data := #[97, 65, 98, 66, 99, 67, 100, 68] } : ByteArray)[3]'(by decide)).toNat = 66 := rfl
  have e4 : (({ data := #[97, 65, 98, 66, 99, 67, 100, 68] } : ByteArray)[4]'(by decide)).toNat = 99 := rfl
  have e5 : (({ data := #[97, 65, 98, 66, 99, 67, 100, 68] } : ByteArray)[5]'(by decide)).toNat = 67 := rfl
  have e6 : (({ data := #[97, 65, 98, 66, 99, 67, 100, 68] } : ByteArray)[6]'(by decide)).toNat = 100 := rfl
  have e7 : (({ data := #[97, 65, 98, 66, 99, 67, 100, 68] } : ByteArray)[7]'(by decide)).toNat = 68 := rfl
  go_enter Try.func115, Try.ntmps115
  go_wp2
  refine wp_loop_rounds 9 ?_
  iterate 9 (rw [rounds_succ]; go_wp2)
  go_ret
  exact ⟨rfl, rfl⟩
theorem letter_at (b : Int) (n : Nat) (hb : (b = 97 ∧ n = 0) ∨ (b = 65 ∧ n = 1) ∨ (b = 98 ∧ n = 2) ∨ (b = 66 ∧ n = 3) ∨ (b = 99 ∧ n = 4) ∨ (b = 67 ∧ n = 5) ∨ (b = 100 ∧ n = 6) ∨ (b = 68 ∧ n = 7)) (w : World) :
    Calls Try.prog 115 #[.int .u8 b] w fun e w' => e = .returned (.int .i64 (n : Nat)) ∧ w = w' := by
  rcases hb with ⟨rfl, rfl⟩ | ⟨rfl, rfl⟩ | ⟨rfl, rfl⟩ | ⟨rfl, rfl⟩ | ⟨rfl, rfl⟩ | ⟨rfl, rfl⟩ | ⟨rfl, rfl⟩ | ⟨rfl, rfl⟩
  all_goals
    have e0 : (({ data := #[97, 65, 98, 66, 99, 67, 100, 68] } : ByteArray)[0]'(by decide)).toNat = 97 := rfl
    have e1 : (({ data := #[97, 65, 98, 66, 99, 67, 100, 68] } : ByteArray)[1]'(by decide)).toNat = 65 := rfl
    have e2 : (({ data := #[97, 65, 98, 66, 99, 67, 100, 68] } : ByteArray)[2]'(by decide)).toNat = 98 := rfl
    have e3 : (({ data := #[97, 65, 98, 66, 99, 67, 100, 68] } : ByteArray)[3]'(by decide)).toNat = 66 := rfl
    have e4 : (({ data := #[97, 65, 98, 66, 99, 67, 100, 68] } : ByteArray)[4]'(by decide)).toNat = 99 := rfl
    have e5 : (({ data := #[97, 65, 98, 66, 99, 67, 100, 68] } : ByteArray)[5]'(by decide)).toNat = 67 := rfl
    have e6 : (({ data := #[97, 65, 98, 66, 99, 67, 100, 68] } : ByteArray)[6]'(by decide)).toNat = 100 := rfl
    have e7 : (({ data := #[97, 65, 98, 66, 99, 67, 100, 68] } : ByteArray)[7]'(by decide)).toNat = 68 := rfl
    go_enter Try.func115, Try.ntmps115
    go_wp2
    refine wp_loop_rounds 9 ?_
    repeat (rw [rounds_succ]; go_wp2)
    go_ret
    exact ⟨rfl, rfl⟩
theorem letter_any (c : UInt8) (w : World) :
    Calls Try.prog 115 #[.int .u8 ((c.toNat : Nat) : Int)] w fun e w' => e = .returned (.int .i64 (lnum c)) ∧ w = w' := by
  cases h : isL c
  · rw [lnum_no h]; exact letter_no c h w
  · rcases lcases h with rfl | rfl | rfl | rfl | rfl | rfl | rfl | rfl
    · exact letter_at 97 0 (by simp) w
    · exact letter_at 65 1 (by simp) w
    · exact letter_at 98 2 (by simp) w
    · exact letter_at 66 3 (by simp) w
    · exact letter_at 99 4 (by simp) w
    · exact letter_at 67 5 (by simp) w
    · exact letter_at 100 6 (by simp) w
    · exact letter_at 68 7 (by simp) w
end Go.Proofs.Ytkijgadkgfapgaa
/-
  SLICES OF BYTES THAT THE CALL ITSELF BUILDS BY append, one byte after the other, and what string(..) makes of them.
-/
namespace Go.Proofs.Ytkijgadkgfapgaa
open Go.ChangeShapes Go.WideShapes Go.ChangeAt Go.RowKit
/-- the cells of bytes -/
def bytesC (l : List UInt8) : List Value := l.map fun c => .int .u8 (c.toNat : Int)
theorem bytesC_len (l : List UInt8) : (bytesC l).length = l.length := by simp [bytesC]
theorem bytesC_snoc (l : List UInt8) (c : UInt8) : bytesC l ++ [.int .u8 (c.toNat : Int)] = bytesC (l ++ [c]) := by simp [bytesC]
/-- v is a slice of the call's own (its blocks begin at base) that holds the bytes l -/
def OwnB (base : Nat) (v : Value) (l : List UInt8) (w : World) : Prop := w.ownsRow base 5 1 v l.length (bytesC l)
theorem info_u8 : (Try.prog.info? 5).map (fun i => (i.zero, i.size, i.bytes)) = some (some (.int .u8 0), 1, 1) := by kernel_rfl
theorem OwnB.alloc {base : Nat} {v : Value} {l : List UInt8} {w : World} (h : OwnB base v l w) (o : Obj) : OwnB base v l (w.alloc o) := World.ownsRow.alloc h o
theorem OwnB.drew {base : Nat} {v : Value} {l : List UInt8} {w : World} (h : OwnB base v l w) : OwnB base v l w.drew := h
/-- 'out = append(out, c)' -/
theorem wpList_append_byte {ops : Array Oper} {rest : List Oper} {o : Oper} {a : Act} {W : World} {Q : Exit → Act → World → Prop} (hgd : o.guard = none) (s x : Operand)
    (ho : o.op = .call { callee := .builtin .append, args := #[s, x], argTypes := #[45, 45] })
    (base : Nat) (v : Value) (l : List UInt8) (c : UInt8) (hs : a.eval s = v) (hown : OwnB base v l W) (g : Nat) (hx : a.eval x = .slice (some ⟨g, 0, none⟩) 1 1)
    (hc : W.cell? ⟨g, 0, none⟩ = some (.int .u8 (c.toNat : Int))) (hl : l.length ≤ 100000000) (hbase : base ≤ W.heap.size)
    (w0 : World) (hb : Below base w0 W)
    (h : ∀ v' w', OwnB base v' (l ++ [c]) w' → Below base w0 w' → wpList Try.prog ops Q rest (a.put o.dst v') w') : wpList Try.prog ops Q (o :: rest) a W := by
  obtain ⟨i0, hi, hz0, hz1, hz2⟩ := info_parts info_u8
  refine wpList_append_own W hgd s x 45 ho base 5 i0 (.int .u8 0) 1 1 Try.underlying45 hi hz0 hz1 hz2 rfl (by decide) v l.length (bytesC l) hs hown ⟨g, 0, none⟩ 1 1 [.int .u8 (c.toNat : Int)] hx rfl ?_ ?_ (by unfold maxLen; omega) (by omega) hbase ?_
  · intro j u hj
    match j, hj with
    | 0, hj => simp at hj; subst hj; exact hc
    | j + 1, hj => simp at hj
  · intro u hu; simp at hu; subst hu; rfl
  · intro v' w' h1 h2 _
    refine h v' w' ?_ ?_
    · unfold OwnB
      rw [List.length_append, ← bytesC_snoc]
      exact h1
    · exact hb.grown h2 hbase (fun k hk => (World.ownsRow.lt hown k hk).1)
/-- 'string(out)' -/
theorem own_string {base : Nat} {v : Value} {l : List UInt8} {W : World} (h : OwnB base v l W) : (convert 45 9 v).run Try.prog W = .ok (.string ⟨l.toArray⟩) W := by
  obtain ⟨h1, h2⟩ := h
  rcases h2 with ⟨rfl, h0⟩ | ⟨g, cap, cur, rfl, hb, hg, hn, hm, hs, ht⟩
  · have : l = [] := List.eq_nil_of_length_eq_zero h0
    subst this
    rw [run_convert_bytes_string W 45 9 5 none 0 0 Try.underlying45 Try.underlying5 Try.underlying9]
    rfl
  · refine run_convert_bytes_back W 45 9 5 ⟨g, 0, none⟩ cap l Try.underlying45 Try.underlying5 Try.underlying9 ?_
    intro j hj
    have e : (bytesC l)[j]? = some (.int .u8 (l[j].toNat : Int)) := by simp [bytesC, hj]
    have := World.ownsRow.cells (w := W) (base := base) (e := 5) (size := 1) (v := .slice (some ⟨g, 0, none⟩) l.length cap) (n := l.length) (xs := bytesC l) ⟨h1, .inr ⟨g, cap, cur, rfl, hb, hg, hn, hm, hs, ht⟩⟩ (g := g) rfl j _ e
    exact this
end Go.Proofs.Ytkijgadkgfapgaa
/-
  CONTRACTS: the specification's words: which texts are words, inverses, reduced words.
-/
namespace Go.Proofs.Ytkijgadkgfapgaa
open Go.ChangeShapes Go.WideShapes Go.ChangeAt Go.RowKit
open Wd
/-- a text of a list of bytes -/
def txt (l : List UInt8) : ByteArray := ⟨l.toArray⟩
theorem txt_list (t : ByteArray) : txt t.data.toList = t := by simp [txt]
theorem txt_size (l : List UInt8) : (txt l).size = l.length := by simp [txt, ByteArray.size]
theorem idx_txt (l : List UInt8) (k : Nat) (hk : k < l.length) (w : World) :
    (Instr.index 9 (.string (txt l)) (.int .i64 (k : Int))).run Try.prog w = .ok (.int .u8 (((l[k]'hk).toNat : Nat) : Int)) w := by
  rw [run_index_string w 9 (txt l) .i64 _ Try.underlying9, dif_pos ⟨by omega, by rw [txt_size]; omega⟩]
  simp [txt]
  rfl
theorem ok_any (l : List UInt8) (hm : l.length ≤ 4000000) (w : World) :
    Calls Try.prog 114 #[.string (txt l)] w fun e w' => e = .returned (.bool (wordB l)) ∧ w = w' := by
  have hs := txt_size l
  have hm' : (l.length : Int) ≤ 4000000 := by omega
  go_enter Try.func114, Try.ntmps114
  go_wp2
  go_loop [3] (fun i => ∃ k : Nat, k ≤ l.length ∧ i = .int .i64 k ∧ lets (l.take k) = true) (fun i => l.length - (intOf i).toNat)
  case atStart => exact ⟨0, Nat.zero_le _, rfl, rfl⟩
  case round =>
    obtain ⟨k, hk, rfl, hl⟩ := hrel
    have HL := Lib.hid hl
    clear hl
    by_cases hlt : k < l.length
    · have hi := idx_txt l k hlt
      have t1 : decide (k < l.length) = true := by simpa using hlt
      cases hc : isL l[k]
      · have hn := lnum_no hc
        have R : Hid (wordB l = false) := Lib.hid (by
          unfold wordB lets
          rw [Bool.and_eq_false_iff]
          left
          rw [← Bool.not_eq_true, List.all_eq_true]
          intro h
          have := h l[k] (List.getElem_mem hlt)
          rw [hc] at this; cases this)
        clear hc
        go_wp2_with (go_at_call 115; refine (letter_any _ _).mono ?_; rintro e w' ⟨rfl, rfl⟩)
        go_ret
        exact ⟨ret_bool (by rw [R.out]), rfl⟩
      · obtain ⟨h0, h7⟩ := lnum_yes hc
        have t2 : decide (lnum l[k] < 0) = false := by simp; omega
        have R : Hid (lets (l.take (k + 1)) = true) := Lib.hid (by
          rw [take_snoc l k hlt]
          unfold lets at HL ⊢
          rw [List.all_append, HL.out]; simp [hc])
        clear hc
        go_wp2_with (go_at_call 115; refine (letter_any _ _).mono ?_; rintro e w' ⟨rfl, rfl⟩)
        go_round
        case rel => exact ⟨k + 1, by omega, by go_num, R.out⟩
        case measure => simp [intOf]; omega
    · obtain rfl : k = l.length := by omega
      have R : Hid (wordB l = decide (l.length ≤ 40)) := Lib.hid (by
        have h := HL.out
        rw [List.take_length] at h
        unfold wordB; rw [h]; rfl)
      go_wp2
      go_ret
      exact ⟨ret_bool (by rw [R.out]; simp <;> omega), rfl⟩
end Go.Proofs.Ytkijgadkgfapgaa
/-
  CONTRACTS: the specification's inverse and reduced word.
-/
namespace Go.Proofs.Ytkijgadkgfapgaa
open Go.ChangeShapes Go.WideShapes Go.ChangeAt Go.RowKit
open Wd
theorem inv_at (l : List UInt8) (j : Nat) (h : j < l.length) : (inv l).take (j + 1) = (inv l).take j ++ [oth (l[l.length - 1 - j]'(by omega))] := by
  rw [take_snoc (inv l) j (by rw [inv_length]; exact h)]
  congr 2
  simp [inv, List.getElem_reverse]
def StrPost (r : List UInt8) (w : World) (e : Ending) (w' : World) : Prop := e = .returned (.string (txt r)) ∧ Below w.heap.size w w'
theorem own_start (w : World) : OwnB w.heap.size (.slice (some ⟨w.heap.size, 0, none⟩) 0 0) [] (w.alloc (.cells #[] 5)) := World.ownsRow_made (size := 1) w #[] 0 (Nat.le_refl _) (by unfold maxLen; omega) rfl
end Go.Proofs.Ytkijgadkgfapgaa
/-
  CONTRACT: the specification's reduced word (a stack of bytes).
-/
namespace Go.Proofs.Ytkijgadkgfapgaa
open Go.ChangeShapes Go.WideShapes Go.ChangeAt Go.RowKit
open Wd
theorem bytesC_at (l : List UInt8) (j : Nat) (h : j < l.length) : (bytesC l)[j]? = some (.int .u8 (((l[j]'h).toNat : Nat) : Int)) := by simp [bytesC, h]
theorem addr_off (g off j : Nat) : (⟨g, off, none⟩ : Addr).add j = ⟨g, off + j, none⟩ := by cases j <;> simp [Addr.add]
/-- 'out = append(out, c)', and the slice is not nil -/
theorem wpList_append_b {ops : Array Oper} {rest : List Oper} {o : Oper} {a : Act} {W : World} {Q : Exit → Act → World → Prop} (hgd : o.guard = none) (s x : Operand)
    (ho : o.op = .call { callee := .builtin .append, args := #[s, x], argTypes := #[45, 45] })
    (base : Nat) (v : Value) (l : List UInt8) (c : UInt8) (hs : a.eval s = v) (hown : OwnB base v l W) (g : Nat) (hx : a.eval x = .slice (some ⟨g, 0, none⟩) 1 1)
    (hc : W.cell? ⟨g, 0, none⟩ = some (.int .u8 (c.toNat : Int))) (hl : l.length ≤ 100000000) (hbase : base ≤ W.heap.size)
    (w0 : World) (hb : Below base w0 W) (hn : v ≠ .slice none 0 0)
    (h : ∀ v' w', OwnB base v' (l ++ [c]) w' → Below base w0 w' → v' ≠ .slice none 0 0 → wpList Try.prog ops Q rest (a.put o.dst v') w') : wpList Try.prog ops Q (o :: rest) a W := by
  obtain ⟨i0, hi, hz0, hz1, hz2⟩ := info_parts info_u8
  refine wpList_append_own W hgd s x 45 ho base 5 i0 (.int .u8 0) 1 1 Try.underlying45 hi hz0 hz1 hz2 rfl (by decide) v l.length (bytesC l) hs hown ⟨g, 0, none⟩ 1 1 [.int .u8 (c.toNat : Int)] hx rfl ?_ ?_ (by unfold maxLen; omega) (by omega) hbase ?_
  · intro j u hj
    match j, hj with
    | 0, hj => simp at hj; subst hj; exact hc
    | j + 1, hj => simp at hj
  · intro u hu; simp at hu; subst hu; rfl
  · intro v' w' h1 h2 h3
    refine h v' w' ?_ ?_ (fun e => hn (h3.1 e).1)
    · unfold OwnB
      rw [List.length_append, ← bytesC_snoc]
      exact h1
    · exact hb.grown h2 hbase (fun k hk => (World.ownsRow.lt hown k hk).1)
/-- what a slice of bytes of the call's own looks like -/
theorem OwnB.form {base : Nat} {v : Value} {l : List UInt8} {w : World} (h : OwnB base v l w) (hn : v ≠ .slice none 0 0) :
    ∃ g cap, v = .slice (some ⟨g, 0, none⟩) l.length cap ∧ base ≤ g ∧ g < w.heap.size ∧ l.length ≤ cap ∧ cap ≤ maxLen ∧ ∀ j (hj : j < l.length), w.cell? ⟨g, j, none⟩ = some (.int .u8 (((l[j]'hj).toNat : Nat) : Int)) := by
  have h' := h
  obtain ⟨h1, h2⟩ := h
  rcases h2 with ⟨rfl, h0⟩ | ⟨g, cap, cur, rfl, hb, hg, hn2, hm, hs, ht⟩
  · exact absurd rfl hn
  · refine ⟨g, cap, rfl, hb, (Array.getElem?_eq_some_iff.1 hg).1, hn2, hm, fun j hj => ?_⟩
    have := World.ownsRow.cells h' (g := g) rfl j _ (bytesC_at l j hj)
    rw [addr_off, Nat.zero_add] at this
    exact this
/-- 'out = out[:len(out)-1]' -/
theorem OwnB.pop {base g n cap : Nat} {l : List UInt8} {w : World} (h : OwnB base (.slice (some ⟨g, 0, none⟩) (n + 1) cap) l w) (hl : l.length = n + 1) : OwnB base (.slice (some ⟨g, 0, none⟩) n cap) l.dropLast w := by
  obtain ⟨h1, h2⟩ := h
  have hd : l.dropLast.length = n := by rw [List.length_dropLast, hl]; rfl
  rcases h2 with ⟨h3, _⟩ | ⟨g', cap', cur, hv, hb, hg, hn2, hm, hs, ht⟩
  · cases h3
  · rw [hl] at hv
    cases hv
    refine ⟨by rw [bytesC_len, Nat.mul_one], .inr ⟨g, cap, cur, by rw [hd], hb, hg, by omega, hm, hs, ?_⟩⟩
    rw [hd, Nat.mul_one]
    have e : cur.toList.take n = (cur.toList.take (l.length * 1)).take n := by rw [List.take_take]; congr 1; omega
    rw [e, ht]
    simp only [bytesC, ← List.map_take]
    rw [List.dropLast_eq_take, hl]; rfl
theorem slice_toB (g k cap p : Nat) (hp : p ≤ k) (hk : k ≤ 4000000) (hc : k ≤ cap) (w : World) : (Instr.slice 45 (.slice (some ⟨g, 0, none⟩) k cap) none (some (.int .i64 (p : Int))) none).run Try.prog w = .ok (.slice (some ⟨g, 0, none⟩) p cap) w := by
  have hs : ∀ w, (sizeOf (Try.prog.elem 45)).run Try.prog w = .ok 1 w := fun w => by kernel_rfl
  rw [run_slice_h (P := Try.prog) (w := w) 45 (some ⟨g, 0, none⟩) k cap (by kernel_rfl) .i64 (p : Int) (by omega) (by omega), hs]
  simp [Result.andThen_ok, sliced, addr_off]
theorem redS_pop {out : List UInt8} {c : UInt8} (h : out.getLast? = some (oth c)) : redS out c = out.dropLast := if_pos h
theorem redS_push {out : List UInt8} {c : UInt8} (h : out.getLast? ≠ some (oth c)) : redS out c = out ++ [c] := if_neg h
structure RedTo (l : List UInt8) (k : Nat) (v : Value) (w0 w : World) : Prop where
  own : OwnB w0.heap.size v (red (l.take k)) w
  ne : v ≠ .slice none 0 0
  bel : Below w0.heap.size w0 w
theorem RedTo.len {l : List UInt8} {k : Nat} (hk : k ≤ l.length) : (red (l.take k)).length ≤ k := by
  have := red_length (l.take k)
  rw [List.length_take] at this
  omega
theorem RedTo.drewN {l : List UInt8} {k : Nat} {v : Value} {w0 w : World} (h : RedTo l k v w0 w) (n : Nat) : RedTo l k v w0 (w.drewN n) := ⟨h.own, h.ne, h.bel.trans ⟨rfl, rfl, rfl, Nat.le_refl _, fun _ _ => rfl⟩⟩
end Go.Proofs.Ytkijgadkgfapgaa
/-
  CONTRACTS: the specification's ValidWord, InverseWord, ReduceWord, l05Told, PowerWord.
-/
namespace Go.Proofs.Ytkijgadkgfapgaa
open Go.ChangeShapes Go.WideShapes Go.ChangeAt Go.RowKit
open Wd
/-- a text and a code -/
def TextPost (r : List UInt8) (c : Int) (w : World) (e : Ending) (w' : World) : Prop := e = .returned (.tuple #[.string (txt r), .int .i64 c]) ∧ Below w.heap.size w w'
end Go.Proofs.Ytkijgadkgfapgaa
/-
  CONTRACT: the specification's range check.
-/
namespace Go.Proofs.Ytkijgadkgfapgaa
open Go.ChangeShapes Go.WideShapes Go.ChangeAt Go.RowKit
theorem l00In_yes (n l r : Int) (h1 : l ≤ n) (h2 : n ≤ r) (w : World) :
    Calls Try.prog 58 #[.int .i64 n, .int .i64 l, .int .i64 r] w fun e w' => e = .returned (.bool true) ∧ w = w' := by
  have g1 : decide (l ≤ n) = true := by simpa using h1
  have g2 : decide (n ≤ r) = true := by simpa using h2
  go_enter Try.func58, Try.ntmps58
  go_wp2
  go_ret
  exact ⟨rfl, rfl⟩
theorem l00In_no (n l r : Int) (h : n < l ∨ r < n) (w : World) :
    Calls Try.prog 58 #[.int .i64 n, .int .i64 l, .int .i64 r] w fun e w' => e = .returned (.bool false) ∧ w = w' := by
  rcases h with h | h
  · have g1 : decide (l ≤ n) = false := by simp; omega
    go_enter Try.func58, Try.ntmps58
    go_wp2
    go_ret
    exact ⟨rfl, rfl⟩
  · by_cases hl : l ≤ n
    · have g1 : decide (l ≤ n) = true := by simpa using hl
      have g2 : decide (n ≤ r) = false := by simp; omega
      go_enter Try.func58, Try.ntmps58
      go_wp2
      go_ret
      exact ⟨rfl, rfl⟩
    · have g1 : decide (l ≤ n) = false := by simp; omega
      go_enter Try.func58, Try.ntmps58
      go_wp2
      go_ret
      exact ⟨rfl, rfl⟩

end Go.Proofs.Ytkijgadkgfapgaa
/-
  CONTRACT: the specification's PowerWord.
-/
namespace Go.Proofs.Ytkijgadkgfapgaa
open Go.ChangeShapes Go.WideShapes Go.ChangeAt Go.RowKit
open Wd
theorem inv_letters {l : List UInt8} (h : ∀ c ∈ l, isL c = true) : ∀ c ∈ inv l, isL c = true := by
  intro c hc
  simp only [inv, List.mem_map, List.mem_reverse] at hc
  obtain ⟨d, hd, rfl⟩ := hc
  exact oth_isL (h d hd)
theorem redS_letters {out : List UInt8} {c : UInt8} (h : ∀ d ∈ out, isL d = true) (hc : isL c = true) : ∀ d ∈ redS out c, isL d = true := by
  intro d hd
  unfold redS at hd
  split at hd
  · exact h d (List.dropLast_subset _ hd)
  · rcases List.mem_append.1 hd with h1 | h1
    · exact h d h1
    · rw [List.mem_singleton.1 h1]; exact hc
theorem red_letters {l : List UInt8} (h : ∀ c ∈ l, isL c = true) : ∀ c ∈ red l, isL c = true := by
  suffices H : ∀ (l out : List UInt8), (∀ c ∈ l, isL c = true) → (∀ c ∈ out, isL c = true) → ∀ c ∈ l.foldl redS out, isL c = true from H l [] h (by simp)
  intro l
  induction l with
  | nil => intro out _ ho; exact ho
  | cons a r ih =>
    intro out hl ho
    exact ih _ (fun c hc => hl c (List.mem_cons_of_mem _ hc)) (redS_letters ho (hl a List.mem_cons_self))
/-- a word, so many times behind itself, reduced after each -/
def powR (l : List UInt8) : Nat → List UInt8
  | 0 => []
  | n + 1 => red (powR l n ++ l)
theorem powR_letters {l : List UInt8} (h : ∀ c ∈ l, isL c = true) (n : Nat) : ∀ c ∈ powR l n, isL c = true := by
  induction n with
  | zero => simp [powR]
  | succ n ih =>
    refine red_letters fun c hc => ?_
    rcases List.mem_append.1 hc with h1 | h1
    · exact ih c h1
    · exact h c h1
theorem powR_length (l : List UInt8) (n : Nat) : (powR l n).length ≤ n * l.length := by
  induction n with
  | zero => simp [powR]
  | succ n ih =>
    have h1 := red_length (powR l n ++ l)
    rw [List.length_append] at h1
    rw [Nat.succ_mul]
    exact Nat.le_trans h1 (Nat.add_le_add_right ih _)
theorem txt_app (a b : List UInt8) : txt a ++ txt b = txt (a ++ b) := by
  simp only [txt]
  apply ByteArray.ext
  simp
theorem powloop_bound {l : List UInt8} (hl : l.length ≤ 40) {j m : Nat} (hj : j ≤ m) (hm : m ≤ 40) : (powR l j ++ l).length ≤ 4000000 := by
  have h1 := powR_length l j
  have h2 : j * l.length ≤ 40 * 40 := Nat.mul_le_mul (by omega) hl
  rw [List.length_append]
  omega
def powPost (l : List UInt8) (n : Int) (w : World) : Ending → World → Prop :=
  TextPost (if wordB l then (if -40 ≤ n ∧ n ≤ 40 then (if (powR (if n < 0 then inv l else l) n.natAbs).length ≤ 40 then powR (if n < 0 then inv l else l) n.natAbs else []) else []) else [])
    (if wordB l then (if -40 ≤ n ∧ n ≤ 40 then (if (powR (if n < 0 then inv l else l) n.natAbs).length ≤ 40 then 0 else 3) else 2) else 1) w
end Go.Proofs.Ytkijgadkgfapgaa
/-
  CONTRACTS: markText; marks of texts.
-/
namespace Go.Proofs.Ytkijgadkgfapgaa
open Go.ChangeShapes Go.WideShapes Go.ChangeAt Go.RowKit Go.Deep
open Wd
/-- the digits of a number -/
def digs (k : Nat) : List UInt8 := if h : k = 0 then [] else digs (k / 10) ++ [UInt8.ofNat (48 + k % 10)]
termination_by k
decreasing_by omega
theorem digs_zero : digs 0 = [] := by rw [digs, dif_pos rfl]
theorem digs_pos {k : Nat} (h : 0 < k) : digs k = digs (k / 10) ++ [UInt8.ofNat (48 + k % 10)] := by
  conv => lhs; rw [digs]
  rw [dif_neg (by omega)]
theorem digs_len (k : Nat) : (digs k).length ≤ k := by
  induction k using Nat.strongRecOn with
  | ind k ih =>
    by_cases h : k = 0
    · subst h; rw [digs_zero]; exact Nat.le_refl _
    · rw [digs_pos (by omega), List.length_append]
      have := ih (k / 10) (by omega)
      simp
      omega
def mt (k : Nat) : List UInt8 := 109 :: digs k
set_option maxRecDepth 20000 in
set_option maxHeartbeats 2000000 in
theorem mt_any (k : Nat) (h1 : 1 ≤ k) (hk : k ≤ 8000000) (w : World) :
    Calls Try.prog 80 #[.int .i64 (k : Int)] w fun e w' => e = .returned (.string (txt (mt k))) ∧ Below w.heap.size w w' := by
  have t0 : decide ((k : Int) ≤ 0) = false := by simp; omega
  have hk' : (k : Int) ≤ 8000000 := by omega
  have DL := Lib.hid (digs_len k)
  have K1 := Lib.hid hk
  clear hk
  go_enter Try.func80, Try.ntmps80
  go_wp2
  go_loopw [0, 3] (fun x o wr => ∃ (j : Nat) (out : List UInt8), x = .int .i64 (j : Int) ∧ o = .string (txt out) ∧ digs j ++ out = digs k ∧ j ≤ 8000000 ∧ Below w.heap.size w wr) (fun x _ _ => (intOf x).toNat)
  case atStart => exact ⟨k, [], rfl, rfl, by simp, K1.out, Below.refl _ _⟩
  case round =>
    obtain ⟨j, out, rfl, rfl, hd, hj, hB⟩ := hrel
    have HB := Lib.hid hB
    have HJ := Lib.hid hj
    have hl : out.length ≤ 8000000 := by
      have h1 := DL.out
      have h2 := K1.out
      rw [← hd, List.length_append] at h1
      omega
    have hs := txt_size out
    have hl' : (out.length : Int) ≤ 8000000 := by omega
    by_cases h0 : 0 < j
    · have t2 : decide ((0 : Int) < (j : Int)) = true := by simp; omega
      obtain ⟨m, hm⟩ : ∃ m, m = j % 10 := ⟨_, rfl⟩
      obtain ⟨d, hdv⟩ : ∃ d, d = j / 10 := ⟨_, rfl⟩
      have hm9 : m < 10 := by omega
      obtain ⟨c, hc⟩ : ∃ c, c = UInt8.ofNat (48 + m) := ⟨_, rfl⟩
      have hcn : (c.toNat : Int) = 48 + (m : Int) := by
        rw [hc, UInt8.toNat_ofNat']
        omega
      have q1 : Int.tmod (j : Int) 10 = (m : Int) := by rw [Int.tmod_eq_emod_of_nonneg (by omega)]; omega
      have q2 : Int.tdiv (j : Int) 10 = (d : Int) := by rw [Int.tdiv_eq_ediv_of_nonneg (by omega)]; omega
      have hd8 : (d : Int) ≤ 800000 := by omega
      have ND : Hid (digs d ++ ([c] ++ out) = digs k) := Lib.hid (by
        rw [← hd, digs_pos h0, ← hm, ← hdv, ← hc, List.append_assoc])
      have w8 : IntKind.u8.wrap (48 + (m : Int)) = 48 + (m : Int) := by rw [IntKind.wrap_u8]; omega
      have hcv : ∀ w : World, (convert 45 9 (.slice (some ⟨w.heap.size, 0, none⟩) 1 1)).run Try.prog (w.alloc (.cells #[.int .u8 (48 + (m : Int))] 5)) = .ok (.string (txt [c])) (w.alloc (.cells #[.int .u8 (48 + (m : Int))] 5)) := fun w => by
        rw [← hcn]
        exact own_string (l := [c]) (base := w.heap.size) (World.ownsRow_lit w #[.int .u8 (c.toNat : Int)] 1 (Nat.le_refl _) (by unfold maxLen; omega) rfl)
      have hs1 : (txt [c]).size = 1 := txt_size [c]
      have DJ : Hid (d < j) := Lib.hid (by omega)
      have D8 : Hid (d ≤ 8000000) := Lib.hid (by omega)
      have TA := Lib.hid (txt_app [c] out)
      have m9 : (m : Int) < 10 := by omega
      clear hc hm hdv hd hcn hm9
      go_wp2
      go_roundw
      case rel => exact ⟨d, [c] ++ out, rfl, by rw [TA.out], ND.out, D8.out, HB.out.alloc HB.out.size _⟩
      case measure => have := DJ.out; simp [intOf]; omega
    · obtain rfl : j = 0 := by omega
      rw [digs_zero, List.nil_append] at hd
      have HD := Lib.hid hd
      clear hd h0
      have TA := Lib.hid (txt_app [109] out)
      go_wp2
      go_ret
      exact ⟨by unfold mt; rw [← HD.out]; exact congrArg (fun t => Ending.returned (Value.string t)) TA.out, HB.out⟩
end Go.Proofs.Ytkijgadkgfapgaa
/-
  PLAIN MATHEMATICS OF REDUCED WORDS: reduced once more, joined, repeated; the length tells.
-/
namespace Go.Proofs.Ytkijgadkgfapgaa.Wd
/-- no letter stands beside its inverse -/
def NI (l : List UInt8) : Prop := ∀ (i : Nat) (c d : UInt8), l[i]? = some c → l[i + 1]? = some d → c ≠ oth d
theorem NI_nil : NI [] := by intro i c d h; simp at h
theorem NI_redS {out : List UInt8} {c : UInt8} (h : NI out) : NI (redS out c) := by
  unfold redS
  split
  · intro i a b ha hb
    rw [List.getElem?_dropLast] at ha hb
    split at hb
    · split at ha
      · exact h i a b ha hb
      · cases ha
    · cases hb
  · rename_i hne
    intro i a b ha hb
    by_cases h1 : i + 1 < out.length
    · rw [List.getElem?_append_left (by omega)] at ha
      rw [List.getElem?_append_left h1] at hb
      exact h i a b ha hb
    · rw [List.getElem?_append_right (by omega)] at hb
      have e : i + 1 - out.length = 0 := by
        by_cases h2 : i + 1 - out.length = 0
        · exact h2
        · rw [List.getElem?_eq_none (by simp; omega)] at hb; cases hb
      rw [e] at hb
      obtain rfl : c = b := by simpa using hb
      rw [List.getElem?_append_left (by omega)] at ha
      rintro rfl
      apply hne
      rw [List.getLast?_eq_getElem?, show out.length - 1 = i by omega]
      exact ha
theorem NI_foldl (l out : List UInt8) (h : NI out) : NI (l.foldl redS out) := by
  induction l generalizing out with
  | nil => exact h
  | cons c r ih => exact ih _ (NI_redS h)
theorem NI_red (l : List UInt8) : NI (red l) := NI_foldl l [] NI_nil
theorem red_of_NI {l : List UInt8} (h : NI l) : red l = l := by
  have H : ∀ k, k ≤ l.length → red (l.take k) = l.take k := by
    intro k
    induction k with
    | zero => intro _; simp [red]
    | succ k ih =>
      intro hk
      rw [red_take l k (by omega), ih (by omega), take_snoc l k (by omega)]
      unfold redS
      rw [if_neg]
      intro e
      rw [List.getLast?_eq_getElem?, List.length_take, Nat.min_eq_left (by omega)] at e
      cases k with
      | zero => simp at e
      | succ j =>
        rw [Nat.add_sub_cancel, List.getElem?_take_of_lt (by omega)] at e
        exact h j _ _ e (List.getElem?_eq_getElem (by omega)) rfl
  have := H l.length (Nat.le_refl _)
  rwa [List.take_length] at this
theorem red_red (l : List UInt8) : red (red l) = red l := red_of_NI (NI_red l)
theorem red_cat (a b : List UInt8) : red (a ++ b) = b.foldl redS (red a) := by simp [red, List.foldl_append]
theorem red_app (a b : List UInt8) : red (red a ++ b) = red (a ++ b) := by rw [red_cat, red_red, red_cat]
/-- so many times behind itself -/
def rep (l : List UInt8) : Nat → List UInt8
  | 0 => []
  | n + 1 => rep l n ++ l
theorem rep_length (l : List UInt8) (n : Nat) : (rep l n).length = n * l.length := by
  induction n with
  | zero => simp [rep]
  | succ n ih => simp [rep, ih, Nat.succ_mul]
theorem rep_letters {l : List UInt8} (h : ∀ c ∈ l, isL c = true) (n : Nat) : ∀ c ∈ rep l n, isL c = true := by
  induction n with
  | zero => simp [rep]
  | succ n ih => intro c hc; exact (List.mem_append.1 hc).elim (ih c) (h c)
theorem redS_len_eq {out : List UInt8} {c : UInt8} (h : (redS out c).length = out.length + 1) : redS out c = out ++ [c] := by
  unfold redS at h ⊢
  split
  · rename_i e; rw [if_pos e, List.length_dropLast] at h; omega
  · rfl
theorem foldl_length (l out : List UInt8) : (l.foldl redS out).length ≤ out.length + l.length := by
  induction l generalizing out with
  | nil => simp
  | cons c r ih =>
    have h1 := ih (redS out c)
    have h2 := redS_length out c
    simp only [List.foldl_cons, List.length_cons]
    omega
theorem foldl_full (l out : List UInt8) (h : (l.foldl redS out).length = out.length + l.length) : l.foldl redS out = out ++ l := by
  induction l generalizing out with
  | nil => simp
  | cons c r ih =>
    simp only [List.foldl_cons, List.length_cons] at h ⊢
    have h1 := foldl_length r (redS out c)
    have h2 := redS_length out c
    have e := redS_len_eq (out := out) (c := c) (by omega)
    rw [ih (redS out c) (by omega), e]
    simp
theorem red_full {l : List UInt8} : (red l).length = l.length ↔ red l = l := by
  constructor
  · intro h
    have := foldl_full l [] (by simpa [red] using h)
    simpa [red] using this
  · intro h; rw [h]
end Go.Proofs.Ytkijgadkgfapgaa.Wd
namespace Go.Proofs.Ytkijgadkgfapgaa
open Wd
theorem powR_rep (l : List UInt8) (n : Nat) : powR l n = red (rep l n) := by
  induction n with
  | zero => rfl
  | succ n ih => show red (powR l n ++ l) = red (rep l n ++ l); rw [ih, red_app]
end Go.Proofs.Ytkijgadkgfapgaa
/-
  THE PROGRAM'S WORDS: rows of letters' numbers.
-/
namespace Go.Proofs.Ytkijgadkgfapgaa
open Go.ChangeShapes Go.WideShapes Go.ChangeAt Go.RowKit
open Wd
/-- the cells of letters -/
def numC (l : List UInt8) : List Value := l.map fun c => .int .u8 (lnum c)
theorem numC_len (l : List UInt8) : (numC l).length = l.length := by simp [numC]
theorem numC_snoc (l : List UInt8) (c : UInt8) : numC l ++ [.int .u8 (lnum c)] = numC (l ++ [c]) := by simp [numC]
theorem numC_at (l : List UInt8) (j : Nat) (h : j < l.length) : (numC l)[j]? = some (.int .u8 (lnum (l[j]'h))) := by simp [numC, h]
/-- v is a slice of the call's own (its blocks begin at base) that holds the letters l -/
def OwnLw (base : Nat) (v : Value) (l : List UInt8) (w : World) : Prop := w.ownsRow base 216 1 v l.length (numC l)
theorem info_let : (Try.prog.info? 216).map (fun i => (i.zero, i.size, i.bytes)) = some (some (.int .u8 0), 1, 1) := by kernel_rfl
/-- v is a slice that holds the letters l, in a block below n₀; or it is nil, and there are none -/
def LRow (n₀ : Nat) (W : World) (v : Value) (l : List UInt8) : Prop :=
  (v = .slice none 0 0 ∧ l = []) ∨ ∃ b off cap, v = .slice (some ⟨b, off, none⟩) l.length cap ∧ b < n₀ ∧ ∀ j (hj : j < l.length), W.cell? ⟨b, off + j, none⟩ = some (.int .u8 (lnum (l[j]'hj)))
theorem LRow.below {n₀ : Nat} {A B : World} (h : Below n₀ A B) {v : Value} {l : List UInt8} : LRow n₀ A v l → LRow n₀ B v l
  | .inl e => .inl e
  | .inr ⟨b, off, cap, e, hb, hc⟩ => .inr ⟨b, off, cap, e, hb, fun j hj => (h.cell (p := ⟨b, off + j, none⟩) hb).trans (hc j hj)⟩
theorem LRow.up {n₀ n₁ : Nat} {A : World} {v : Value} {l : List UInt8} (hn : n₀ ≤ n₁) : LRow n₀ A v l → LRow n₁ A v l
  | .inl e => .inl e
  | .inr ⟨b, off, cap, e, hb, hc⟩ => .inr ⟨b, off, cap, e, Nat.lt_of_lt_of_le hb hn, hc⟩
theorem OwnLw.row {base : Nat} {v : Value} {l : List UInt8} {w : World} (h : OwnLw base v l w) : LRow w.heap.size w v l := by
  have h' := h
  obtain ⟨h1, h2⟩ := h
  rcases h2 with ⟨rfl, h0⟩ | ⟨g, cap, cur, rfl, hb, hg, hn2, hm, hs, ht⟩
  · exact .inl ⟨rfl, List.eq_nil_of_length_eq_zero h0⟩
  · refine .inr ⟨g, 0, cap, rfl, (Array.getElem?_eq_some_iff.1 hg).1, fun j hj => ?_⟩
    have := World.ownsRow.cells h' (g := g) rfl j _ (numC_at l j hj)
    rw [addr_off, Nat.zero_add] at this
    rw [Nat.zero_add]; exact this
theorem LRow.len {n₀ : Nat} {W : World} {v : Value} {l : List UInt8} (h : LRow n₀ W v l) : ∃ a cap, v = .slice a l.length cap := by
  rcases h with ⟨rfl, rfl⟩ | ⟨b, off, cap, rfl, _⟩
  · exact ⟨none, 0, rfl⟩
  · exact ⟨_, cap, rfl⟩
/-- the letter with a number -/
def chr (n : Nat) : UInt8 := if n = 0 then 97 else if n = 1 then 65 else if n = 2 then 98 else if n = 3 then 66 else if n = 4 then 99 else if n = 5 then 67 else if n = 6 then 100 else 68
theorem lnum_chr {n : Nat} (h : n < 8) : lnum (chr n) = n := by
  have : n = 0 ∨ n = 1 ∨ n = 2 ∨ n = 3 ∨ n = 4 ∨ n = 5 ∨ n = 6 ∨ n = 7 := by omega
  rcases this with rfl | rfl | rfl | rfl | rfl | rfl | rfl | rfl <;> decide
theorem isL_chr (n : Nat) : isL (chr n) = true := by
  unfold chr; repeat' split
  all_goals decide
theorem chr_lnum {c : UInt8} (h : isL c = true) : chr (lnum c).toNat = c := by
  rcases lcases h with rfl | rfl | rfl | rfl | rfl | rfl | rfl | rfl <;> decide
theorem lnum_inj {c d : UInt8} (hc : isL c = true) (hd : isL d = true) (h : lnum c = lnum d) : c = d := by
  rw [← chr_lnum hc, ← chr_lnum hd, h]
end Go.Proofs.Ytkijgadkgfapgaa
/-
  CONTRACTS: the program's readWord, ValidWord, readWords.
-/
namespace Go.Proofs.Ytkijgadkgfapgaa
open Go.ChangeShapes Go.WideShapes Go.ChangeAt Go.RowKit
open Wd
theorem idx_let (c : UInt8) : Lib.indexByte [97, 65, 98, 66, 99, 67, 100, 68] c = lnum c := by
  by_cases h0 : c = 97; · subst h0; decide
  by_cases h1 : c = 65; · subst h1; decide
  by_cases h2 : c = 98; · subst h2; decide
  by_cases h3 : c = 66; · subst h3; decide
  by_cases h4 : c = 99; · subst h4; decide
  by_cases h5 : c = 67; · subst h5; decide
  by_cases h6 : c = 100; · subst h6; decide
  by_cases h7 : c = 68; · subst h7; decide
  simp [Lib.indexByte, lnum, h0, h1, h2, h3, h4, h5, h6, h7, Ne.symm h0, Ne.symm h1, Ne.symm h2, Ne.symm h3, Ne.symm h4, Ne.symm h5, Ne.symm h6, Ne.symm h7, beq_eq_false_iff_ne.2 (Ne.symm h0)]
set_option maxRecDepth 100000 in
set_option maxHeartbeats 1000000 in
theorem lite_any (s : ByteArray) (c : Int) (w : World) :
    Calls Try.prog 87 #[.string s, .int .u8 c] w fun e w' => e = .returned (.int .i64 (Lib.indexByte s.data.toList c.toNat.toUInt8)) ∧ w = w' := by
  go_enter Try.func87, Try.ntmps87
  go_wp2
  rw [run_callFunc_extern Try.func119 (by kernel_rfl) (by kernel_rfl) (by kernel_rfl) (e := Extern.BytealgIndexByte.indexByte) (by kernel_rfl), Lib.run_indexByteString]
  simp only [Result.andThen]
  rw [Oper.upon_value]
  go_wp2
  go_ret
  exact ⟨rfl, rfl⟩
theorem index_let (c : UInt8) (w : World) :
    Calls Try.prog 57 #[.string { data := #[97, 65, 98, 66, 99, 67, 100, 68] }, .int .u8 ((c.toNat : Nat) : Int)] w fun e w' => e = .returned (.int .i64 (lnum c)) ∧ w = w' := by
  have h : Hid (∀ w, Calls Try.prog 87 #[.string { data := #[97, 65, 98, 66, 99, 67, 100, 68] }, .int .u8 ((c.toNat : Nat) : Int)] w fun e w' => e = .returned (.int .i64 (lnum c)) ∧ w = w') := Lib.hid fun w => by
    have := lite_any { data := #[97, 65, 98, 66, 99, 67, 100, 68] } ((c.toNat : Nat) : Int) w
    rw [Int.toNat_natCast] at this
    have e : c.toNat.toUInt8 = c := by simp
    rw [e] at this
    rw [← idx_let c]; exact this
  go_enter Try.func57, Try.ntmps57
  go_wp2_with (go_at_call 87; refine (h.out _).mono ?_; rintro e w' ⟨rfl, rfl⟩)
  go_ret
  exact ⟨rfl, rfl⟩
/-- a row of n cells of which the first k hold the numbers of letters, the others zeros -/
def rowLw (l : List UInt8) (k n : Nat) : Array Value := ((List.range n).map fun i => if i < k then Value.int .u8 (lnum (l[i]?.getD 97)) else Value.int .u8 0).toArray
theorem rowL_size (l : List UInt8) (k n : Nat) : (rowLw l k n).size = n := by simp [rowLw]
theorem rowLw_get (l : List UInt8) (k n i : Nat) (h : i < n) : (rowLw l k n)[i]? = some (if i < k then Value.int .u8 (lnum (l[i]?.getD 97)) else Value.int .u8 0) := by simp [rowLw, h]
theorem rowL_set (l : List UInt8) (k n : Nat) (h : k < n) (c : UInt8) (hc : l[k]?.getD 97 = c) : (rowLw l k n).setIfInBounds k (.int .u8 (lnum c)) = rowLw l (k + 1) n := by
  apply Array.ext_getElem?
  intro i
  rw [Array.getElem?_setIfInBounds]
  by_cases hi : i < n
  · rw [rowLw_get l (k + 1) n i hi]
    by_cases hk : k = i
    · subst hk
      rw [if_pos rfl, if_pos (by rw [rowL_size]; exact h), if_pos (by omega), hc]
    · rw [if_neg hk, rowLw_get l k n i hi]
      congr 1
      by_cases h1 : i < k
      · rw [if_pos h1, if_pos (by omega)]
      · rw [if_neg h1, if_neg (by omega)]
  · have e1 : (rowLw l (k + 1) n)[i]? = none := Array.getElem?_eq_none (by rw [rowL_size]; omega)
    have e2 : (rowLw l k n)[i]? = none := Array.getElem?_eq_none (by rw [rowL_size]; omega)
    rw [e1]
    by_cases hk : k = i
    · omega
    · rw [if_neg hk, e2]
theorem rowL_made (l : List UInt8) (n : Nat) : madeCells #[.int .u8 0] n = rowLw l 0 n := by
  apply Array.ext_getElem?
  intro i
  by_cases hi : i < n
  · rw [rowLw_get _ _ _ _ hi]
    simp [madeCells, hi, Nat.mod_one]
  · rw [Array.getElem?_eq_none (by simp [madeCells]; omega), Array.getElem?_eq_none (by rw [rowL_size]; omega)]
theorem rowL_full (l : List UInt8) : (rowLw l l.length l.length).toList = numC l := by
  apply List.ext_getElem?
  intro i
  by_cases hi : i < l.length
  · have := rowLw_get l l.length l.length i hi
    rw [Array.getElem?_toList, this, if_pos hi, numC_at l i hi, List.getElem?_eq_getElem hi]; rfl
  · rw [List.getElem?_eq_none (by rw [Array.length_toList, rowL_size]; omega), List.getElem?_eq_none (by rw [numC_len]; omega)]
theorem make_let (l : List UInt8) (n : Nat) (h : n ≤ 1048576) (w : World) : (Instr.makeSlice 162 (.int .i64 (n : Int)) (.int .i64 (n : Int))).run Try.prog w = .ok (.slice (some ⟨w.heap.size, 0, none⟩) n n) (w.alloc (.cells (rowLw l 0 n) 216)) := by
  rw [← rowL_made]
  exact run_make_row' 162 216 (.int .u8 0) 1 Try.underlying162 info_let rfl .i64 .i64 n (by omega) (by omega) w
theorem own_full (l : List UInt8) (h : l.length ≤ 1048576) (w : World) : OwnLw w.heap.size (.slice (some ⟨w.heap.size, 0, none⟩) l.length l.length) l (w.alloc (.cells (rowLw l l.length l.length) 216)) := by
  refine ⟨by rw [numC_len, Nat.mul_one], .inr ⟨w.heap.size, l.length, rowLw l l.length l.length, rfl, Nat.le_refl _, World.alloc_heap_new w _, Nat.le_refl _, by unfold maxLen; omega, by rw [rowL_size, Nat.mul_one], ?_⟩⟩
  rw [rowL_full, Nat.mul_one, List.take_of_length_le (by rw [numC_len]; exact Nat.le_refl _)]
theorem read_yes (l : List UInt8) (h : wordB l = true) (w : World) :
    Calls Try.prog 117 #[.string (txt l)] w fun e w' => ∃ v, e = .returned (.tuple #[v, .int .i64 0]) ∧ OwnLw w.heap.size v l w' ∧ Below w.heap.size w w' := by
  have hs := txt_size l
  have hl := wordB_len h
  have HL := Lib.hid (wordB_lets h)
  have hl' : (l.length : Int) ≤ 40 := by omega
  have hmk := make_let l l.length (by omega)
  have t1 : decide ((40 : Int) < (l.length : Int)) = false := by simp; omega
  go_enter Try.func117, Try.ntmps117
  go_wp2
  go_loopw [15] (fun i wr => ∃ k : Nat, k ≤ l.length ∧ i = .int .i64 (k : Int) ∧ wr = w.alloc (.cells (rowLw l k l.length) 216)) (fun i _ => l.length - (intOf i).toNat)
  case atStart => exact ⟨0, Nat.zero_le _, rfl, rfl⟩
  case round =>
    obtain ⟨k, hk, rfl, rfl⟩ := hrel
    by_cases hlt : k < l.length
    · have hi := idx_txt l k hlt
      have t2 : decide (k < l.length) = true := by simpa using hlt
      obtain ⟨h0, h7⟩ := lnum_yes (HL.out l[k] (List.getElem_mem hlt))
      have g2 : (rowLw l k l.length)[k]? = some (.int .u8 0) := by rw [rowLw_get _ _ _ _ hlt, if_neg (by omega)]
      have hset := rowL_set l k l.length hlt l[k] (by rw [List.getElem?_eq_getElem hlt]; rfl)
      have hii := Lib.hid (index_let l[k])
      have HK := Lib.hid hlt
      generalize l[k] = c at hi h0 h7 hset hii
      go_wp2_with (go_at_call 57; with_reducible refine (hii.out _).mono ?_; rintro e w' ⟨rfl, rfl⟩)
      go_roundw
      case rel => exact ⟨k + 1, HK.out, by go_num, rfl⟩
      case measure => have := HK.out; simp [intOf]; omega
    · obtain rfl : k = l.length := by omega
      have O := Lib.hid (own_full l (by omega) w)
      go_wp2
      go_ret2
      exact ⟨_, rfl, O.out, (Below.refl _ _).alloc (Nat.le_refl _) _⟩
theorem read_no (l : List UInt8) (hm : l.length ≤ 4000000) (h : wordB l = false) (w : World) :
    Calls Try.prog 117 #[.string (txt l)] w fun e w' => e = .returned (.tuple #[.slice none 0 0, .int .i64 1]) ∧ Below w.heap.size w w' := by
  have hs := txt_size l
  by_cases hl : l.length ≤ 40
  · have HN : Hid (lets l = false) := Lib.hid (by unfold wordB at h; rw [Bool.and_eq_false_iff] at h; rcases h with h | h; exact h; simp at h; omega)
    have hl' : (l.length : Int) ≤ 40 := by omega
    have hmk := make_let l l.length (by omega)
    have t1 : decide ((40 : Int) < (l.length : Int)) = false := by simp; omega
    go_enter Try.func117, Try.ntmps117
    go_wp2
    go_loopw [15] (fun i wr => ∃ k : Nat, k ≤ l.length ∧ i = .int .i64 (k : Int) ∧ lets (l.take k) = true ∧ wr = w.alloc (.cells (rowLw l k l.length) 216)) (fun i _ => l.length - (intOf i).toNat)
    case atStart => exact ⟨0, Nat.zero_le _, rfl, rfl, rfl⟩
    case round =>
      obtain ⟨k, hk, rfl, hlt0, rfl⟩ := hrel
      have HL := Lib.hid hlt0
      clear hlt0
      by_cases hlt : k < l.length
      · have hi := idx_txt l k hlt
        have t2 : decide (k < l.length) = true := by simpa using hlt
        have g2 : (rowLw l k l.length)[k]? = some (.int .u8 0) := by rw [rowLw_get _ _ _ _ hlt, if_neg (by omega)]
        have hset := rowL_set l k l.length hlt l[k] (by rw [List.getElem?_eq_getElem hlt]; rfl)
        have hii := Lib.hid (index_let l[k])
        have HT : Hid (isL l[k] = true → lets (l.take (k + 1)) = true) := Lib.hid (by
          intro hc
          rw [take_snoc l k hlt]
          have := HL.out
          unfold lets at this ⊢
          rw [List.all_append, this]; simp [hc])
        have HK := Lib.hid hlt
        generalize l[k] = c at hi hset hii HT
        cases hc : isL c
        · have hn := lnum_no hc
          clear hc
          go_wp2_with (go_at_call 57; with_reducible refine (hii.out _).mono ?_; rintro e w' ⟨rfl, rfl⟩; rw [hn])
          go_ret2
          exact ⟨rfl, (Below.refl _ _).alloc (Nat.le_refl _) _⟩
        · obtain ⟨h0, h7⟩ := lnum_yes hc
          have HT2 := Lib.hid (HT.out hc)
          clear hc
          go_wp2_with (go_at_call 57; with_reducible refine (hii.out _).mono ?_; rintro e w' ⟨rfl, rfl⟩)
          go_roundw
          case rel => exact ⟨k + 1, HK.out, by go_num, HT2.out, rfl⟩
          case measure => have := HK.out; simp [intOf]; omega
      · exfalso
        obtain rfl : k = l.length := by omega
        have := HL.out
        rw [List.take_length, HN.out] at this
        cases this
  · have t1 : decide ((40 : Int) < (l.length : Int)) = true := by simp; omega
    go_enter Try.func117, Try.ntmps117
    go_wp2
    go_ret2
    exact ⟨rfl, Below.refl _ _⟩
theorem ivalid_any (l : List UInt8) (hm : l.length ≤ 4000000) (w : World) :
    Calls Try.prog 78 #[.string (txt l)] w fun e w' => e = .returned (.bool (wordB l)) ∧ Below w.heap.size w w' := by
  cases h : wordB l
  · have hr := Lib.hid (read_no l hm h)
    go_enter Try.func78, Try.ntmps78
    go_wp2_with (go_at_call 117; refine (hr.out _).mono ?_; rintro e w' ⟨rfl, B⟩)
    go_ret
    exact ⟨rfl, B⟩
  · have hr := Lib.hid (read_yes l h)
    go_enter Try.func78, Try.ntmps78
    go_wp2_with (go_at_call 117; refine (hr.out _).mono ?_; rintro e w' ⟨v, rfl, O, B⟩)
    go_ret
    exact ⟨rfl, B⟩
end Go.Proofs.Ytkijgadkgfapgaa
/-
  CONTRACTS: the specification's sums of letters.
-/
namespace Go.Proofs.Ytkijgadkgfapgaa
open Go.ChangeShapes Go.WideShapes Go.ChangeAt Go.RowKit
open Wd
/-- what a letter adds to a sum -/
def dlt (c : UInt8) (j : Nat) : Int := if (lnum c).toNat / 2 = j then (if lnum c % 2 = 0 then 1 else -1) else 0
/-- the sums of letters -/
def sumL (l : List UInt8) (j : Nat) : Int := l.foldl (fun s c => s + dlt c j) 0
theorem sumL_snoc (l : List UInt8) (c : UInt8) (j : Nat) : sumL (l ++ [c]) j = sumL l j + dlt c j := by simp [sumL, List.foldl_append]
theorem dlt_le (c : UInt8) (j : Nat) : -1 ≤ dlt c j ∧ dlt c j ≤ 1 := by unfold dlt; split <;> (try split) <;> omega
theorem sumL_le (l : List UInt8) (j : Nat) : -(l.length : Int) ≤ sumL l j ∧ sumL l j ≤ l.length := by
  have H : ∀ (l : List UInt8) (s : Int), -(l.length : Int) + s ≤ l.foldl (fun s c => s + dlt c j) s ∧ l.foldl (fun s c => s + dlt c j) s ≤ l.length + s := by
    intro l
    induction l with
    | nil => intro s; simp
    | cons c r ih =>
      intro s
      have h1 := ih (s + dlt c j)
      have h2 := dlt_le c j
      simp only [List.foldl_cons, List.length_cons]
      push_cast
      omega
  have := H l 0
  unfold sumL
  omega
abbrev A4 (l : List UInt8) : Array Value := #[.int .i64 (sumL l 0), .int .i64 (sumL l 1), .int .i64 (sumL l 2), .int .i64 (sumL l 3)]
theorem heap_setCell_at {w : World} {g : Nat} {A : Array Value} {t : TypeId} (h : w.heap[g]? = some (.cells A t (0, 0))) (x : Nat) (v : Value) : (w.setCell ⟨g, x, none⟩ v).heap[g]? = some (.cells (A.setIfInBounds x v) t (0, 0)) := by
  simp [World.setCell, Array.getElem?_modify, h]
theorem heap_setCell_far {w : World} {g k x : Nat} (h : k ≠ g) (v : Value) : (w.setCell ⟨g, x, none⟩ v).heap[k]? = w.heap[k]? := Below.heap_setCell _ _ _ _ h
theorem a4_cells (l : List UInt8) : (A4 l).all (·.oneCell') = true := by simp [A4, Value.oneCell']
end Go.Proofs.Ytkijgadkgfapgaa
/-
  LetterSums on both sides; the law.
-/
namespace Go.Proofs.Ytkijgadkgfapgaa
open Go.ChangeShapes Go.WideShapes Go.ChangeAt Go.RowKit
open Wd
theorem results_cell_tmp_row {P : Program} {fn : Func} {p u : Tmp} {ty : TypeId} (h : fn.results = #[.cell p ty, .tmp u]) (tmps : Array Value) (w : World) (g : Nat) (t : TypeId) (cs : Array Value) (fr : Nat × Nat) (d : TypeDesc)
    (hp : tmps.getD p undef = .pointer (some ⟨g, 0, none⟩)) (hg : w.heap[g]? = some (.cells cs t fr))
    (hu : P.underlying ty = some d) (hd : (match d with | .struct _ | .array _ _ => true | _ => false) = true) (hi : (P.info? ty).map (·.size) = some cs.size) :
    (results fn tmps).run P w = .ok (.tuple #[.agg cs, tmps.getD u undef]) w := by
  rw [results_cell_tmp h, hp]
  simp [asAddr, run_loadVar_row w g t ty cs fr d hg hu hd hi]
/-- what LetterSums answers -/
def LsPost (l : List UInt8) (w : World) (e : Ending) (w' : World) : Prop := e = .returned (.tuple #[.agg (if wordB l then A4 l else A4 []), .int .i64 (if wordB l then 0 else 1)]) ∧ Below w.heap.size w w'
end Go.Proofs.Ytkijgadkgfapgaa
/-
  CONTRACTS: the program's (letters).coded, CodeOfWord.
-/
namespace Go.Proofs.Ytkijgadkgfapgaa
open Go.ChangeShapes Go.WideShapes Go.ChangeAt Go.RowKit
open Wd
/-- a bit of a word's code -/
def bitW (l : List UInt8) (p : Nat) : Bool := decide ((lnum (l[p / 3]?.getD 97)).toNat / 2 ^ (2 - p % 3) % 2 = 1)
/-- the bytes of a code, when the first places have been laid -/
def cdF (l : List UInt8) : Nat → Nat → Int
  | 0 => fun i => if i = 0 then (l.length : Int) else 0
  | p + 1 => if bitW l p then updI (cdF l p) (1 + p / 8) (bits .or .u8 (cdF l p (1 + p / 8)) (2 ^ (7 - p % 8))) else cdF l p
theorem bits_or_u8_nat' (a b : Nat) (ha : a < 256) (hb : b < 256) : bits .or .u8 (a : Int) (b : Int) = ((a ||| b : Nat) : Int) := by
  have hx : a ||| b < 2 ^ 8 := Nat.or_lt_two_pow (by omega) (by omega)
  have h1 : (BitVec.ofInt 8 (a : Int)).toNat = a := by
    rw [BitVec.ofInt_natCast, BitVec.toNat_ofNat]; exact Nat.mod_eq_of_lt (by omega)
  have h2 : (BitVec.ofInt 8 (b : Int)).toNat = b := by
    rw [BitVec.ofInt_natCast, BitVec.toNat_ofNat]; exact Nat.mod_eq_of_lt (by omega)
  show IntKind.u8.wrap ((BitVec.ofInt 8 (a : Int) ||| BitVec.ofInt 8 (b : Int)).toNat : Int) = _
  rw [BitVec.toNat_or, h1, h2, IntKind.wrap_u8]
  omega
theorem or_u8 {a b : Int} (_ha : 0 ≤ a ∧ a ≤ 255) (_hb : 0 ≤ b ∧ b ≤ 255) : 0 ≤ bits .or .u8 a b ∧ bits .or .u8 a b ≤ 255 := ⟨bits_lo_u8 _ _ _, bits_hi_u8 _ _ _⟩
theorem or_u8_zero {a : Int} (ha : 0 ≤ a ∧ a ≤ 255) : bits .or .u8 a 0 = a := by
  obtain ⟨x, rfl⟩ : ∃ x : Nat, a = x := ⟨a.toNat, by omega⟩
  have := bits_or_u8_nat' x 0 (by omega) (by omega)
  simpa using this
theorem pow7 {m : Nat} (h : m ≤ 7) : (0 : Int) ≤ 2 ^ (7 - m) ∧ (2 : Int) ^ (7 - m) ≤ 255 := by
  have : m = 0 ∨ m = 1 ∨ m = 2 ∨ m = 3 ∨ m = 4 ∨ m = 5 ∨ m = 6 ∨ m = 7 := by omega
  rcases this with rfl | rfl | rfl | rfl | rfl | rfl | rfl | rfl <;> decide
theorem cdF_ok {l : List UInt8} (hl : l.length ≤ 40) (p : Nat) (i : Nat) : 0 ≤ cdF l p i ∧ cdF l p i ≤ 255 := by
  induction p generalizing i with
  | zero => unfold cdF; split <;> omega
  | succ p ih =>
    unfold cdF
    split
    · unfold updI
      split
      · exact or_u8 (ih _) (pow7 (by omega))
      · exact ih i
    · exact ih i
theorem and1_u8 {y : Int} (h0 : 0 ≤ y) (h1 : y < 256) : bits .and .u8 y 1 = y % 2 := bits_mask .u8 8 (by decide) wraps_u8 1 (by decide) y h0 h1
theorem wrap_pow {m : Nat} (h : m < 8) : IntKind.u8.wrap (1 * 2 ^ (7 - m)) = 2 ^ (7 - m) := by
  have : m = 0 ∨ m = 1 ∨ m = 2 ∨ m = 3 ∨ m = 4 ∨ m = 5 ∨ m = 6 ∨ m = 7 := by omega
  rcases this with rfl | rfl | rfl | rfl | rfl | rfl | rfl | rfl <;> rfl
/-- the bit at a place, as a letter's number tells it -/
theorem bitW_at {l : List UInt8} {p i b : Nat} (hp : p = 3 * i + b) (hb : b < 3) (hi : i < l.length) : bitW l p = decide ((lnum l[i]).toNat / 2 ^ (2 - b) % 2 = 1) := by
  unfold bitW
  rw [show p / 3 = i by omega, show p % 3 = b by omega, List.getElem?_eq_getElem hi]
  rfl
theorem div_nat {x : Int} (h : 0 ≤ x) (k : Nat) : x / 2 ^ k = ((x.toNat / 2 ^ k : Nat) : Int) := by
  obtain ⟨n, rfl⟩ : ∃ n : Nat, x = n := ⟨x.toNat, by omega⟩
  rw [Int.toNat_natCast]
  push_cast
  rfl
theorem bit_val {c : UInt8} (hc : isL c = true) (k : Nat) : bits .and .u8 (lnum c / 2 ^ k) 1 = (((lnum c).toNat / 2 ^ k % 2 : Nat) : Int) := by
  obtain ⟨n0, n7⟩ := lnum_yes hc
  have h := Nat.div_le_self (lnum c).toNat (2 ^ k)
  rw [div_nat n0]
  generalize (lnum c).toNat / 2 ^ k = y at h
  rw [and1_u8 (by omega) (by omega)]
  push_cast
  rfl
theorem bit_step {l : List UInt8} (hl : ∀ c ∈ l, isL c = true) (hm : l.length ≤ 40) {p i b j m : Nat} (hp : p = 3 * i + b) (hb : b < 3) (hpj : p = 8 * j + m) (hm8 : m < 8) (hi : i < l.length) {x : Int} (hx : bits .and .u8 (lnum l[i] / 2 ^ (2 - b)) 1 = x) :
    (arr .u8 16 (cdF l p)).setIfInBounds (1 + j) (.int .u8 (bits .or .u8 (cdF l p (1 + j)) (IntKind.u8.wrap (x * 2 ^ (7 - m))))) = arr .u8 16 (cdF l (p + 1)) := by
  have e1 : cdF l (p + 1) = if bitW l p then updI (cdF l p) (1 + j) (bits .or .u8 (cdF l p (1 + j)) (2 ^ (7 - m))) else cdF l p := by
    show (if bitW l p then updI (cdF l p) (1 + p / 8) (bits .or .u8 (cdF l p (1 + p / 8)) (2 ^ (7 - p % 8))) else cdF l p) = _
    rw [show p / 8 = j by omega, show p % 8 = m by omega]
  rw [e1, bitW_at hp hb hi, arr_set _ _ _ _ _ (by omega)]
  rw [bit_val (hl _ (List.getElem_mem hi))] at hx
  have h2 := Nat.mod_lt ((lnum l[i]).toNat / 2 ^ (2 - b)) (show 0 < 2 by omega)
  generalize (lnum l[i]).toNat / 2 ^ (2 - b) % 2 = y at hx h2 ⊢
  subst hx
  by_cases h1 : y = 1
  · subst h1
    rw [decide_eq_true rfl, if_pos rfl, show ((1 : Nat) : Int) = 1 from rfl, wrap_pow hm8]
  · obtain rfl : y = 0 := by omega
    rw [decide_eq_false (by omega), if_neg (by simp), show ((0 : Nat) : Int) * 2 ^ (7 - m) = 0 by simp, show IntKind.u8.wrap 0 = 0 from rfl, or_u8_zero (cdF_ok hm p (1 + j))]
    refine arr_congr fun k hk => ?_
    unfold updI
    split
    · rename_i h; rw [h]
    · rfl
theorem code_info (A : Array Value) (h : A.size = 16) : (Try.prog.info? 117).map (·.size) = some A.size := by rw [h]; kernel_rfl
set_option maxRecDepth 100000 in
set_option maxHeartbeats 4000000 in
theorem coded_any (v : Value) (l : List UInt8) (hl : ∀ c ∈ l, isL c = true) (hm : l.length ≤ 40) (w : World) (hI : LRow w.heap.size w v l) :
    Calls Try.prog 137 #[v] w fun e w' => e = .returned (.agg (arr .u8 16 (cdF l (3 * l.length)))) ∧ Below w.heap.size w w' := by
  obtain ⟨a0, cap0, rfl⟩ := hI.len
  have HI := Lib.hid hI
  have HL := Lib.hid hl
  have HM := Lib.hid hm
  have hm' : (l.length : Int) ≤ 40 := by omega
  have e0 : Hid (#[Value.int .u8 (l.length : Int), .int .u8 0, .int .u8 0, .int .u8 0, .int .u8 0, .int .u8 0, .int .u8 0, .int .u8 0, .int .u8 0, .int .u8 0, .int .u8 0, .int .u8 0, .int .u8 0, .int .u8 0, .int .u8 0, .int .u8 0] = arr .u8 16 (cdF l 0)) := Lib.hid rfl
  clear hI hl
  go_enter Try.func137, Try.ntmps137
  go_wp2
  go_loopw [14] (fun i wr => ∃ p : Nat, p ≤ 3 * l.length ∧ i = .int .i64 (p : Int) ∧ wr.heap[w.heap.size + 1]? = some (.cells (arr .u8 16 (cdF l p)) 117 (0, 0)) ∧ wr.heap[w.heap.size]? = some (.cells (arr .u8 16 (fun _ => 0)) 117 (0, 0)) ∧ Below w.heap.size w wr) (fun i _ => 3 * l.length - (intOf i).toNat)
  case atStart =>
    refine ⟨0, Nat.zero_le _, rfl, ?_, ?_, ?_⟩
    · have := World.alloc_heap_new (w.alloc (.cells (arr .u8 16 (fun _ => 0)) 117)) (.cells (arr .u8 16 (cdF l 0)) 117)
      rw [World.size_alloc] at this
      exact this
    · exact (Below.heap_alloc _ _ _ (by simp)).trans (World.alloc_heap_new w (.cells (arr .u8 16 (fun _ => 0)) 117))
    · exact ((Below.refl _ w).alloc (Nat.le_refl _) _).alloc (by simp) _
  case round =>
    obtain ⟨p, hp, rfl, hg, h0, hB⟩ := hrel
    have HG := Lib.hid hg
    have H0 := Lib.hid h0
    have HB := Lib.hid hB
    clear hg h0 hB e0
    by_cases hlt : p < 3 * l.length
    · obtain ⟨i, b, hb, hpi⟩ : ∃ i b, b < 3 ∧ p = 3 * i + b := ⟨p / 3, p % 3, by omega, by omega⟩
      obtain ⟨j, m, hm8, hpj⟩ : ∃ j m, m < 8 ∧ p = 8 * j + m := ⟨p / 8, p % 8, by omega, by omega⟩
      have hi : i < l.length := by omega
      have hj : j < 15 := by omega
      obtain ⟨g, off, rfl, hgb, hcs⟩ : ∃ g o, a0 = some ⟨g, o, none⟩ ∧ g < w.heap.size ∧ ∀ j (hj : j < l.length), w.cell? ⟨g, o + j, none⟩ = some (.int .u8 (lnum (l[j]'hj))) := by
        rcases HI.out with ⟨h, h'⟩ | ⟨g, o, c, h, hb, hc⟩
        · subst h'; simp at hi
        · cases h; exact ⟨g, o, rfl, hb, hc⟩
      have hc0 : wr.cell? ⟨g, off + i, none⟩ = some (.int .u8 (lnum (l[i]'hi))) := (HB.out.cell (p := ⟨g, off + i, none⟩) hgb).trans (hcs i hi)
      have hcj : wr.cell? ⟨w.heap.size + 1, 1 + j, none⟩ = some (.int .u8 (cdF l p (1 + j))) := (Lib.cell_of_heap HG.out (1 + j)).trans (arr_get _ _ _ _ (by omega))
      have hfj : wr.frozen? ⟨w.heap.size + 1, 1 + j, none⟩ = false := Lib.frozen_of_heap HG.out (1 + j)
      obtain ⟨n0, n7⟩ := lnum_yes (HL.out _ (List.getElem_mem hi))
      obtain ⟨c0, c1⟩ := cdF_ok hm p (1 + j)
      have q3 : (p : Int) / 3 = (i : Int) := by omega
      have r3 : (p : Int) % 3 = (b : Int) := by omega
      have q8 : (p : Int) / 8 = (j : Int) := by omega
      have r8 : (p : Int) % 8 = (m : Int) := by omega
      have t1 : decide ((p : Int) < 3 * (l.length : Int)) = true := by simp; omega
      have HLT := Lib.hid hlt
      have HPI := Lib.hid hpi
      have HPJ := Lib.hid hpj
      have hb' : (b : Int) ≤ 2 := by omega
      have hm8' : (m : Int) ≤ 7 := by omega
      have hi' : (i : Int) < (l.length : Int) := by omega
      have hj' : (j : Int) ≤ 14 := by omega
      have hp' : (p : Int) ≤ 120 := by omega
      have HII := Lib.hid hi
      clear hlt hp hcs hpi hpj
      have w1 : IntKind.i64.wrap (j : Int) = j := by rw [IntKind.wrap_i64]; omega
      have w2 : IntKind.i64.wrap (1 + (j : Int)) = 1 + (j : Int) := by rw [IntKind.wrap_i64]; omega
      have w3 : IntKind.i64.wrap (m : Int) = m := by rw [IntKind.wrap_i64]; omega
      have w4 : IntKind.i64.wrap (7 - (m : Int)) = 7 - (m : Int) := by rw [IntKind.wrap_i64]; omega
      go_wp2
      generalize hx : bits .and .u8 (lnum (l[i]'HII.out) / 2 ^ (2 - b)) 1 = x
      have x0 : 0 ≤ x := by rw [← hx]; exact bits_lo_u8 _ _ _
      have x1 : x ≤ 255 := by rw [← hx]; exact bits_hi_u8 _ _ _
      have HX := Lib.hid hx
      clear hx
      have r8t : (p : Int).tmod 8 = (m : Int) := by rw [Int.tmod_eq_emod_of_nonneg (by omega)]; exact r8
      have t5 : (0 : Int) ≤ 1 + (j : Int) := by omega
      have t6 : 1 + (j : Int) < 16 := by omega
      have t7 : (1 + (j : Int)).toNat = 1 + j := by omega
      have t8 : (0 : Int) ≤ 7 - (m : Int) := by omega
      have t9 : 7 - (m : Int) ≤ 8 := by omega
      have t10 : (7 - (m : Int)).toNat = 7 - m := by omega
      go_still_tail 12, (by kernel_rfl)
      change wpList _ _ _ _ _ wr.drew
      have NX0 := bit_step HL.out HM.out HPI.out hb HPJ.out hm8 HII.out HX.out
      rw [IntKind.wrap_u8] at NX0
      have NX := Lib.hid NX0
      clear NX0
      have HG2 : Hid (wr.drew.heap[w.heap.size + 1]? = some (.cells (arr .u8 16 (cdF l p)) 117 (0, 0))) := HG
      have H02 : Hid (wr.drew.heap[w.heap.size]? = some (.cells (arr .u8 16 (fun _ => 0)) 117 (0, 0))) := H0
      have HB2 : Hid (Below w.heap.size w wr.drew) := Lib.hid HB.out.drew
      have hfj2 : wr.drew.frozen? ⟨w.heap.size + 1, 1 + j, none⟩ = false := hfj
      have hcj2 : wr.drew.cell? ⟨w.heap.size + 1, 1 + j, none⟩ = some (.int .u8 (cdF l p (1 + j))) := hcj
      clear HG H0 HB hfj hcj hc0
      generalize wr.drew = w2 at HG2 H02 HB2 hfj2 hcj2 ⊢
      go_wp2
      go_roundw
      case rel => exact ⟨p + 1, HLT.out, by go_num, by rw [heap_setCell_at HG2.out, NX.out], by rw [heap_setCell_far (by omega)]; exact H02.out, HB2.out.setCell (p := ⟨w.heap.size + 1, _, none⟩) (by simp) _⟩
      case measure => have := HLT.out; simp [intOf]; omega
    · obtain rfl : p = 3 * l.length := by omega
      have t1 : decide (((3 * l.length : Nat) : Int) < 3 * (l.length : Int)) = false := by simp
      clear hlt hp
      go_wp2_with (first | (refine wpList_load_row rfl 117 _ rfl (w.heap.size + 1) rfl 117 _ _ _ HG.out Try.underlying117 rfl (code_info _ (arr_size _ _ _)) ?_) | (refine wpList_store_row rfl 117 _ _ rfl w.heap.size (arr .u8 16 (cdF l (3 * l.length))) rfl rfl 117 _ H0.out (code_info _ (arr_size _ _ _)) (by rw [arr_size, arr_size]) (arr_cells _ _ _) ?_))
      refine bodyPost_ret (v := .agg (arr .u8 16 (cdF l (3 * l.length)))) ?_ rfl ⟨rfl, ?_⟩
      · exact results_cell_row Try.results137 _ _ w.heap.size _ _ _ _ rfl (setRow_heap _ _ _ _ _ _ H0.out) Try.underlying117 rfl (code_info _ (arr_size _ _ _))
      · exact below_setRow HB.out (Nat.le_refl _) _
end Go.Proofs.Ytkijgadkgfapgaa
/-
  CONTRACTS: CodeOfWord of the program and of the specification; the law.
-/
namespace Go.Proofs.Ytkijgadkgfapgaa
open Go.ChangeShapes Go.WideShapes Go.ChangeAt Go.RowKit
open Wd
/-- the code of a word; nothing but zeros if it is none -/
def codeF (l : List UInt8) : Nat → Int := if wordB l then cdF l (3 * l.length) else fun _ => 0
abbrev A16 (f : Nat → Int) : Array Value := #[.int .u8 (f 0), .int .u8 (f 1), .int .u8 (f 2), .int .u8 (f 3), .int .u8 (f 4), .int .u8 (f 5), .int .u8 (f 6), .int .u8 (f 7), .int .u8 (f 8), .int .u8 (f 9), .int .u8 (f 10), .int .u8 (f 11), .int .u8 (f 12), .int .u8 (f 13), .int .u8 (f 14), .int .u8 (f 15)]
theorem arr16 (f : Nat → Int) : arr .u8 16 f = A16 f := rfl
def CwPost (l : List UInt8) (w : World) (e : Ending) (w' : World) : Prop := e = .returned (.tuple #[.agg (arr .u8 16 (codeF l)), .int .i64 (if wordB l then 0 else 1)]) ∧ Below w.heap.size w w'
set_option maxRecDepth 100000 in
set_option maxHeartbeats 2000000 in
theorem icode_any (l : List UInt8) (hm : l.length ≤ 4000000) (w : World) : Calls Try.prog 171 #[.string (txt l)] w (CwPost l w) := by
  unfold CwPost codeF
  have A0 : Below w.heap.size w (w.alloc (.cells (arr .u8 16 (fun _ => 0)) 117)) := (Below.refl _ w).alloc (Nat.le_refl _) _
  have H0 : (w.alloc (.cells (arr .u8 16 (fun _ => 0)) 117)).heap[w.heap.size]? = some (.cells (arr .u8 16 (fun _ => 0)) 117 (0, 0)) := World.alloc_heap_new w _
  cases hb : wordB l
  · have hr := Lib.hid (read_no l hm hb)
    have A := Lib.hid A0
    have H := Lib.hid H0
    clear A0 H0
    go_enter Try.func171, Try.ntmps171
    go_wp2_with fail
    refine (hr.out _).mono ?_
    rintro e w2 ⟨rfl, B2⟩
    have H2 : Hid (w2.heap[w.heap.size]? = some (.cells (arr .u8 16 (fun _ => 0)) 117 (0, 0))) := Lib.hid ((B2.block _ (by simp)).trans H.out)
    have C2 : Hid (Below w.heap.size w w2) := Lib.hid (A.out.trans (B2.mono (by simp)))
    clear B2
    go_wp2_with (refine wpList_store_row rfl 117 _ _ rfl w.heap.size (arr .u8 16 (fun _ => 0)) rfl rfl 117 _ H2.out (code_info _ (arr_size _ _ _)) rfl (arr_cells _ _ _) ?_)
    refine bodyPost_ret (v := .tuple #[.agg (arr .u8 16 (fun _ => 0)), .int .i64 1]) ?_ rfl ⟨rfl, ?_⟩
    · exact results_cell_tmp_row Try.results171 _ _ w.heap.size _ _ _ _ rfl (setRow_heap _ _ _ _ _ _ H2.out) Try.underlying117 rfl (code_info _ (arr_size _ _ _))
    · exact below_setRow C2.out (Nat.le_refl _) _
  · have hr := Lib.hid (read_yes l hb)
    have HL := Lib.hid (wordB_lets hb)
    have hn := wordB_len hb
    have HN := Lib.hid hn
    have A := Lib.hid A0
    have H := Lib.hid H0
    clear A0 H0
    go_enter Try.func171, Try.ntmps171
    go_wp2_with fail
    refine (hr.out _).mono ?_
    rintro e w1 ⟨v, rfl, O, B⟩
    have hR := O.row
    obtain ⟨a0, cap0, rfl⟩ := hR.len
    have H1 : Hid (w1.heap[w.heap.size]? = some (.cells (arr .u8 16 (fun _ => 0)) 117 (0, 0))) := Lib.hid ((B.block _ (by simp)).trans H.out)
    have S1 : Hid (w.heap.size < w1.heap.size) := Lib.hid (by have := B.size; simp at this; omega)
    have C1 : Hid (Below w.heap.size w w1) := Lib.hid (A.out.trans (B.mono (by simp)))
    have CD := Lib.hid (coded_any _ l HL.out HN.out w1 hR)
    clear O B hR
    go_wp2_with fail
    refine CD.out.mono ?_
    rintro e w2 ⟨rfl, B2⟩
    have H2 : Hid (w2.heap[w.heap.size]? = some (.cells (arr .u8 16 (fun _ => 0)) 117 (0, 0))) := Lib.hid ((B2.block _ S1.out).trans H1.out)
    have C2 : Hid (Below w.heap.size w w2) := Lib.hid (C1.out.trans (B2.mono C1.out.size))
    clear B2
    go_wp2_with (refine wpList_store_row rfl 117 _ _ rfl w.heap.size (arr .u8 16 (cdF l (3 * l.length))) rfl rfl 117 _ H2.out (code_info _ (arr_size _ _ _)) (by rw [arr_size, arr_size]) (arr_cells _ _ _) ?_)
    refine bodyPost_ret (v := .tuple #[.agg (arr .u8 16 (cdF l (3 * l.length))), .int .i64 0]) ?_ rfl ⟨rfl, ?_⟩
    · exact results_cell_tmp_row Try.results171 _ _ w.heap.size _ _ _ _ rfl (setRow_heap _ _ _ _ _ _ H2.out) Try.underlying117 rfl (code_info _ (arr_size _ _ _))
    · exact below_setRow C2.out (Nat.le_refl _) _
end Go.Proofs.Ytkijgadkgfapgaa
/-
  CONTRACT: CodeOfWord of the specification.
-/
namespace Go.Proofs.Ytkijgadkgfapgaa
open Go.ChangeShapes Go.WideShapes Go.ChangeAt Go.RowKit
open Wd
theorem cdF_on {l : List UInt8} {p j m : Nat} (hpj : p = 8 * j + m) (hm8 : m < 8) (h : bitW l p = true) : (arr .u8 16 (cdF l p)).setIfInBounds (1 + j) (.int .u8 (bits .or .u8 (cdF l p (1 + j)) (2 ^ (7 - m)))) = arr .u8 16 (updI (cdF l p) (1 + j) (bits .or .u8 (cdF l p (1 + j)) (2 ^ (7 - m)))) ∨ 15 ≤ j := by
  rcases Nat.lt_or_ge j 15 with h | h
  · exact .inl (arr_set _ _ _ _ _ (by omega))
  · exact .inr h
theorem cdF_yes {l : List UInt8} {p j m : Nat} (hpj : p = 8 * j + m) (hm8 : m < 8) (hj : j < 15) (h : bitW l p = true) : (arr .u8 16 (cdF l p)).setIfInBounds (1 + j) (.int .u8 (bits .or .u8 (cdF l p (1 + j)) (2 ^ (7 - m)))) = arr .u8 16 (cdF l (p + 1)) := by
  rw [arr_set _ _ _ _ _ (by omega)]
  congr 1
  show _ = if bitW l p then updI (cdF l p) (1 + p / 8) (bits .or .u8 (cdF l p (1 + p / 8)) (2 ^ (7 - p % 8))) else cdF l p
  rw [if_pos h, show p / 8 = j by omega, show p % 8 = m by omega]
theorem cdF_no {l : List UInt8} {p : Nat} (h : bitW l p = false) : cdF l p = cdF l (p + 1) := by
  show _ = if bitW l p then updI (cdF l p) (1 + p / 8) (bits .or .u8 (cdF l p (1 + p / 8)) (2 ^ (7 - p % 8))) else cdF l p
  rw [h]; rfl
theorem pow_mod {m : Nat} (h : m < 8) : (2 : Int) ^ (7 - m) % 256 = 2 ^ (7 - m) := by
  have : m = 0 ∨ m = 1 ∨ m = 2 ∨ m = 3 ∨ m = 4 ∨ m = 5 ∨ m = 6 ∨ m = 7 := by omega
  rcases this with rfl | rfl | rfl | rfl | rfl | rfl | rfl | rfl <;> rfl
theorem and1_i64 {y : Int} (h0 : 0 ≤ y) (h1 : y < 256) : bits .and .i64 y 1 = y % 2 := by
  obtain ⟨n, rfl⟩ : ∃ n : Nat, y = n := ⟨y.toNat, by omega⟩
  have : ∀ n : Nat, n < 256 → bits .and .i64 (n : Int) 1 = (n : Int) % 2 := by decide +kernel
  exact this n (by omega)
set_option maxRecDepth 100000 in
set_option maxHeartbeats 4000000 in
theorem scode_any (l : List UInt8) (hm : l.length ≤ 4000000) (w : World) : Calls Try.prog 76 #[.string (txt l)] w (CwPost l w) := by
  unfold CwPost codeF
  have hs := txt_size l
  have OK := Lib.hid (fun w => ok_any l hm w)
  have Z : arr .u8 16 (fun _ => 0) = #[Value.int .u8 0, .int .u8 0, .int .u8 0, .int .u8 0, .int .u8 0, .int .u8 0, .int .u8 0, .int .u8 0, .int .u8 0, .int .u8 0, .int .u8 0, .int .u8 0, .int .u8 0, .int .u8 0, .int .u8 0, .int .u8 0] := rfl
  have S1 : ((w.alloc (.cells (arr .u8 16 (fun _ => 0)) 117)).alloc (.cells (arr .u8 16 (fun _ => 0)) 117)).heap[w.heap.size + 1]? = some (.cells (arr .u8 16 (fun _ => 0)) 117 (0, 0)) := by
    have := World.alloc_heap_new (w.alloc (.cells (arr .u8 16 (fun _ => 0)) 117)) (.cells (arr .u8 16 (fun _ => 0)) 117)
    rw [World.size_alloc] at this
    exact this
  have S0 : ((w.alloc (.cells (arr .u8 16 (fun _ => 0)) 117)).alloc (.cells (arr .u8 16 (fun _ => 0)) 117)).heap[w.heap.size]? = some (.cells (arr .u8 16 (fun _ => 0)) 117 (0, 0)) := (Below.heap_alloc _ _ _ (by simp)).trans (World.alloc_heap_new w (.cells (arr .u8 16 (fun _ => 0)) 117))
  have SB : Below w.heap.size w ((w.alloc (.cells (arr .u8 16 (fun _ => 0)) 117)).alloc (.cells (arr .u8 16 (fun _ => 0)) 117)) := ((Below.refl _ w).alloc (Nat.le_refl _) _).alloc (by simp) _
  have H1 := Lib.hid S1
  have H0 := Lib.hid S0
  have HB := Lib.hid SB
  clear S1 S0 SB
  rw [Z] at H1 H0 HB
  cases hb : wordB l
  · go_enter Try.func76, Try.ntmps76
    rw [hb] at OK
    clear Z
    go_wp2_with fail
    refine (OK.out _).mono ?_
    rintro e w' ⟨rfl, rfl⟩
    go_wp2_with (first | (refine wpList_load_row rfl 117 _ rfl (w.heap.size + 1) rfl 117 _ _ _ H1.out Try.underlying117 rfl (code_info _ rfl) ?_) | (refine wpList_store_row rfl 117 _ _ rfl w.heap.size _ rfl rfl 117 _ H0.out (code_info _ rfl) rfl rfl ?_))
    refine bodyPost_ret (v := .tuple #[.agg (arr .u8 16 (fun _ => 0)), .int .i64 1]) ?_ rfl ⟨rfl, ?_⟩
    · exact results_cell_tmp_row Try.results76 _ _ w.heap.size _ _ _ _ rfl H0.out Try.underlying117 rfl (code_info _ rfl)
    · exact HB.out
  · have HL := Lib.hid (wordB_lets hb)
    have hn := wordB_len hb
    have HN := Lib.hid hn
    have hm' : (l.length : Int) ≤ 40 := by omega
    go_enter Try.func76, Try.ntmps76
    rw [hb] at OK
    go_wp2_with fail
    refine (OK.out _).mono ?_
    rintro e w' ⟨rfl, rfl⟩
    have F1 : Hid (((w.alloc (.cells (arr .u8 16 (fun _ => 0)) 117)).alloc (.cells (arr .u8 16 (fun _ => 0)) 117)).frozen? ⟨w.heap.size + 1, 0, none⟩ = false) := Lib.hid (Lib.frozen_of_heap (by rw [Z]; exact H1.out) 0)
    have C1 : Hid (((w.alloc (.cells (arr .u8 16 (fun _ => 0)) 117)).alloc (.cells (arr .u8 16 (fun _ => 0)) 117)).cell? ⟨w.heap.size + 1, 0, none⟩ = some (.int .u8 0)) := Lib.hid ((Lib.cell_of_heap (by rw [Z]; exact H1.out) 0).trans rfl)
    rw [Z] at F1 C1
    clear Z
    generalize (w.alloc (.cells #[Value.int .u8 0, .int .u8 0, .int .u8 0, .int .u8 0, .int .u8 0, .int .u8 0, .int .u8 0, .int .u8 0, .int .u8 0, .int .u8 0, .int .u8 0, .int .u8 0, .int .u8 0, .int .u8 0, .int .u8 0, .int .u8 0] 117)).alloc (.cells #[Value.int .u8 0, .int .u8 0, .int .u8 0, .int .u8 0, .int .u8 0, .int .u8 0, .int .u8 0, .int .u8 0, .int .u8 0, .int .u8 0, .int .u8 0, .int .u8 0, .int .u8 0, .int .u8 0, .int .u8 0, .int .u8 0] 117) = w1 at H1 H0 HB F1 C1 ⊢
    have f1 := F1.out
    have c1 := C1.out
    go_wp2
    have G1 : Hid ((w1.setCell ⟨w.heap.size + 1, 0, none⟩ (.int .u8 (l.length : Int))).heap[w.heap.size + 1]? = some (.cells (arr .u8 16 (cdF l 0)) 117 (0, 0))) := Lib.hid (by rw [heap_setCell_at H1.out]; rfl)
    have G0 : Hid ((w1.setCell ⟨w.heap.size + 1, 0, none⟩ (.int .u8 (l.length : Int))).heap[w.heap.size]? = some (.cells (arr .u8 16 (fun _ => 0)) 117 (0, 0))) := Lib.hid (by rw [heap_setCell_far (by omega)]; exact H0.out)
    have GB : Hid (Below w.heap.size w (w1.setCell ⟨w.heap.size + 1, 0, none⟩ (.int .u8 (l.length : Int)))) := Lib.hid (HB.out.setCell (p := ⟨w.heap.size + 1, _, none⟩) (by simp) _)
    generalize w1.setCell ⟨w.heap.size + 1, 0, none⟩ (.int .u8 (l.length : Int)) = w2 at G1 G0 GB ⊢
    clear H1 H0 HB F1 C1 f1 c1 OK hn hm
    go_loopw [5] (fun z wr => ∃ i : Nat, i ≤ l.length ∧ z = .int .i64 (i : Int) ∧ wr.heap[w.heap.size + 1]? = some (.cells (arr .u8 16 (cdF l (3 * i))) 117 (0, 0)) ∧ wr.heap[w.heap.size]? = some (.cells (arr .u8 16 (fun _ => 0)) 117 (0, 0)) ∧ Below w.heap.size w wr) (fun z _ => l.length - (intOf z).toNat)
    case atStart => exact ⟨0, Nat.zero_le _, rfl, G1.out, G0.out, GB.out⟩
    case round =>
      obtain ⟨i, hi, rfl, hg, h0, hB⟩ := hrel
      have HG := Lib.hid hg
      have H0 := Lib.hid h0
      have HB := Lib.hid hB
      clear hg h0 hB G1 G0 GB
      by_cases hlt : i < l.length
      · have t1 : decide (i < l.length) = true := by simpa using hlt
        have hix := idx_txt l i hlt
        have HLT := Lib.hid hlt
        have IL : Hid (isL l[i] = true) := Lib.hid (HL.out _ (List.getElem_mem hlt))
        have BW : Hid (∀ b, b < 3 → bitW l (3 * i + b) = decide ((lnum l[i]).toNat / 2 ^ (2 - b) % 2 = 1)) := Lib.hid fun b hb => bitW_at rfl hb hlt
        have hlet := Lib.hid (letter_any l[i])
        obtain ⟨n0, n7⟩ := lnum_yes IL.out
        have hi' : (i : Int) ≤ 39 := by omega
        generalize l[i] = c at hix IL BW hlet n0 n7
        clear hlt hi
        go_wp2
        go_loopw [6] (fun z wr => ∃ b : Nat, b ≤ 3 ∧ z = .int .i64 (b : Int) ∧ wr.heap[w.heap.size + 1]? = some (.cells (arr .u8 16 (cdF l (3 * i + b))) 117 (0, 0)) ∧ wr.heap[w.heap.size]? = some (.cells (arr .u8 16 (fun _ => 0)) 117 (0, 0)) ∧ Below w.heap.size w wr) (fun z _ => 3 - (intOf z).toNat)
        case atStart => exact ⟨0, Nat.zero_le _, rfl, HG.out, H0.out, HB.out⟩
        case round =>
          obtain ⟨b, hb, rfl, hg, h0, hB⟩ := hrel
          have KG := Lib.hid hg
          have K0 := Lib.hid h0
          have KB := Lib.hid hB
          clear hg h0 hB HG H0 HB
          by_cases hb3 : b < 3
          · have t2 : decide ((b : Int) < 3) = true := by simp; omega
            obtain ⟨p, hp⟩ : ∃ p, p = 3 * i + b := ⟨_, rfl⟩
            have hpI : 3 * (i : Int) + (b : Int) = (p : Int) := by omega
            have BWb := BW.out b hb3
            rw [← hp] at KG BWb
            obtain ⟨j, m, hm8, hpj⟩ : ∃ j m, m < 8 ∧ p = 8 * j + m := ⟨p / 8, p % 8, by omega, by omega⟩
            have hj : j < 15 := by omega
            have HP := Lib.hid hp
            have HPJ := Lib.hid hpj
            have HB3 := Lib.hid hb3
            have q8 : (p : Int) / 8 = (j : Int) := by omega
            have r8 : (p : Int) % 8 = (m : Int) := by omega
            have hb' : (b : Int) ≤ 2 := by omega
            have hm8' : (m : Int) ≤ 7 := by omega
            have hj' : (j : Int) ≤ 14 := by omega
            have hp' : (p : Int) ≤ 119 := by omega
            have hcj : wr.cell? ⟨w.heap.size + 1, 1 + j, none⟩ = some (.int .u8 (cdF l p (1 + j))) := (Lib.cell_of_heap KG.out (1 + j)).trans (arr_get _ _ _ _ (by omega))
            have hfj : wr.frozen? ⟨w.heap.size + 1, 1 + j, none⟩ = false := Lib.frozen_of_heap KG.out (1 + j)
            obtain ⟨c0, c1⟩ := cdF_ok HN.out p (1 + j)
            have hd : lnum c / 2 ^ (2 - b) = (((lnum c).toNat / 2 ^ (2 - b) : Nat) : Int) := div_nat n0 _
            have hy := Nat.div_le_self (lnum c).toNat (2 ^ (2 - b))
            generalize (lnum c).toNat / 2 ^ (2 - b) = y at hd hy BWb
            have ha := and1_i64 (y := (y : Int)) (by omega) (by omega)
            cases hbw : bitW l p
            · have tb : (((y : Int) % 2) == 1) = false := by
                rw [beq_eq_false_iff_ne]
                rw [hbw] at BWb
                have := of_decide_eq_false BWb.symm
                omega
              have NX : Hid (cdF l p = cdF l (p + 1)) := Lib.hid (cdF_no hbw)
              clear hp hpj hb BWb hy hbw
              go_wp2_with (go_at_call 115; refine (hlet.out _).mono ?_; rintro e w' ⟨rfl, rfl⟩)
              go_roundw
              case rel => exact ⟨b + 1, HB3.out, by go_num, by rw [← Nat.add_assoc, ← HP.out, ← NX.out]; exact KG.out, K0.out, KB.out⟩
              case measure => have := HB3.out; simp [intOf]; omega
            · have tb : (((y : Int) % 2) == 1) = true := by
                rw [hbw] at BWb
                have := of_decide_eq_true BWb.symm
                simp
                omega
              have NX := Lib.hid (cdF_yes hpj hm8 hj hbw)
              have wp : Hid ((2 : Int) ^ (7 - m) % 256 = 2 ^ (7 - m)) := Lib.hid (pow_mod hm8)
              clear hp hpj hb BWb hy hbw
              go_wp2_with (go_at_call 115; refine (hlet.out _).mono ?_; rintro e w' ⟨rfl, rfl⟩)
              go_roundw
              case rel => exact ⟨b + 1, HB3.out, by go_num, by rw [← Nat.add_assoc, ← HP.out, heap_setCell_at KG.out, ← NX.out, wp.out], by rw [heap_setCell_far (by omega)]; exact K0.out, KB.out.setCell (p := ⟨w.heap.size + 1, _, none⟩) (by simp) _⟩
              case measure => have := HB3.out; simp [intOf]; omega
          · obtain rfl : b = 3 := by omega
            clear hb
            go_wp2
            go_roundw
            case rel => exact ⟨i + 1, HLT.out, by go_num, KG.out, K0.out, KB.out⟩
            case measure => have := HLT.out; simp [intOf]; omega
      · obtain rfl : i = l.length := by omega
        clear hlt hi
        go_wp2_with (first | (refine wpList_load_row rfl 117 _ rfl (w.heap.size + 1) rfl 117 _ _ _ HG.out Try.underlying117 rfl (code_info _ (arr_size _ _ _)) ?_) | (refine wpList_store_row rfl 117 _ _ rfl w.heap.size (arr .u8 16 (cdF l (3 * l.length))) rfl rfl 117 _ H0.out (code_info _ (arr_size _ _ _)) (by rw [arr_size, arr_size]) (arr_cells _ _ _) ?_))
        refine bodyPost_ret (v := .tuple #[.agg (arr .u8 16 (cdF l (3 * l.length))), .int .i64 0]) ?_ rfl ⟨rfl, ?_⟩
        · exact results_cell_tmp_row Try.results76 _ _ w.heap.size _ _ _ _ rfl (setRow_heap _ _ _ _ _ _ H0.out) Try.underlying117 rfl (code_info _ (arr_size _ _ _))
        · exact below_setRow HB.out (Nat.le_refl _) _
end Go.Proofs.Ytkijgadkgfapgaa
/-
  CONTRACTS: strings.Builder's WriteByte in this program (its copyCheck has an ending that the loader refuses: that way isn't gone).
-/
namespace Go.Proofs.Ytkijgadkgfapgaa
open Go.ChangeShapes Go.WideShapes Go.ChangeAt Go.RowKit
theorem bsize : (Try.prog.info? 228).map (fun i => i.size) = some 2 := by kernel_rfl
theorem blies : liesAt Try.prog Try.prog.depth 228 (2 / Try.prog.cellsOf 228) 0 228 1 = true := by kernel_rfl
set_option maxRecDepth 100000 in
set_option maxHeartbeats 1000000 in
theorem bcheck_used (b : Nat) (w : World) (h0 : w.cell? ⟨b, 0, none⟩ = some (.pointer (some ⟨b, 0, none⟩))) :
    Calls Try.prog 152 #[.pointer (some ⟨b, 0, none⟩)] w fun e w' => e = .returned (.tuple #[]) ∧ w' = w := by
  obtain ⟨j, hj, _⟩ := Option.map_eq_some_iff.1 bsize
  go_enter Try.func152, Try.ntmps152
  go_wp2
  rw [Lib.run_neq_ptr_same w _ Try.underlying226 hj]
  go_wp2
  go_end0
  exact ⟨rfl, rfl⟩
set_option maxRecDepth 100000 in
set_option maxHeartbeats 1000000 in
theorem bcheck_new (b : Nat) (w : World) (h0 : w.cell? ⟨b, 0, none⟩ = some (.pointer none)) (hsh : w.shape? b = some (228, 2)) (hfz : w.frozen? ⟨b, 0, none⟩ = false) :
    Calls Try.prog 152 #[.pointer (some ⟨b, 0, none⟩)] w fun e w' => e = .returned (.tuple #[]) ∧ w' = w.setCell ⟨b, 0, none⟩ (.pointer (some ⟨b, 0, none⟩)) := by
  obtain ⟨j, hj, hjs⟩ := Option.map_eq_some_iff.1 bsize
  go_enter Try.func152, Try.ntmps152
  go_wp2
  rw [Lib.run_to_unsafe w ⟨b, 0, none⟩ Try.underlying226 Try.underlying236 hj (by rw [hjs]; decide) hsh (Nat.zero_lt_succ 1)]
  simp only [Result.andThen]
  rw [Oper.upon_value]
  go_wp2
  rw [run_callFunc_extern Try.func153 (by kernel_rfl) (by kernel_rfl) (by kernel_rfl) (e := Extern.AbiNoEscape.same) (by kernel_rfl)]
  rw [Lib.run_noEscape]
  simp only [Result.andThen]
  rw [Oper.upon_value]
  go_wp2
  rw [Lib.run_from_unsafe w ⟨b, 0, none⟩ Try.underlying236 Try.underlying226 hj hsh blies]
  simp only [Result.andThen]
  rw [Oper.upon_value]
  go_wp2
  go_end0
  exact ⟨rfl, rfl⟩
/-- a builder in block b holds bs -/
abbrev Bld (B b : Nat) (bs : List Value) (w : World) : Prop := Lib.IsBuilder 228 5 B b bs w
theorem bcheck_any (B b : Nat) (bs : List Value) (w : World) (h : Bld B b bs w) :
    Calls Try.prog 152 #[.pointer (some ⟨b, 0, none⟩)] w fun e w' => e = .returned (.tuple #[]) ∧ Lib.BuilderAt 228 5 B b (.pointer (some ⟨b, 0, none⟩)) bs w' ∧ Below B w w' := by
  rcases h with h | h
  · refine (bcheck_new b w h.cell0 h.shape h.frozen0).mono ?_
    rintro e w' ⟨rfl, rfl⟩
    exact ⟨rfl, h.used _, (Below.refl B w).setCell (p := ⟨b, 0, none⟩) h.1 _⟩
  · refine (bcheck_used b w h.cell0).mono ?_
    rintro e w' ⟨rfl, rfl⟩
    exact ⟨rfl, h, Below.refl B _⟩
theorem binfo : (Try.prog.info? 5).map (fun i => (i.zero, i.size, i.bytes)) = some (some (.int .u8 0), 1, 1) := by kernel_rfl
set_option maxHeartbeats 2000000 in
theorem bwrite_any (B b : Nat) (bs : List Value) (c : Int) (w : World) (h : Bld B b bs w) (hlen : bs.length ≤ 100000000) (hBw : B ≤ w.heap.size) :
    Calls Try.prog 145 #[.pointer (some ⟨b, 0, none⟩), .int .u8 c] w fun e w' => e = .returned .nilIface ∧ Bld B b (bs ++ [.int .u8 c]) w' ∧ Below B w w' := by
  obtain ⟨i0, hi, hz0, hz1, hz2⟩ := info_parts binfo
  have hck := Lib.hid (bcheck_any B b bs w h)
  clear h
  go_enter Try.func145, Try.ntmps145
  go_wp2_with fail
  refine hck.out.mono ?_
  rintro e w1 ⟨rfl, h1, hb1⟩
  obtain ⟨hB, v, hbk, hown, hne⟩ := h1
  have c0 : w1.cell? ⟨b, 0, none⟩ = some (.pointer (some ⟨b, 0, none⟩)) := by rw [Lib.cell_of_heap hbk]; rfl
  have c1 : w1.cell? ⟨b, 1, none⟩ = some v := by rw [Lib.cell_of_heap hbk]; rfl
  have hs1 := hb1.size
  clear hck
  go_wp2_with (refine wpList_append_own _ rfl _ _ 45 rfl B 5 i0 (.int .u8 0) 1 1 Try.underlying45 hi hz0 hz1 hz2 rfl (by decide) _ _ _ rfl (hown.alloc _) ⟨w1.heap.size, 0, none⟩ 1 1 [.int .u8 c] rfl rfl ?c1 ?c2 ?c3 ?c4 ?c5 ?_)
  case c1 =>
    intro j u hj
    match j, hj with
    | 0, hj => simp at hj; subst hj; simp [Addr.add]
  case c2 => intro u hu; simp at hu; subst hu; rfl
  case c3 => unfold maxLen; omega
  case c4 => omega
  case c5 => simp; omega
  intro v' w2 hown' hgrow _
  have hlt : b < w1.heap.size := (Array.getElem?_eq_some_iff.1 hbk).1
  have hb2 : w2.heap[b]? = some (.cells #[.pointer (some ⟨b, 0, none⟩), v] 228 (0, 0)) := by
    rw [hgrow.block b (by simp; omega) (fun e => hne e.symm), Lib.alloc_old w1 _ b hlt]
    exact hbk
  have d0 : w2.cell? ⟨b, 0, none⟩ = some (.pointer (some ⟨b, 0, none⟩)) := by rw [Lib.cell_of_heap hb2]; rfl
  have d1 : w2.cell? ⟨b, 1, none⟩ = some v := by rw [Lib.cell_of_heap hb2]; rfl
  have f1 : w2.frozen? ⟨b, 1, none⟩ = false := Lib.frozen_of_heap hb2 1
  obtain ⟨g, cap, rfl⟩ : ∃ g cap, v' = .slice (some ⟨g, 0, none⟩) (bs.length + 1) cap := by
    rcases hown'.2 with ⟨_, h0⟩ | ⟨g, cap, cur, hv, _⟩
    · omega
    · exact ⟨g, cap, hv⟩
  go_wp2
  go_ret
  refine ⟨rfl, .inr ?_, ?_⟩
  · exact Lib.BuilderAt.put hB hb2 (bs' := bs ++ [.int .u8 c]) (by simpa using hown') (by decide)
  · exact ((hb1.alloc (by omega) _).grown hgrow (by simp; omega) (fun k hk => (hown.lt k hk).1)).setCell (p := ⟨b, 1, none⟩) hB _
end Go.Proofs.Ytkijgadkgfapgaa
/-
  THE SHELF's CONTRACTS AT THIS TRANSLATION (laid by the kit's programs): Try.Builder_String_any
-/
namespace Go.Proofs
open Go.Shelf
def Try.lays169_ren : Go.Shelf.Ren := ⟨fun | 169 => 146 | n => n, fun | 70 => 226 | 9 => 9 | 0 => 0 | 72 => 228 | 37 => 45 | 127 => 235 | 3 => 3 | 5 => 5 | n => n, fun | n => n⟩
theorem Try.lays169 : Go.Proofs.Lays.n169 Try.prog Try.lays169_ren := {
  mixed := by kernel_rfl
  f169 := Try.func146.trans (congrArg some (by kernel_rfl))
  t0 := Try.underlying0
  a0 := Try.isAgg0
  z0 := Try.sizeOf0
  v0 := Try.zeroValue0
  t3 := Try.underlying3
  a3 := Try.isAgg3
  z3 := Try.sizeOf3
  v3 := Try.zeroValue3
  t9 := Try.underlying9
  a9 := Try.isAgg9
  z9 := Try.sizeOf9
  v9 := Try.zeroValue9
  t37 := Try.underlying45
  a37 := Try.isAgg45
  z37 := Try.sizeOf45
  v37 := Try.zeroValue45
  t70 := Try.underlying226
  a70 := Try.isAgg226
  z70 := Try.sizeOf226
  v70 := Try.zeroValue226
  t72 := Try.underlying228
  a72 := Try.isAgg228
  z72 := Try.sizeOf228
  v72 := Try.zeroValue228
  t127 := Try.underlying235
  a127 := Try.isAgg235
  z127 := Try.sizeOf235
  v127 := Try.zeroValue235 }
theorem Try.Builder_Extra_169 : Builder.Extra Try.prog Try.lays169_ren := {
  sizeBuilder := by kernel_rfl
  liesBuilder := by kernel_rfl
  t5 := Try.underlying5
  a5 := Try.isAgg5
  z5 := Try.sizeOf5
  v5 := Try.zeroValue5
  infoByte := by kernel_rfl
  cellsByte := by kernel_rfl
  sizeByte := by kernel_rfl
  neB5 := by decide }
open Go.RowKit in
/-- (*strings.Builder).String: "String returns the accumulated string.": WHATEVER THE BUILDER HOLDS. (LAID: no walk: one application.) -/
theorem Try.Builder_String_any (B b : Nat) (l : List UInt8) (w : World) (h : Lib.IsBuilder 228 5 B b (Lib.byteCells l) w) (hBw : B ≤ w.heap.size) :
    Calls Try.prog 146 #[.pointer (some ⟨b, 0, none⟩)] w fun e w' => e = .returned (.string ⟨l.toArray⟩) ∧ Below B w w' := Any.Builder_String_any Try.lays169 Try.Builder_Extra_169 B b l w h hBw
end Go.Proofs
/-
  CONTRACTS: the program's (letters).text, (letters).limitedText.
-/
namespace Go.Proofs.Ytkijgadkgfapgaa
open Go.ChangeShapes Go.WideShapes Go.ChangeAt Go.RowKit
open Wd
theorem idx_num (c : UInt8) (hc : isL c = true) (w : World) :
    (Instr.index 9 (.string { data := #[97, 65, 98, 66, 99, 67, 100, 68] }) (.int .u8 (lnum c))).run Try.prog w = .ok (.int .u8 ((c.toNat : Nat) : Int)) w := by
  rcases lcases hc with rfl | rfl | rfl | rfl | rfl | rfl | rfl | rfl
  all_goals
    rw [run_index_string w 9 _ .u8 _ Try.underlying9, dif_pos ⟨by decide, by decide⟩]
    rfl
theorem bc_snoc (l : List UInt8) (k : Nat) (h : k < l.length) : Lib.byteCells (l.take k) ++ [.int .u8 (((l[k]'h).toNat : Nat) : Int)] = Lib.byteCells (l.take (k + 1)) := by
  rw [take_snoc l k h, Lib.byteCells, Lib.byteCells, List.map_append]; rfl
theorem bnew (w : World) : Bld w.heap.size w.heap.size [] (w.alloc (.cells #[.pointer none, .slice none 0 0] 228)) :=
  .inl ⟨Nat.le_refl _, .slice none 0 0, World.alloc_heap_new w _, World.ownsRow_nil _ _ _ _, by simp [Value.ownBlock]⟩
set_option maxRecDepth 100000 in
set_option maxHeartbeats 2000000 in
theorem itext_any (v : Value) (l : List UInt8) (hl : ∀ c ∈ l, isL c = true) (hm : l.length ≤ 4000000) (w : World) (hI : LRow w.heap.size w v l) :
    Calls Try.prog 138 #[v] w fun e w' => e = .returned (.string (txt l)) ∧ Below w.heap.size w w' := by
  obtain ⟨a0, cap0, rfl⟩ := hI.len
  have HI := Lib.hid hI
  have HL := Lib.hid hl
  have hm' : (l.length : Int) ≤ 4000000 := by omega
  clear hI hl
  go_enter Try.func138, Try.ntmps138
  go_wp2
  go_loopw [8] (fun i wr => ∃ k : Nat, k ≤ l.length ∧ i = .int .i64 (k : Int) ∧ Bld w.heap.size w.heap.size (Lib.byteCells (l.take k)) wr ∧ Below w.heap.size w wr) (fun i _ => l.length - (intOf i).toNat)
  case atStart => exact ⟨0, Nat.zero_le _, rfl, bnew w, (Below.refl _ w).alloc (Nat.le_refl _) _⟩
  case round =>
    obtain ⟨k, hk, rfl, hb, hB⟩ := hrel
    have BL := Lib.hid hb
    have BB := Lib.hid hB
    clear hb hB
    by_cases hlt : k < l.length
    · have t2 : decide (k < l.length) = true := by simpa using hlt
      obtain ⟨b, off, rfl, hcell⟩ : ∃ b o, a0 = some ⟨b, o, none⟩ ∧ wr.cell? ⟨b, o + k, none⟩ = some (.int .u8 (lnum (l[k]'hlt))) := by
        rcases HI.out with ⟨h, h'⟩ | ⟨b, o, c, h, hb, hc⟩
        · subst h'; simp at hlt
        · cases h; exact ⟨b, o, rfl, (BB.out.cell (p := ⟨b, o + k, none⟩) hb).trans (hc k hlt)⟩
      have hix := idx_num l[k] (HL.out _ (List.getElem_mem hlt))
      have HS := Lib.hid (bc_snoc l k hlt)
      have hwb := Lib.hid (bwrite_any w.heap.size w.heap.size (Lib.byteCells (l.take k)) (((l[k]'hlt).toNat : Nat) : Int) wr BL.out (by simp [Lib.byteCells]; omega) BB.out.size)
      have HK := Lib.hid hlt
      generalize l[k] = c at hcell hix HS hwb
      go_wp2_with (go_at_call 145; refine (hwb.out).mono ?_; rintro e w2 ⟨rfl, hb2, hB2⟩; have BL2 := Lib.hid hb2; have BB2 := Lib.hid hB2; clear hb2 hB2)
      go_roundw
      case rel => exact ⟨k + 1, HK.out, by go_num, by rw [← HS.out]; exact BL2.out, BB.out.trans BB2.out⟩
      case measure => have := HK.out; simp [intOf]; omega
    · obtain rfl : k = l.length := by omega
      have hst := Lib.hid (Try.Builder_String_any w.heap.size w.heap.size l wr (by have := BL.out; rwa [List.take_length] at this) BB.out.size)
      go_wp2_with (go_at_call 146; refine (hst.out).mono ?_; rintro e w2 ⟨rfl, hB2⟩)
      go_ret
      exact ⟨rfl, BB.out.trans hB2⟩
end Go.Proofs.Ytkijgadkgfapgaa
/-
  CONTRACT: WordOfCode of the program.
-/
namespace Go.Proofs.Ytkijgadkgfapgaa
open Go.ChangeShapes Go.WideShapes Go.ChangeAt Go.RowKit
open Wd
/-- the bit of a code at a place -/
def bitC (f : Nat → Int) (p : Nat) : Nat := (f (1 + p / 8)).toNat / 2 ^ (7 - p % 8) % 2
/-- the number of a letter by its first bits -/
def numP (f : Nat → Int) (i : Nat) : Nat → Nat
  | 0 => 0
  | b + 1 => 2 * numP f i b + bitC f (3 * i + b)
theorem bitC_lt (f : Nat → Int) (p : Nat) : bitC f p ≤ 1 := by have := Nat.mod_lt ((f (1 + p / 8)).toNat / 2 ^ (7 - p % 8)) (show 0 < 2 by omega); unfold bitC; omega
theorem numP_lt (f : Nat → Int) (i : Nat) : numP f i 1 ≤ 1 ∧ numP f i 2 ≤ 3 ∧ numP f i 3 ≤ 7 := by
  have h0 := bitC_lt f (3 * i + 0)
  have h1 := bitC_lt f (3 * i + 1)
  have h2 := bitC_lt f (3 * i + 2)
  simp only [numP]
  omega
theorem numP_b (f : Nat → Int) (i b : Nat) (hb : b ≤ 2) : numP f i b ≤ 3 := by
  have := numP_lt f i
  have : b = 0 ∨ b = 1 ∨ b = 2 := by omega
  rcases this with rfl | rfl | rfl
  · simp [numP]
  · omega
  · omega
/-- the word of a code's bits -/
def wcL (f : Nat → Int) (n : Nat) : List UInt8 := (List.range n).map fun i => chr (numP f i 3)
theorem wcL_length (f : Nat → Int) (n : Nat) : (wcL f n).length = n := by simp [wcL]
theorem wcL_letters (f : Nat → Int) (n : Nat) : ∀ c ∈ wcL f n, isL c = true := by
  intro c hc
  simp only [wcL, List.mem_map] at hc
  obtain ⟨i, _, rfl⟩ := hc
  exact isL_chr _
theorem wcL_at (f : Nat → Int) (n i : Nat) (h : i < (wcL f n).length) : (wcL f n)[i] = chr (numP f i 3) := by simp [wcL]
/-- the row when the first places have been read -/
def rvF (f : Nat → Int) (p : Nat) : Nat → Int := fun k => (numP f k (min 3 (p - 3 * k)) : Int)
theorem rvF_zero (f : Nat → Int) (n : Nat) : arr .u8 n (rvF f 0) = arr .u8 n (fun _ => 0) := arr_congr fun i _ => by simp [rvF, numP]
theorem rvF_at (f : Nat → Int) {p i b : Nat} (hp : p = 3 * i + b) (hb : b < 3) : rvF f p i = (numP f i b : Int) := by
  unfold rvF
  rw [show min 3 (p - 3 * i) = b by omega]
theorem rvF_step (f : Nat → Int) {p i b : Nat} (hp : p = 3 * i + b) (hb : b < 3) (n : Nat) (hi : i < n) : (arr .u8 n (rvF f p)).setIfInBounds i (.int .u8 ((2 * numP f i b + bitC f p : Nat) : Int)) = arr .u8 n (rvF f (p + 1)) := by
  rw [arr_set _ _ _ _ _ hi]
  refine arr_congr fun k hk => ?_
  unfold updI
  split
  · rename_i h
    subst h
    unfold rvF
    rw [show min 3 (p + 1 - 3 * k) = b + 1 by omega]
    show _ = ((2 * numP f k b + bitC f (3 * k + b) : Nat) : Int)
    rw [hp]
  · rename_i h
    unfold rvF
    by_cases h2 : k < i
    · rw [show min 3 (p - 3 * k) = 3 by omega, show min 3 (p + 1 - 3 * k) = 3 by omega]
    · rw [show min 3 (p - 3 * k) = 0 by omega, show min 3 (p + 1 - 3 * k) = 0 by omega]
theorem rvF_end (f : Nat → Int) {n k : Nat} (hk : k < n) : rvF f (3 * n) k = lnum (chr (numP f k 3)) := by
  unfold rvF
  rw [show min 3 (3 * n - 3 * k) = 3 by omega, lnum_chr (by have := numP_lt f k; omega)]
theorem bitC_val {f : Nat → Int} {p j m : Nat} (hp : p = 8 * j + m) (hm : m < 8) (h : 0 ≤ f (1 + j) ∧ f (1 + j) ≤ 255) : bits .and .u8 (f (1 + j) / 2 ^ (7 - m)) 1 = (bitC f p : Int) := by
  have hd := div_nat h.1 (7 - m)
  have hy := Nat.div_le_self (f (1 + j)).toNat (2 ^ (7 - m))
  unfold bitC
  rw [show p / 8 = j by omega, show p % 8 = m by omega, hd]
  generalize (f (1 + j)).toNat / 2 ^ (7 - m) = y at hy
  rw [and1_u8 (by omega) (by omega)]
  push_cast
  rfl
theorem or_low {v x : Nat} (hv : v ≤ 3) (hx : x ≤ 1) : bits .or .u8 ((v : Int) * 2) (x : Int) = ((2 * v + x : Nat) : Int) := by
  have h1 : v = 0 ∨ v = 1 ∨ v = 2 ∨ v = 3 := by omega
  have h2 : x = 0 ∨ x = 1 := by omega
  rcases h1 with rfl | rfl | rfl | rfl <;> rcases h2 with rfl | rfl <;> decide
/-- a code of a word -/
def wocOk (f : Nat → Int) : Bool := decide (f 0 ≤ 40) && (List.range 16).all fun i => cdF (wcL f (f 0).toNat) (3 * (f 0).toNat) i == f i
def WocPost (f : Nat → Int) (w : World) : Ending → World → Prop := TextPost (if wocOk f then wcL f (f 0).toNat else []) (if wocOk f then 0 else 5) w
set_option maxRecDepth 100000 in
set_option maxHeartbeats 8000000 in
theorem iwoc_any (f : Nat → Int) (hf : ∀ i, i < 16 → 0 ≤ f i ∧ f i ≤ 255) (w : World) : Calls Try.prog 118 #[.agg (arr .u8 16 f)] w (WocPost f w) := by
  unfold WocPost
  have HF := Lib.hid hf
  obtain ⟨a0, a1⟩ := hf 0 (by omega)
  have b0 : Below w.heap.size w (w.alloc (.cells (arr .u8 16 f) 117)) := (Below.refl _ w).alloc (Nat.le_refl _) _
  have h0 : (w.alloc (.cells (arr .u8 16 f) 117)).heap[w.heap.size]? = some (.cells (arr .u8 16 f) 117 (0, 0)) := World.alloc_heap_new w _
  have c0 : (w.alloc (.cells (arr .u8 16 f) 117)).cell? ⟨w.heap.size, 0, none⟩ = some (.int .u8 (f 0)) := (Lib.cell_of_heap h0 0).trans (arr_get _ _ _ _ (by omega))
  have B0 := Lib.hid b0
  have H0 := Lib.hid h0
  have S0 : Hid ((w.alloc (.cells (arr .u8 16 f) 117)).heap.size = w.heap.size + 1) := Lib.hid (by simp)
  clear b0 h0 hf
  by_cases h40 : f 0 ≤ 40
  · obtain ⟨n, hn⟩ : ∃ n : Nat, f 0 = n := ⟨(f 0).toNat, by omega⟩
    rw [hn] at c0
    have HN := Lib.hid hn
    have hn' : (n : Int) ≤ 40 := by omega
    have hmk : ∀ w, (Instr.makeSlice 162 (.int .i64 (n : Int)) (.int .i64 (n : Int))).run Try.prog w = .ok (.slice (some ⟨w.heap.size, 0, none⟩) n n) (w.alloc (.cells (arr .u8 n (rvF f 0)) 216)) := fun w => by
      have := make_let [] n (by omega) w
      have e : rowLw [] 0 n = arr .u8 n (rvF f 0) := by
        rw [rvF_zero]
        unfold rowLw arr
        simp
      rw [this, e]
    clear hn a0 a1 h40
    go_enter Try.func118, Try.ntmps118
    generalize hPP : TextPost (if wocOk f = true then wcL f (f 0).toNat else []) (if wocOk f = true then 0 else 5) w = PP
    have HPP := Lib.hid hPP
    clear hPP
    generalize hW1 : w.alloc (.cells (arr .u8 16 f) 117) = w1 at *
    go_wp2
    clear hW1 c0
    go_loopw [17] (fun i wr => ∃ p : Nat, p ≤ 3 * n ∧ i = .int .i64 (p : Int) ∧ wr.heap[w1.heap.size]? = some (.cells (arr .u8 n (rvF f p)) 216 (0, 0)) ∧ Below w1.heap.size w1 wr) (fun i _ => 3 * n - (intOf i).toNat)
    case atStart => exact ⟨0, Nat.zero_le _, rfl, World.alloc_heap_new w1 _, (Below.refl _ w1).alloc (Nat.le_refl _) _⟩
    case round =>
      obtain ⟨p, hp, rfl, hg, hB⟩ := hrel
      have HG := Lib.hid hg
      have HB := Lib.hid hB
      clear hg hB
      by_cases hlt : p < 3 * n
      · obtain ⟨i, b, hb, hpi⟩ : ∃ i b, b < 3 ∧ p = 3 * i + b := ⟨p / 3, p % 3, by omega, by omega⟩
        obtain ⟨j, m, hm8, hpj⟩ : ∃ j m, m < 8 ∧ p = 8 * j + m := ⟨p / 8, p % 8, by omega, by omega⟩
        have hi : i < n := by omega
        have hj : j < 15 := by omega
        have hcj : wr.cell? ⟨w.heap.size, 1 + j, none⟩ = some (.int .u8 (f (1 + j))) := (HB.out.cell (p := ⟨w.heap.size, 1 + j, none⟩) (by have := S0.out; show w.heap.size < _; omega)).trans ((Lib.cell_of_heap H0.out (1 + j)).trans (arr_get _ _ _ _ (by omega)))
        have hci : wr.cell? ⟨w1.heap.size, i, none⟩ = some (.int .u8 (numP f i b : Int)) := (Lib.cell_of_heap HG.out i).trans ((arr_get _ _ _ _ hi).trans (by rw [rvF_at f hpi hb]))
        have hfi : wr.frozen? ⟨w1.heap.size, i, none⟩ = false := Lib.frozen_of_heap HG.out i
        obtain ⟨c0, c1⟩ := HF.out (1 + j) (by omega)
        have hbv := bitC_val hpj hm8 ⟨c0, c1⟩
        have hb1 := bitC_lt f p
        have hnb := numP_b f i b (by omega)
        have hor := or_low hnb hb1
        push_cast at hor
        have ST0 := rvF_step f hpi hb n hi
        push_cast at ST0
        have ST := Lib.hid ST0
        clear ST0
        have q3 : (p : Int) / 3 = (i : Int) := by omega
        have q8 : (p : Int) / 8 = (j : Int) := by omega
        have r8 : (p : Int) % 8 = (m : Int) := by omega
        have t1 : decide ((p : Int) < 3 * (n : Int)) = true := by simp; omega
        have HLT := Lib.hid hlt
        have hm8' : (m : Int) ≤ 7 := by omega
        have hi' : (i : Int) < (n : Int) := by omega
        have hj' : (j : Int) ≤ 14 := by omega
        have hp' : (p : Int) ≤ 120 := by omega
        have hx1 : (bitC f p : Int) ≤ 1 := by omega
        have hx3 : (numP f i b : Int) ≤ 3 := by omega
        clear hlt hp hpi hpj hb hb1 hnb
        generalize numP f i b = v at *
        generalize bitC f p = x at *
        go_wp2
        go_roundw
        case rel => exact ⟨p + 1, HLT.out, by go_num, by rw [heap_setCell_at HG.out, ST.out], HB.out.setCell (p := ⟨w1.heap.size, _, none⟩) (Nat.le_refl _) _⟩
        case measure => have := HLT.out; simp [intOf]; omega
      · obtain rfl : p = 3 * n := by omega
        clear hlt hp
        have LR : Hid (LRow wr.heap.size wr (.slice (some ⟨w1.heap.size, 0, none⟩) n n) (wcL f n)) := Lib.hid (.inr ⟨w1.heap.size, 0, n, by rw [wcL_length], (Array.getElem?_eq_some_iff.1 HG.out).1, fun j hj => by
          have hj' : j < n := by rw [wcL_length] at hj; exact hj
          rw [Nat.zero_add, wcL_at]
          refine (Lib.cell_of_heap HG.out j).trans ((arr_get _ _ _ _ hj').trans ?_)
          rw [rvF_end f hj']⟩)
        have WL := Lib.hid (wcL_letters f n)
        have WN := wcL_length f n
        have CD : Hid (∀ w', Below wr.heap.size wr w' → Calls Try.prog 137 #[.slice (some ⟨w1.heap.size, 0, none⟩) n n] w' fun e w'' => e = .returned (.agg (arr .u8 16 (cdF (wcL f n) (3 * n)))) ∧ Below w'.heap.size w' w'') := Lib.hid fun w' hb => by
          have := coded_any _ (wcL f n) WL.out (by rw [WN]; omega) w' ((LR.out.below hb).up hb.size)
          rwa [WN] at this
        have TX : Hid (∀ w', Below wr.heap.size wr w' → Calls Try.prog 138 #[.slice (some ⟨w1.heap.size, 0, none⟩) n n] w' fun e w'' => e = .returned (.string (txt (wcL f n))) ∧ Below w'.heap.size w' w'') := Lib.hid fun w' hb => itext_any _ (wcL f n) WL.out (by rw [WN]; omega) w' ((LR.out.below hb).up hb.size)
        have OKQ : Hid (wocOk f = (List.range 16).all fun i => cdF (wcL f n) (3 * n) i == f i) := Lib.hid (by unfold wocOk; rw [HN.out, Int.toNat_natCast, decide_eq_true hn', Bool.true_and])
        have HB2 : Hid (Below w.heap.size w wr) := Lib.hid (B0.out.trans (HB.out.mono B0.out.size))
        have R0 : Hid (∀ w', Below wr.heap.size wr w' → w'.heap[w.heap.size]? = some (.cells (arr .u8 16 f) 117 (0, 0))) := Lib.hid fun w' hb => by
          have hlt : w.heap.size < w1.heap.size := by have := S0.out; omega
          rw [hb.block _ (Nat.lt_of_lt_of_le hlt HB.out.size), HB.out.block _ hlt]; exact H0.out
        obtain ⟨cs, hcs⟩ : ∃ cs : List Value, cs = (List.range 16).map fun i => Value.int .u8 (f i) := ⟨_, rfl⟩
        have KA : ∀ w', Below wr.heap.size wr w' → Below wr.heap.size wr w' ∧ w'.rangeAt w.heap.size 0 cs := fun w' hb => ⟨hb, fun j v hv => by
          rw [hcs] at hv
          rw [Nat.zero_add]
          exact (Lib.cell_of_heap (R0.out w' hb) j).trans (by unfold arr; simpa using hv)⟩
        have UL := Try.underlying117
        have IF : (Try.prog.info? 117).map (·.size) = some cs.length := by rw [hcs, List.length_map, List.length_range]; kernel_rfl
        have hS : ∀ w, (Op.equalIn 10000 117 (.agg (arr .u8 16 (cdF (wcL f n) (3 * n)))) (.agg cs.toArray)).run Try.prog w = .ok (wocOk f) w := fun w => by
          rw [OKQ.out, hcs]
          exact eqArrI (P := Try.prog) (t := 117) (q := .u8) _ f Try.underlying117 Try.underlying5 (by kernel_rfl) w
        have FIN : Hid (∀ w', Below wr.heap.size wr w' → PP (.returned (.tuple #[.string (txt (if wocOk f then wcL f n else [])), .int .i64 (if wocOk f then 0 else 5)])) w') := Lib.hid fun w' hb => by
          rw [← HPP.out, HN.out, Int.toNat_natCast]
          exact ⟨rfl, HB2.out.trans (hb.mono HB2.out.size)⟩
        clear OKQ HPP R0 LR HB HB2 HG HN hcs
        generalize cdF (wcL f n) (3 * n) = cf at *
        generalize wcL f n = wl at *
        go_wp2
        cases hok : wocOk f
        · rw [hok] at hS FIN
          go_region_held3 (fun w' => Below wr.heap.size wr w' ∧ w'.rangeAt w.heap.size 0 cs)
            (first | exact KA _ (Below.refl _ _).drew | exact KA _ ((Below.refl _ _).drew.trans (Below.mono (by assumption) (by simp))))
            (first | (go_at_call 137; refine (CD.out _ (Below.refl _ _).drew).mono ?_; rintro e w' ⟨rfl, hb⟩))
          rename_i hH
          have HH := Lib.hid hH.1
          have F2 : Hid (∀ w', Below wr.heap.size wr w' → PP (.returned (.tuple #[.string (⟨#[]⟩ : ByteArray), .int .i64 5])) w') := FIN
          clear hH hb FIN
          go_wp2
          exact F2.out _ HH.out
        · rw [hok] at hS FIN
          go_region_held3 (fun w' => Below wr.heap.size wr w' ∧ w'.rangeAt w.heap.size 0 cs)
            (first | exact KA _ (Below.refl _ _).drew | exact KA _ ((Below.refl _ _).drew.trans (Below.mono (by assumption) (by simp))))
            (first | (go_at_call 137; refine (CD.out _ (Below.refl _ _).drew).mono ?_; rintro e w' ⟨rfl, hb⟩))
          rename_i hH
          have HH := Lib.hid hH.1
          have F2 : Hid (∀ w', Below wr.heap.size wr w' → PP (.returned (.tuple #[.string (txt wl), .int .i64 0])) w') := FIN
          clear hH hb FIN
          have T2 := Lib.hid (TX.out w' HH.out)
          go_wp2_with fail
          refine T2.out.mono ?_
          rintro e w2 ⟨rfl, B2⟩
          have H3 : Hid (Below wr.heap.size wr w2) := Lib.hid (HH.out.trans (B2.mono HH.out.size))
          clear B2 T2
          go_wp2
          exact F2.out _ H3.out
  · have hw : wocOk f = false := by unfold wocOk; rw [decide_eq_false h40, Bool.false_and]
    rw [hw, if_neg (by simp), if_neg (by simp)]
    have t1 : decide ((40 : Int) < f 0) = true := by simp; omega
    clear hw
    go_enter Try.func118, Try.ntmps118
    go_wp2
    go_ret2
    exact ⟨rfl, B0.out⟩
end Go.Proofs.Ytkijgadkgfapgaa
/-
  THE SOURCE OF CHOICES (l00From, next, pick): what is drawn lies within its bounds.
-/
namespace Go.Proofs.Ytkijgadkgfapgaa
open Go.ChangeShapes Go.WideShapes Go.ChangeAt Go.RowKit
/-- the bytes of a slice that came in: blocks below B -/
def BRow (B : Nat) (w : World) (a : Option Addr) (len : Nat) : Prop :=
  len = 0 ∨ ∃ b off, a = some ⟨b, off, none⟩ ∧ b < B ∧ ∀ i, i < len → ∃ c : Int, 0 ≤ c ∧ c ≤ 255 ∧ w.cell? ⟨b, off + i, none⟩ = some (.int .u8 c)
theorem BRow.below {B : Nat} {w w' : World} {a : Option Addr} {len : Nat} (h : BRow B w a len) (hb : Below B w w') : BRow B w' a len := by
  rcases h with h | ⟨b, off, h1, h2, h3⟩
  · exact .inl h
  · refine .inr ⟨b, off, h1, h2, fun i hi => ?_⟩
    obtain ⟨c, c0, c1, c2⟩ := h3 i hi
    exact ⟨c, c0, c1, by rw [hb.cell (p := ⟨b, off + i, none⟩) h2]; exact c2⟩
/-- only block p is written -/
def Only (p : Nat) (w w' : World) : Prop := w.grownBy w' (some p)
theorem Only.refl (p : Nat) (w : World) : Only p w w := ⟨rfl, rfl, rfl, Nat.le_refl _, fun _ _ _ => rfl⟩
theorem Only.trans {p : Nat} {w w1 w2 : World} (h : Only p w w1) (k : Only p w1 w2) : Only p w w2 :=
  ⟨k.os.trans h.os, k.tape.trans h.tape, k.output.trans h.output, Nat.le_trans h.size k.size, fun j hj hn => (k.block j (Nat.lt_of_lt_of_le hj h.size) hn).trans (h.block j hj hn)⟩
theorem Only.drewN {p : Nat} {w w1 : World} (h : Only p w w1) (n : Nat) : Only p w (w1.drewN n) := ⟨h.os, h.tape, h.output, h.size, h.block⟩
theorem Only.setCell {p o : Nat} {w w1 : World} (h : Only p w w1) (v : Value) : Only p w (w1.setCell ⟨p, o, none⟩ v) :=
  ⟨h.os, h.tape, h.output, by simpa using h.size, fun j hj hn => by
    rw [← h.block j hj hn]
    exact Below.heap_setCell _ _ _ j (by intro e; apply hn; rw [e])⟩
theorem Only.alloc {p : Nat} {w w1 : World} (h : Only p w w1) (o : Obj) : Only p w (w1.alloc o) :=
  ⟨h.os, h.tape, h.output, by simp; exact Nat.le_succ_of_le h.size, fun j hj hn => by
    rw [← h.block j hj hn]
    exact ((Below.refl w1.heap.size w1).alloc (Nat.le_refl _) o).block j (Nat.lt_of_lt_of_le hj h.size)⟩
theorem Only.cell {p : Nat} {w w1 : World} (h : Only p w w1) {q : Addr} {v : Value} (hc : w.cell? q = some v) (hn : q.block ≠ p) : w1.cell? q = some v :=
  World.grownBy.cell h hc (by intro e; cases e; exact hn rfl)
theorem Only.below {p B : Nat} {w w1 : World} (h : Only p w w1) (hB : B ≤ p) (hw : B ≤ w.heap.size) : Below B w w1 :=
  ⟨h.os, h.tape, h.output, h.size, fun j hj => h.block j (by omega) (by intro e; cases e; omega)⟩
theorem and255 (x : Int) (h0 : 0 ≤ x) (h1 : x ≤ 18446744073709551615) : 0 ≤ bits .and .u64 x 255 ∧ bits .and .u64 x 255 ≤ 255 := by
  obtain ⟨n, rfl⟩ : ∃ n : Nat, x = n := ⟨x.toNat, by omega⟩
  rw [show (255 : Int) = ((255 : Nat) : Int) from rfl, bits_and_u64_nat n 255 (by omega) (by omega)]
  have := Nat.and_le_right (n := n) (m := 255)
  omega
theorem row3 {w : World} {p : Nat} {v x y x' y' : Value} {t : TypeId} (h : w.heap[p]? = some (.cells #[v, x, y] t (0, 0))) :
    ((w.setCell ⟨p, 1, none⟩ x').setCell ⟨p, 2, none⟩ y').heap[p]? = some (.cells #[v, x', y'] t (0, 0)) := by
  simp only [World.setCell, Array.getElem?_modify, ↓reduceIte, h, Option.map_some]
  rfl
theorem wrap64_in (n : Int) : 0 ≤ IntKind.u64.wrap n ∧ IntKind.u64.wrap n ≤ 18446744073709551615 := by
  rw [IntKind.wrap_u64]; omega
end Go.Proofs.Ytkijgadkgfapgaa
/-
  WHAT THE TEXTS ON NUMBERS STAND ON; a float stored into a cell.
-/
namespace Go.Proofs.Ytkijgadkgfapgaa
open Go.ChangeShapes Go.WideShapes Go.ChangeAt Go.RowKit Go.Deep
@[go_sem] theorem run_store_float {P : Program} {w : World} {a : Addr} {m : Mode} (k : FloatKind) (b : Nat) : (store a (.float k b) m).run P w = stored P w a (.float k b) m := run_store P w a _ m rfl
end Go.Proofs.Ytkijgadkgfapgaa
/-
  CONTRACTS: words that are drawn from bytes (l05Drawn, A2Word), numbers that depend on bytes (a2At), append of bytes.
-/
namespace Go.Proofs.Ytkijgadkgfapgaa
open Go.ChangeShapes Go.WideShapes Go.ChangeAt Go.RowKit
open Wd
theorem Only.of_below {p : Nat} {w w' : World} (h : Below w.heap.size w w') : Only p w w' := ⟨h.os, h.tape, h.output, h.size, fun j hj _ => h.block j hj⟩
theorem brow_later' {w w' : World} {a : Option Addr} {len : Nat} (h : BRow w.heap.size w a len) (hb : Below w.heap.size w w') : BRow w'.heap.size w' a len := by
  rcases h with h | ⟨b, off, h1, h2, h3⟩
  · exact .inl h
  · refine .inr ⟨b, off, h1, Nat.lt_of_lt_of_le h2 hb.size, fun i hi => ?_⟩
    obtain ⟨c, c0, c1, c2⟩ := h3 i hi
    exact ⟨c, c0, c1, by rw [hb.cell (p := ⟨b, off + i, none⟩) h2]; exact c2⟩
theorem fslice_lz (v : List UInt8) (a b : Nat) (h1 : a ≤ b) (h2 : b ≤ v.length) (x y : Int) (hx : x = (a : Int)) (hy : y = (b : Int)) (w : World) : (Instr.slice 9 (.string (txt v)) (some (.int .i64 x)) (some (.int .i64 y)) none).run Try.prog w = .ok (.string (txt ((v.drop a).take (b - a)))) w := by
  subst hx hy
  have hs := txt_size v
  have he : (txt v).extract a b = txt ((v.drop a).take (b - a)) := by apply ByteArray.ext; simp [txt]
  rw [run_slice_string w 9 (txt v) .i64 .i64 a b Try.underlying9 (by omega) (by omega) (by omega)]
  simp [he]
/-- a letter of the constant text, cut out -/
theorem fslice_one (K : Nat) (hK : K ≤ 7) : ∃ c : UInt8, isL c = true ∧ ∀ w : World, (Instr.slice 9 (.string (⟨#[97, 65, 98, 66, 99, 67, 100, 68]⟩ : ByteArray)) (some (.int .i64 (K : Int))) (some (.int .i64 ((K : Int) + 1))) none).run Try.prog w = .ok (.string (txt [c])) w := by
  have H := fun w => fslice_lz [97, 65, 98, 66, 99, 67, 100, 68] K (K + 1) (by omega) (by simp; omega) (K : Int) ((K : Int) + 1) rfl (by push_cast; rfl) w
  have : K = 0 ∨ K = 1 ∨ K = 2 ∨ K = 3 ∨ K = 4 ∨ K = 5 ∨ K = 6 ∨ K = 7 := by omega
  rcases this with rfl | rfl | rfl | rfl | rfl | rfl | rfl | rfl
  · exact ⟨97, rfl, H⟩
  · exact ⟨65, rfl, H⟩
  · exact ⟨98, rfl, H⟩
  · exact ⟨66, rfl, H⟩
  · exact ⟨99, rfl, H⟩
  · exact ⟨67, rfl, H⟩
  · exact ⟨100, rfl, H⟩
  · exact ⟨68, rfl, H⟩
/-- a word of at most m letters -/
def WordPost (m : Nat) (w : World) (e : Ending) (w' : World) : Prop := (∃ l : List UInt8, (∀ c ∈ l, isL c = true) ∧ l.length ≤ m ∧ e = .returned (.string (txt l))) ∧ Below w.heap.size w w'
/-- the bytes of a row -/
theorem brow_list {B : Nat} {w : World} {b : Addr} {len : Nat} (h : BRow B w (some b) len) : ∃ l : List UInt8, l.length = len ∧ ∀ (j : Nat) (u : Value), (bytesC l)[j]? = some u → w.cell? (b.add j) = some u := by
  rcases h with rfl | ⟨g, off, e, -, hc⟩
  · exact ⟨[], rfl, fun j u hu => by simp [bytesC] at hu⟩
  · cases e
    refine ⟨(List.range len).map fun i => (match w.cell? ⟨g, off + i, none⟩ with | some (.int _ c) => c.toNat.toUInt8 | _ => 0), by simp, fun j u hu => ?_⟩
    have hj : j < len := by
      rcases Nat.lt_or_ge j len with h | h
      · exact h
      · rw [List.getElem?_eq_none (by simp [bytesC]; exact h)] at hu; cases hu
    obtain ⟨c, c0, c1, hcc⟩ := hc j hj
    have : (bytesC ((List.range len).map fun i => (match w.cell? ⟨g, off + i, none⟩ with | some (.int _ c) => c.toNat.toUInt8 | _ => 0)))[j]? = some (.int .u8 c) := by
      simp only [bytesC, List.getElem?_map, List.getElem?_range hj, Option.map_some, hcc]
      congr 2
      simp
      omega
    rw [this] at hu
    cases hu
    rw [Go.WideShapes.add_plain]
    exact hcc
/-- 'append([]byte{c}, more...)' -/
theorem wpList_append_pre {ops : Array Oper} {rest : List Oper} {o : Oper} {a : Act} {W : World} {Q : Exit → Act → World → Prop} (hgd : o.guard = none) (s x : Operand)
    (ho : o.op = .call { callee := .builtin .append, args := #[s, x], argTypes := #[45, 45] })
    (g : Nat) (c : UInt8) (hs : a.eval s = .slice (some ⟨g, 0, none⟩) 1 1) (hg : W.heap[g]? = some (.cells #[.int .u8 (c.toNat : Int)] 5 (0, 0)))
    (b : Option Addr) (len cap : Nat) (hx : a.eval x = .slice b len cap) (hb : BRow g W b len) (hl : len ≤ 4000000) (hgW : g ≤ W.heap.size)
    (h : ∀ (q : Option Addr) (cap' : Nat) w', BRow w'.heap.size w' q (len + 1) → Below g W w' → wpList Try.prog ops Q rest (a.put o.dst (.slice q (len + 1) cap')) w') : wpList Try.prog ops Q (o :: rest) a W := by
  obtain ⟨i0, hi, hz0, hz1, hz2⟩ := info_parts info_u8
  have hown : W.ownsRow g 5 1 (.slice (some ⟨g, 0, none⟩) 1 1) 1 (bytesC [c]) := ⟨by simp [bytesC], .inr ⟨g, 1, _, rfl, Nat.le_refl _, hg, Nat.le_refl _, by unfold maxLen; omega, rfl, by simp [bytesC]⟩⟩
  have fin : ∀ (v' : Value) (w' : World) (n : Nat) (l : List UInt8), l.length = n → 0 < n → w'.ownsRow g 5 1 v' n (bytesC l) → ∃ q cap', v' = .slice q n cap' ∧ BRow w'.heap.size w' q n := by
    intro v' w' n l hln hn0 hr
    obtain ⟨h1, ⟨rfl, h0⟩ | ⟨q, cap', cur, rfl, hbq, hgq, hnq, hmq, hsq, htq⟩⟩ := hr
    · omega
    · refine ⟨some ⟨q, 0, none⟩, cap', rfl, .inr ⟨q, 0, rfl, (Array.getElem?_eq_some_iff.1 hgq).1, fun i hi => ?_⟩⟩
      have hil : i < l.length := by omega
      refine ⟨(l[i].toNat : Int), by omega, by have := l[i].toNat_lt; omega, ?_⟩
      have e : (bytesC l)[i]? = some (.int .u8 (l[i].toNat : Int)) := by simp [bytesC, hil]
      have := World.ownsRow.cells (w := w') (base := g) (e := 5) (size := 1) (v := .slice (some ⟨q, 0, none⟩) n cap') (n := n) (xs := bytesC l) ⟨h1, .inr ⟨q, cap', cur, rfl, hbq, hgq, hnq, hmq, hsq, htq⟩⟩ (g := q) rfl i _ e
      rw [Go.WideShapes.add_plain] at this
      exact this
  cases b with
  | none =>
    obtain rfl : len = 0 := by
      rcases hb with h0 | ⟨_, _, e, _⟩
      · exact h0
      · cases e
    have hrun : (Builtin.append_ #[45, 45] o.type #[.slice (some ⟨g, 0, none⟩) 1 1, .slice none 0 cap]).run Try.prog W = .ok (.slice (some ⟨g, 0, none⟩) 1 1) W :=
      run_append_nothing (P := Try.prog) W 45 45 o.type 5 i0 Try.underlying45 hi (some ⟨g, 0, none⟩) 1 1 (Nat.le_refl _) (.slice none 0 cap) ⟨.inl ⟨_, Try.underlying45⟩, fun _ => rfl, by simp [Builtin.firstCells], by simp [Builtin.firstCells], by simp, by simp⟩
    refine Lib.wpList_append_run W hgd s x _ _ ho _ _ hs hx _ _ hrun ?_
    obtain ⟨q, cap', e, hq⟩ := fin _ _ 1 [c] rfl (by omega) hown
    rw [e]
    exact h q cap' W hq (Below.refl _ _)
  | some b =>
    obtain ⟨l, hll, hlc⟩ := brow_list hb
    refine wpList_append_own W hgd s x 45 ho g 5 i0 (.int .u8 0) 1 1 Try.underlying45 hi hz0 hz1 hz2 rfl (by decide) _ 1 (bytesC [c]) hs hown b len cap (bytesC l) hx (by simp [bytesC, hll]) hlc (by
      intro u hu
      simp only [bytesC, List.mem_map] at hu
      obtain ⟨_, _, rfl⟩ := hu
      rfl) (by unfold maxLen; omega) (by omega) hgW ?_
    intro v' w' r1 r2 _
    have e2 : bytesC [c] ++ bytesC l = bytesC (c :: l) := by simp [bytesC]
    rw [e2, Nat.add_comm 1 len] at r1
    obtain ⟨q, cap', rfl, hq⟩ := fin _ _ (len + 1) (c :: l) (by simp [hll]) (by omega) r1
    refine h q cap' w' hq ((Below.refl _ _).grown r2 hgW (fun k hk => ?_))
    simp [Value.ownBlock] at hk
    omega
end Go.Proofs.Ytkijgadkgfapgaa
/-
  CONTRACT: WordOfCode of the specification; the law.
-/
namespace Go.Proofs.Ytkijgadkgfapgaa
open Go.ChangeShapes Go.WideShapes Go.ChangeAt Go.RowKit
open Wd
theorem fslice_chr2 (K : Nat) (hK : K ≤ 7) (w : World) : (Instr.slice 9 (.string (⟨#[97, 65, 98, 66, 99, 67, 100, 68]⟩ : ByteArray)) (some (.int .i64 (K : Int))) (some (.int .i64 ((K : Int) + 1))) none).run Try.prog w = .ok (.string (txt [chr K])) w := by
  have := fslice_lz [97, 65, 98, 66, 99, 67, 100, 68] K (K + 1) (by omega) (by simp; omega) (K : Int) ((K : Int) + 1) rfl (by push_cast; rfl) w
  refine this.trans ?_
  have : K = 0 ∨ K = 1 ∨ K = 2 ∨ K = 3 ∨ K = 4 ∨ K = 5 ∨ K = 6 ∨ K = 7 := by omega
  rcases this with rfl | rfl | rfl | rfl | rfl | rfl | rfl | rfl <;> rfl
theorem wcL_succ (f : Nat → Int) (i : Nat) : wcL f (i + 1) = wcL f i ++ [chr (numP f i 3)] := by simp [wcL, List.range_succ]
set_option maxRecDepth 100000 in
set_option maxHeartbeats 8000000 in
theorem swoc_any (f : Nat → Int) (hf : ∀ i, i < 16 → 0 ≤ f i ∧ f i ≤ 255) (w : World) : Calls Try.prog 81 #[.agg (arr .u8 16 f)] w (WocPost f w) := by
  unfold WocPost
  have HF := Lib.hid hf
  obtain ⟨a0, a1⟩ := hf 0 (by omega)
  have b0 : Below w.heap.size w (w.alloc (.cells (arr .u8 16 f) 117)) := (Below.refl _ w).alloc (Nat.le_refl _) _
  have h0 : (w.alloc (.cells (arr .u8 16 f) 117)).heap[w.heap.size]? = some (.cells (arr .u8 16 f) 117 (0, 0)) := World.alloc_heap_new w _
  have c0 : (w.alloc (.cells (arr .u8 16 f) 117)).cell? ⟨w.heap.size, 0, none⟩ = some (.int .u8 (f 0)) := (Lib.cell_of_heap h0 0).trans (arr_get _ _ _ _ (by omega))
  have B0 := Lib.hid b0
  have H0 := Lib.hid h0
  have S0 : Hid ((w.alloc (.cells (arr .u8 16 f) 117)).heap.size = w.heap.size + 1) := Lib.hid (by simp)
  clear b0 h0 hf
  by_cases h40 : f 0 ≤ 40
  · obtain ⟨n, hn⟩ : ∃ n : Nat, f 0 = n := ⟨(f 0).toNat, by omega⟩
    rw [hn] at c0
    have HN := Lib.hid hn
    have hn' : (n : Int) ≤ 40 := by omega
    have CELL : Hid (∀ j, j < 16 → (w.alloc (.cells (arr .u8 16 f) 117)).cell? ⟨w.heap.size, j, none⟩ = some (.int .u8 (f j))) := Lib.hid fun j hj => (Lib.cell_of_heap H0.out j).trans (arr_get _ _ _ _ hj)
    clear hn a0 a1 h40
    go_enter Try.func81, Try.ntmps81
    generalize hPP : TextPost (if wocOk f = true then wcL f (f 0).toNat else []) (if wocOk f = true then 0 else 5) w = PP
    have HPP := Lib.hid hPP
    clear hPP
    generalize hW1 : w.alloc (.cells (arr .u8 16 f) 117) = w1 at *
    go_wp2
    clear hW1
    go_loopw [4, 5] (fun out z wr => ∃ i : Nat, i ≤ n ∧ z = .int .i64 (i : Int) ∧ out = .string (txt (wcL f i)) ∧ wr = w1) (fun _ z _ => n - (intOf z).toNat)
    case atStart => exact ⟨0, Nat.zero_le _, rfl, rfl, rfl⟩
    case round =>
      obtain ⟨i, hi, rfl, rfl, rfl⟩ := hrel
      have hsz := txt_size (wcL f i)
      rw [wcL_length] at hsz
      by_cases hlt : i < n
      · have t1 : decide (i < n) = true := by simpa using hlt
        have HLT := Lib.hid hlt
        have hi' : (i : Int) ≤ 39 := by omega
        have W3 := Lib.hid (wcL_succ f i)
        have K7 := (numP_lt f i).2.2
        have K7' : (numP f i 3 : Int) ≤ 7 := by omega
        have SL := fslice_chr2 (numP f i 3) K7
        have z2 : (txt [chr (numP f i 3)]).size = 1 := rfl
        clear hlt hi
        go_wp2
        go_loopw [6, 7] (fun kk z wq => ∃ b : Nat, b ≤ 3 ∧ z = .int .i64 (b : Int) ∧ kk = .int .i64 (numP f i b : Int) ∧ wq = wr) (fun _ z _ => 3 - (intOf z).toNat)
        case atStart => exact ⟨0, Nat.zero_le _, rfl, rfl, rfl⟩
        case round =>
          obtain ⟨b, hb, rfl, rfl, rfl⟩ := hrel
          by_cases hb3 : b < 3
          · have t2 : decide ((b : Int) < 3) = true := by simp; omega
            obtain ⟨p, hp⟩ : ∃ p, p = 3 * i + b := ⟨_, rfl⟩
            have hpI : 3 * (i : Int) + (b : Int) = (p : Int) := by omega
            obtain ⟨j, m, hm8, hpj⟩ : ∃ j m, m < 8 ∧ p = 8 * j + m := ⟨p / 8, p % 8, by omega, by omega⟩
            have hj : j < 15 := by omega
            have hcj := CELL.out (1 + j) (by omega)
            obtain ⟨c0', c1'⟩ := HF.out (1 + j) (by omega)
            have hbv := bitC_val hpj hm8 ⟨c0', c1'⟩
            have hb1 := bitC_lt f p
            have hnb := numP_b f i b (by omega)
            have NS : Hid ((numP f i (b + 1) : Int) = 2 * (numP f i b : Int) + (bitC f p : Int)) := Lib.hid (by rw [hp]; simp [numP])
            have q8 : (p : Int) / 8 = (j : Int) := by omega
            have r8 : (p : Int) % 8 = (m : Int) := by omega
            have hb' : (b : Int) ≤ 2 := by omega
            have hm8' : (m : Int) ≤ 7 := by omega
            have hj' : (j : Int) ≤ 14 := by omega
            have hp' : (p : Int) ≤ 119 := by omega
            have HB3 := Lib.hid hb3
            have hx1 : (bitC f p : Int) ≤ 1 := by omega
            have hx3 : (numP f i b : Int) ≤ 3 := by omega
            clear hp hpj hb hb1 hnb hb3
            generalize numP f i b = v at *
            generalize bitC f p = x at *
            go_wp2
            go_roundw
            case rel => exact ⟨b + 1, HB3.out, by go_num, by rw [NS.out], trivial⟩
            case measure => have := HB3.out; simp [intOf]; omega
          · obtain rfl : b = 3 := by omega
            clear hb hb3
            generalize numP f i 3 = v at *
            go_wp2
            go_roundw
            case rel => exact ⟨i + 1, HLT.out, by go_num, by rw [W3.out, txt_app], trivial⟩
            case measure => have := HLT.out; simp [intOf]; omega
      · obtain rfl : i = n := by omega
        clear hlt hi
        have WL := wcL_letters f i
        have WN := wcL_length f i
        have WB : wordB (wcL f i) = true := by unfold wordB lets; rw [Bool.and_eq_true, List.all_eq_true]; exact ⟨WL, by rw [WN]; simp; omega⟩
        have SC : Hid (∀ w', Calls Try.prog 76 #[.string (txt (wcL f i))] w' fun e w'' => e = .returned (.tuple #[.agg (A16 (cdF (wcL f i) (3 * i))), .int .i64 0]) ∧ Below w'.heap.size w' w'') := Lib.hid fun w' => by
          have := scode_any (wcL f i) (by omega) w'
          unfold CwPost codeF at this
          rw [WB, WN] at this
          exact this
        have OKQ : wocOk f = (List.range 16).all fun k => cdF (wcL f i) (3 * i) k == f k := by unfold wocOk; rw [HN.out, Int.toNat_natCast, decide_eq_true hn', Bool.true_and]
        have hS : ∀ w, (Op.equalIn 10000 117 (.agg (A16 (cdF (wcL f i) (3 * i)))) (.agg (arr .u8 16 f))).run Try.prog w = .ok (wocOk f) w := fun w => by
          rw [OKQ]
          exact eqArrI (P := Try.prog) (t := 117) (q := .u8) _ f Try.underlying117 Try.underlying5 (by kernel_rfl) w
        have FIN : Hid (∀ w', Below wr.heap.size wr w' → PP (.returned (.tuple #[.string (txt (if wocOk f then wcL f i else [])), .int .i64 (if wocOk f then 0 else 5)])) w') := Lib.hid fun w' hb => by
          rw [← HPP.out, HN.out, Int.toNat_natCast]
          exact ⟨rfl, B0.out.trans (hb.mono B0.out.size)⟩
        clear OKQ HPP WL WN WB HN CELL hsz
        generalize cdF (wcL f i) (3 * i) = cf at *
        generalize wcL f i = wl at *
        go_wp2_with fail
        refine (SC.out _).mono ?_
        rintro e w2 ⟨rfl, B2⟩
        have X2 : Hid (Below wr.heap.size wr (w2.alloc (.cells (A16 cf) 117))) := Lib.hid (B2.alloc B2.size _)
        have R2 : Hid ((w2.alloc (.cells (A16 cf) 117)).heap[w2.heap.size]? = some (.cells (A16 cf) 117 (0, 0))) := Lib.hid (World.alloc_heap_new w2 _)
        have R0 : Hid ((w2.alloc (.cells (A16 cf) 117)).heap[w.heap.size]? = some (.cells (arr .u8 16 f) 117 (0, 0))) := Lib.hid (by rw [X2.out.block _ (by have := S0.out; omega)]; exact H0.out)
        clear B2 SC
        cases hok : wocOk f
        · rw [hok] at hS FIN
          have F2 : Hid (∀ w', Below wr.heap.size wr w' → PP (.returned (.tuple #[.string (⟨#[]⟩ : ByteArray), .int .i64 5])) w') := FIN
          clear FIN
          go_wp2_with (first | (refine wpList_load_row rfl 117 _ rfl w2.heap.size rfl 117 _ _ _ R2.out Try.underlying117 rfl (code_info _ rfl) ?_) | (refine wpList_load_row rfl 117 _ rfl w.heap.size rfl 117 _ _ _ R0.out Try.underlying117 rfl (code_info _ (arr_size _ _ _)) ?_))
          exact F2.out _ X2.out
        · rw [hok] at hS FIN
          have F2 : Hid (∀ w', Below wr.heap.size wr w' → PP (.returned (.tuple #[.string (txt wl), .int .i64 0])) w') := FIN
          clear FIN
          go_wp2_with (first | (refine wpList_load_row rfl 117 _ rfl w2.heap.size rfl 117 _ _ _ R2.out Try.underlying117 rfl (code_info _ rfl) ?_) | (refine wpList_load_row rfl 117 _ rfl w.heap.size rfl 117 _ _ _ R0.out Try.underlying117 rfl (code_info _ (arr_size _ _ _)) ?_))
          exact F2.out _ X2.out
  · have hw : wocOk f = false := by unfold wocOk; rw [decide_eq_false h40, Bool.false_and]
    rw [hw, if_neg (by simp), if_neg (by simp)]
    have t1 : decide ((40 : Int) < f 0) = true := by simp; omega
    clear hw
    go_enter Try.func81, Try.ntmps81
    go_wp2
    go_ret2
    exact ⟨rfl, B0.out⟩
theorem b16_info (A : Array Value) (h : A.size = 16) : (Try.prog.info? 24).map (·.size) = some A.size := by rw [h]; kernel_rfl
end Go.Proofs.Ytkijgadkgfapgaa
