/-
  THE FILE OF A PICTURE: its bytes.
-/
import Derived.Test.YthfmkejdpflpcaaGo
import Derived.Test.YthfmkejdpflpcaaGpc
import Derived.Test.YthfmkejdpflpcaaJe
import Derived.Test.YthfmkejdpflpcaaVe
namespace Go.Proofs.Ythfmkejdpflpcaa
open Go.ChangeShapes Go.WideShapes Go.ChangeAt Go.RowKit
theorem catU_assoc (q a b : Nat → Int) (n m : Nat) : catU (catU q n a) (n + m) b = catU q n (catU a m b) := by
  funext j
  unfold catU
  by_cases h1 : j < n
  · rw [if_pos (by omega), if_pos h1, if_pos h1]
  · by_cases h2 : j < n + m
    · rw [if_pos h2, if_neg h1, if_neg h1, if_pos (by omega)]
    · rw [if_neg h2, if_neg h1, if_neg (by omega), Nat.sub_add_eq]
theorem catU_by {n m : Nat} {q p : Nat → Int} (h : ByF n q) (h' : ByF m p) : ByF (n + m) (catU q n p) := fun j hj => by
  unfold catU
  split
  · exact h j (by assumption)
  · exact h' _ (by omega)
/-- how many bytes a mask packs into, and which -/
def mpN (m : Nat → Int) : Nat := (pkK (bitR m) 256).1.length
def mpB (m : Nat → Int) : Nat → Int := fun j => (((pkK (bitR m) 256).1[j]! : Nat) : Int)
theorem mpN_le (m : Nat → Int) : mpN m ≤ 256 := (pkK_bound _ _).1
theorem pkK_last (g : Nat → Bool) (k : Nat) : ∀ n ∈ (pkK g (k + 1)).1, n ≤ k := by
  obtain ⟨_, h2, h3⟩ := pkK_bound g k
  rw [pkK_succ]
  unfold pkS
  split
  · exact h3
  · intro n hn
    rw [List.mem_append, List.mem_singleton] at hn
    rcases hn with hn | rfl
    · exact h3 n hn
    · exact h2
theorem mpB_by (m : Nat → Int) : ByF (mpN m) (mpB m) := fun j hj => by
  have h := pkK_last (bitR m) 255 _ (show (pkK (bitR m) 256).1[j]! ∈ (pkK (bitR m) 256).1 by rw [getElem!_pos _ j hj]; exact List.getElem_mem hj)
  unfold mpB
  omega
theorem bytesN_row (l : List Nat) : bytesN l = rowU (fun j => ((l[j]! : Nat) : Int)) l.length := by
  refine List.ext_getElem (by simp [bytesN, rowU]) fun j h1 h2 => ?_
  have hj : j < l.length := by simpa [bytesN] using h1
  have e := getElem!_pos l j hj
  simp only [bytesN, rowU, List.getElem_map, List.getElem_range]
  rw [e]
/-- bytes that lie in a block of a number known from below -/
def YrL (lo : Nat) (w : World) (a : Option Addr) (n : Nat) (f : Nat → Int) : Prop := n = 0 ∨ ∃ g off, a = some ⟨g, off, none⟩ ∧ lo ≤ g ∧ g < w.heap.size ∧ ∀ j, j < n → w.cell? ⟨g, off + j, none⟩ = some (.int .u8 (f j))
theorem YrL.yr {lo : Nat} {w : World} {a : Option Addr} {n : Nat} {f : Nat → Int} (h : YrL lo w a n f) : YrR w.heap.size w a n f := by
  rcases h with h | ⟨g, off, h1, _, h2, h3⟩
  · exact .inl h
  · exact .inr ⟨g, off, h1, h2, h3⟩
theorem YrL.grown {lo : Nat} {w w' : World} {a : Option Addr} {n : Nat} {f : Nat → Int} (h : YrL lo w a n f) {r : Option Nat} (hg : w.grownBy w' r) (hr : ∀ k, r = some k → k < lo) : YrL lo w' a n f := by
  rcases h with h | ⟨g, off, h1, h0, h2, h3⟩
  · exact .inl h
  · refine .inr ⟨g, off, h1, h0, Nat.lt_of_lt_of_le h2 hg.size, fun j hj => ?_⟩
    rw [World.cell?_of_block (hg.block g h2 (fun e => absurd (hr g e.symm) (by omega)))]
    exact h3 j hj
theorem YrL.below {lo : Nat} {w w' : World} {a : Option Addr} {n : Nat} {f : Nat → Int} (h : YrL lo w a n f) (hb : Below w.heap.size w w') : YrL lo w' a n f := h.grown (r := none) ⟨hb.os, hb.tape, hb.output, hb.size, fun k hk _ => hb.block k hk⟩ (fun k hk => by cases hk)
theorem wpList_append_uP {ops : Array Oper} {rest : List Oper} {o : Oper} {a : Act} {W : World} {Q : Exit → Act → World → Prop} (hgd : o.guard = none) (s x : Operand)
    (ho : o.op = .call { callee := .builtin .append, args := #[s, x], argTypes := #[95, 95] })
    (base : Nat) (v : Value) (n : Nat) (q : Nat → Int) (hs : a.eval s = v) (hown : OwnU base v n q W) (g off m c : Nat) (p : Nat → Int) (hx : a.eval x = .slice (some ⟨g, off, none⟩) m c)
    (hc : ∀ j, j < m → W.cell? ⟨g, off + j, none⟩ = some (.int .u8 (p j))) (hl : n + m ≤ 100000000) (hbase : base ≤ W.heap.size)
    (w0 : World) (hb : Below base w0 W)
    (h : ∀ v' w', OwnU base v' (n + m) (catU q n p) w' → Below base w0 w' → W.grownBy w' v.ownBlock → wpList Try.prog ops Q rest (a.put o.dst v') w') : wpList Try.prog ops Q (o :: rest) a W := by
  obtain ⟨i0, hi, hz0, hz1, hz2⟩ := info_parts info_u8'
  refine wpList_append_own W hgd s x 95 ho base 5 i0 (.int .u8 0) 1 1 Try.underlying95 hi hz0 hz1 hz2 rfl (by decide) v n (rowU q n) hs hown ⟨g, off, none⟩ m c (rowU p m) hx (by rw [rowU_len, Nat.mul_one]) ?_ (rowU_one p m) (by unfold maxLen; omega) (by omega) hbase ?_
  · intro j u hj
    have hlt : j < m := by
      rcases Nat.lt_or_ge j m with h | h
      · exact h
      · rw [List.getElem?_eq_none (by rw [rowU_len]; exact h)] at hj; cases hj
    rw [rowU_get _ _ _ hlt] at hj
    rw [Go.WideShapes.add_plain, hc j hlt]; exact hj
  · intro v' w' h1 h2 _
    refine h v' w' ?_ ?_ h2
    · unfold OwnU
      rw [← rowU_cat]
      exact h1
    · exact hb.grown h2 hbase (fun k hk => (World.ownsRow.lt hown k hk).1)
theorem PmPost.own {m : Nat → Int} {w : World} {e : Ending} {w' : World} (h : PmPost m w e w') : ∃ a cap, e = .returned (.slice a (mpN m) cap) ∧ YrL w.heap.size w' a (mpN m) (mpB m) ∧ Below w.heap.size w w' := by
  obtain ⟨v, he, ho, hb⟩ := h
  rw [bytesN_row] at ho
  have ho2 : OwnU w.heap.size v (mpN m) (mpB m) w' := ho
  rcases Nat.eq_zero_or_pos (mpN m) with h0 | h0
  · rcases ho2.2 with ⟨rfl, h1⟩ | ⟨g, cap, cur, rfl, _⟩
    · exact ⟨none, 0, by rw [he, h0], .inl h0, hb⟩
    · exact ⟨_, cap, he, .inl h0, hb⟩
  · obtain ⟨g, cap, rfl, -, hl, hg, hc⟩ := ho2.form h0
    exact ⟨_, cap, he, .inr ⟨g, 0, rfl, hl, hg, fun j hj => by rw [Nat.zero_add]; exact hc j hj⟩, hb⟩
theorem own_yr {base : Nat} {v : Value} {n : Nat} {q : Nat → Int} {w : World} (h : OwnU base v n q w) : ∃ a cap, v = .slice a n cap ∧ YrR w.heap.size w a n q := by
  rcases Nat.eq_zero_or_pos n with h0 | h0
  · rcases h.2 with ⟨rfl, h1⟩ | ⟨g, cap, cur, rfl, _⟩
    · exact ⟨none, 0, by rw [h0], .inl h0⟩
    · exact ⟨_, cap, rfl, .inl h0⟩
  · obtain ⟨g, cap, rfl, -, -, hg, hc⟩ := h.form h0
    exact ⟨_, cap, rfl, .inr ⟨g, 0, rfl, hg, fun j hj => by rw [Nat.zero_add]; exact hc j hj⟩⟩
/-- a number of 32 bits with a sign, read without it -/
def u32N (z : Int) : Nat := (z % 4294967296).toNat
theorem u32N_lt (z : Int) : u32N z < 4294967296 := by unfold u32N; omega
theorem u32N_wrap (z : Int) : IntKind.u32.wrap z = ((u32N z : Nat) : Int) := by
  unfold u32N
  simp [IntKind.wrap, IntKind.bits, IntKind.signed]
  omega
/-- the bytes of a block, and of the first k blocks -/
def blkN (f : Nat → Int) (k : Nat) : Nat := 4 + (4 + (1 + mpN (mkF f k)))
def blkB (f : Nat → Int) (k : Nat) : Nat → Int := catU (byW (u32N (f (k * 18)))) 4 (catU (byW (u32N (f (k * 18 + 1)))) 4 (catU (fun _ => ((mpN (mkF f k) : Nat) : Int) % 256) 1 (mpB (mkF f k))))
def pfN (f : Nat → Int) : Nat → Nat
  | 0 => 0
  | k + 1 => pfN f k + blkN f k
def pfB (f : Nat → Int) : Nat → Nat → Int
  | 0 => zI
  | k + 1 => catU (pfB f k) (pfN f k) (blkB f k)
theorem blkN_le (f : Nat → Int) (k : Nat) : blkN f k ≤ 265 := by
  unfold blkN
  have := mpN_le (mkF f k)
  omega
theorem pfN_le (f : Nat → Int) : ∀ k, pfN f k ≤ 265 * k
  | 0 => Nat.le_refl _
  | k + 1 => by
    have h1 := pfN_le f k
    have h2 := blkN_le f k
    show pfN f k + blkN f k ≤ _
    omega
theorem blkB_by (f : Nat → Int) (k : Nat) : ByF (blkN f k) (blkB f k) := catU_by (byW_By _ _) (catU_by (byW_By _ _) (catU_by (fun j _ => by constructor <;> omega) (mpB_by _)))
theorem pfB_by (f : Nat → Int) : ∀ k, ByF (pfN f k) (pfB f k)
  | 0 => fun j hj => absurd hj (Nat.not_lt_zero j)
  | k + 1 => catU_by (pfB_by f k) (blkB_by f k)
theorem pfB_step (f : Nat → Int) (k : Nat) : pfB f (k + 1) = catU (catU (catU (catU (pfB f k) (pfN f k) (byW (u32N (f (k * 18))))) (pfN f k + 4) (byW (u32N (f (k * 18 + 1))))) (pfN f k + 4 + 4) (fun _ => ((mpN (mkF f k) : Nat) : Int) % 256)) (pfN f k + 4 + 4 + 1) (mpB (mkF f k)) := by
  rw [show pfN f k + 4 + 4 + 1 = pfN f k + (4 + (4 + 1)) by omega, show pfN f k + 4 + 4 = pfN f k + (4 + 4) by omega, catU_assoc, catU_assoc, catU_assoc, catU_assoc, catU_assoc, catU_assoc]
  rfl
theorem pfN_step (f : Nat → Int) (k : Nat) : pfN f (k + 1) = pfN f k + 4 + 4 + 1 + mpN (mkF f k) := by
  show pfN f k + blkN f k = _
  unfold blkN
  omega
def pfC (f : Nat → Int) (n : Nat) : Int := if validP f n = true then hdC 2 (n : Int) (pfN f n) else 1
def pfM (f : Nat → Int) (n : Nat) : Nat := if validP f n = true then pkM 2 (n : Int) (pfN f n) else 0
def pfW (f : Nat → Int) (n : Nat) : Nat → Int := pkW 2 (n : Int) (pfN f n) (pfB f n)
def PfPost (f : Nat → Int) (n : Nat) (w : World) (e : Ending) (w' : World) : Prop := ∃ v, e = .returned (.tuple #[v, .int .i64 (pfC f n)]) ∧ PR 16 w.heap.size w'.heap.size w' v (pfM f n) (FF (pfW f n)) ∧ Below w.heap.size w w'
theorem PfPost.bad {f : Nat → Int} {n : Nat} {w w' : World} {a : Option Addr} {c : Nat} (h : validP f n = false) (hb : Below w.heap.size w w') : PfPost f n w (.returned (.tuple #[.slice a 0 c, .int .i64 1])) w' := by
  have e1 : pfC f n = 1 := by unfold pfC; rw [h]; exact if_neg (by decide)
  have e2 : pfM f n = 0 := by unfold pfM; rw [h]; exact if_neg (by decide)
  refine ⟨.slice a 0 c, by rw [e1], ?_, hb⟩
  rw [e2]
  exact ⟨a, c, rfl, .inl rfl⟩
theorem PfPost.of {f : Nat → Int} {n : Nat} {w w0 : World} {e : Ending} {w' : World} (h : validP f n = true) (hb : Below w.heap.size w w0) (hp : PkPost 2 (n : Int) (pfN f n) (pfB f n) w0 e w') : PfPost f n w e w' := by
  obtain ⟨v, he, h1, h2⟩ := hp
  have e1 : pfC f n = hdC 2 (n : Int) (pfN f n) := if_pos h
  have e2 : pfM f n = pkM 2 (n : Int) (pfN f n) := if_pos h
  refine ⟨v, by rw [e1]; exact he, ?_, hb.trans (h2.mono hb.size)⟩
  rw [e2]
  obtain ⟨a, cap, rfl, h0 | ⟨g, rfl, h1, h2⟩⟩ := h1
  · exact ⟨a, cap, rfl, .inl h0⟩
  · exact ⟨_, cap, rfl, .inr ⟨g, rfl, Nat.le_trans hb.size h1, h2⟩⟩
end Go.Proofs.Ythfmkejdpflpcaa
