/-
  MAPS OF MASKS BY CORNERS, made by the call: what stands where; stored into, looked up.
-/
import Derived.Test.YthfmkejdpflpcaaKm
import Derived.Test.YthfmkejdpflpcaaGpc
import Derived.Maps.Views
namespace Go.Proofs.Ythfmkejdpflpcaa
open Go.ChangeShapes Go.WideShapes Go.ChangeAt Go.RowKit Go.Maps Go.WideMaps
def RM : Value → Option (DataW Value × List MemPlace) := fun v => some (.held v, [])
def C32 (p : Int) : Prop := -2147483648 ≤ p ∧ p ≤ 2147483647
/-- the map in block b has the mask F p q at the corner p, q: no cell, if there is none; it was written n times at most -/
def MapM (b n : Nat) (F : Int → Int → Nat → Int) (w : World) : Prop := ∃ D : DataW Value, w.ownsMap Try.prog 46 RM b n D ∧ ∀ p q, C32 p → C32 q → D.atKey (coKey p q) (.held (.agg (M16 zI))) = .held (.agg (M16 (F p q)))
def putM (F : Int → Int → Nat → Int) (p q : Int) (m : Nat → Int) : Int → Int → Nat → Int := fun p' q' => if p' = p ∧ q' = q then m else F p' q'
theorem coKey_inj {p q p' q' : Int} (h1 : C32 p) (h2 : C32 q) (h3 : C32 p') (h4 : C32 q') (h : coKey p q = coKey p' q') : p = p' ∧ q = q' := by
  have e := keyedCo.inj (keyCo p q h1 h2) (by rw [h]; exact keyCo p' q' h3 h4)
  simpa using e
theorem MapM.made (w : World) : MapM w.heap.size 0 (fun _ _ => zI) (w.alloc (.map #[] 0)) :=
  ⟨.map [], World.ownsMap_made w _ _ _, fun p q _ _ => rfl⟩
theorem MapM.kept {b n : Nat} {F : Int → Int → Nat → Int} {w w' : World} {row : Option Nat} (h : MapM b n F w) (hg : w.grownBy w' row) (hne : some b ≠ row) : MapM b n F w' := by
  obtain ⟨D, h1, h2⟩ := h
  exact ⟨D, h1.kept hg hne, h2⟩
theorem MapM.alloc {b n : Nat} {F : Int → Int → Nat → Int} {w : World} (h : MapM b n F w) (o : Obj) : MapM b n F (w.alloc o) := by
  obtain ⟨D, h1, h2⟩ := h
  exact ⟨D, h1.alloc o, h2⟩
theorem MapM.lt {b n : Nat} {F : Int → Int → Nat → Int} {w : World} (h : MapM b n F w) : b < w.heap.size := by
  obtain ⟨D, h1, -⟩ := h
  exact h1.lt
theorem MapM.below {b n B : Nat} {F : Int → Int → Nat → Int} {w w' : World} (h : MapM b n F w) (hb : Below B w w') (hB : b < B) (hs : ∀ k, k < w.heap.size → k < B) : MapM b n F w' :=
  h.kept (row := none) ⟨hb.os, hb.tape, hb.output, hb.size, fun k hk _ => hb.block k (hs k hk)⟩ (by simp)
theorem MapM.later {b n : Nat} {F : Int → Int → Nat → Int} {w w' : World} (h : MapM b n F w) (hb : Below w.heap.size w w') : MapM b n F w' := h.below hb h.lt fun _ hk => hk
theorem MapM.put {b n : Nat} {F : Int → Int → Nat → Int} {w : World} (h : MapM b n F w) (hn : n < maxLen) (p q : Int) (hp : C32 p) (hq : C32 q) (m : Nat → Int) (t : TypeId) (ht : Try.prog.underlying t = some (.map 46 71)) :
    ∃ w', (Instr.mapUpdate t (.map (some b)) (.agg #[.int .i32 p, .int .i32 q]) (.agg (M16 m))).run Try.prog w = .ok () w' ∧ MapM b (n + 1) (putM F p q m) w' ∧ w.grownBy w' (some b) := by
  obtain ⟨D, h1, h2⟩ := h
  obtain ⟨w', hr, ho, hg⟩ := h1.update (t := t) (d := .held (.agg (M16 m))) (ps := []) keyedCo ht hn (keyCo p q hp hq) rfl
  refine ⟨w', hr, ⟨_, ho, fun p' q' hp' hq' => ?_⟩, hg⟩
  unfold putM
  by_cases e : p' = p ∧ q' = q
  · obtain ⟨rfl, rfl⟩ := e
    rw [if_pos ⟨rfl, rfl⟩, atKey_put_same h1.isMap (keyedCo.key (keyCo p' q' hp' hq'))]
  · rw [if_neg e, atKey_put_other (fun hk => e (coKey_inj hp' hq' hp hq hk))]
    exact h2 p' q' hp' hq'
theorem zeroMask_run (w : World) : (zeroValue 71).run Try.prog w = .ok (.agg (M16 zI)) w := by rw [Try.zeroValue71]; rfl
theorem MapM.look {b n : Nat} {F : Int → Int → Nat → Int} {w : World} (h : MapM b n F w) (p q : Int) (hp : C32 p) (hq : C32 q) (t : TypeId) (ht : Try.prog.underlying t = some (.map 46 71)) :
    (Instr.lookup t (.map (some b)) (.agg #[.int .i32 p, .int .i32 q]) false).run Try.prog w = .ok (.agg (M16 (F p q))) w := by
  obtain ⟨D, h1, h2⟩ := h
  obtain ⟨v, ps, hr, hv⟩ := h1.lookup (t := t) (zd := .held (.agg (M16 zI))) (zp := []) keyedCo ht (zeroMask_run w) rfl (keyCo p q hp hq)
  rw [hr]
  rw [h2 p q hp hq] at hv
  simp only [RM, Option.some.injEq, Prod.mk.injEq, DataW.held.injEq] at hv
  rw [hv.1]
/-- 'm[at] = mask' at the operation -/
theorem wpList_mapUpdate_m {ops : Array Oper} {rest : List Oper} {o : Oper} {a : Act} {w : World} {Q : Exit → Act → World → Prop} (hgd : o.guard = none) (m x v : Operand) (t : TypeId) (hop : o.op = Op.mapUpdate t m x v)
    (ht : Try.prog.underlying t = some (.map 46 71)) (b n : Nat) (F : Int → Int → Nat → Int) (hm : a.eval m = .map (some b)) (hown : MapM b n F w) (hn : n < maxLen)
    (p q : Int) (hp : C32 p) (hq : C32 q) (f : Nat → Int) (hx : a.eval x = .agg #[.int .i32 p, .int .i32 q]) (hv : a.eval v = .agg (M16 f))
    (h : ∀ w', MapM b (n + 1) (putM F p q f) w' → w.grownBy w' (some b) → wpList Try.prog ops Q rest (a.put o.dst undef) w') : wpList Try.prog ops Q (o :: rest) a w := by
  refine wpList_plain hgd fun K' hK' => ?_
  obtain ⟨w', hrun, r1, r2⟩ := hown.put hn p q hp hq f t ht
  unfold Oper.wp
  simp [execOp, hop, hm, hx, hv, hrun, Result.andThen]
  exact hK' _ _ (h w' r1 r2)
end Go.Proofs.Ythfmkejdpflpcaa
