/-
  CONTRACT: a term is added to a sum in limbs.
-/
import Derived.Test.YtgjejolfkfpobaaBase
import Derived.Test.YtgjejolfkfpobaaLimb
import Derived.StillTailTactics
import Derived.Deep.RegionHeld3
namespace Go.Proofs.Ytgjejolfkfpobaa
open Go.ChangeShapes Go.WideShapes Go.ChangeAt Go.RowKit Go.Deep
open Fl
theorem call_add64 (x y c : Nat) (hc : c ≤ 1) (w : World) : (callFunc 140 #[.int .u64 x, .int .u64 y, .int .u64 c]).run Try.prog w = .ok (.value (.tuple #[.int .u64 ((x + y + c) % B64 : Nat), .int .u64 ((x + y + c) / B64 : Nat)])) w := by
  rw [run_callFunc_extern Try.func140 (by kernel_rfl) (by kernel_rfl) (by kernel_rfl) (e := add64Entry) (by kernel_rfl), run_add64 _ _ _ (by omega) (by omega) (by omega) (by omega)]
  rfl
/-- the two limbs of a term -/
def tlo (fr p : Nat) : Nat := fr * 2 ^ (p % 64) % B64
def thi (fr p : Nat) : Nat := fr / 2 ^ (64 - p % 64)
theorem wrap_tlo (fr p : Nat) : IntKind.u64.wrap ((fr : Int) * 2 ^ (p % 64)) = ((tlo fr p : Nat) : Int) := by
  rw [IntKind.wrap_u64]
  unfold tlo B64
  rw [Int.natCast_emod, Int.natCast_mul, Int.natCast_pow]; rfl
theorem cast_thi (fr p : Nat) : (fr : Int) / 2 ^ (64 - p % 64) = ((thi fr p : Nat) : Int) := by
  unfold thi; rw [Int.natCast_ediv, Int.natCast_pow]; rfl
/-- 24 limbs in a block -/
def limbC (f : Nat → Nat) : Array Value := ((List.range 24).map fun i => Value.int .u64 (f i)).toArray
theorem limbC_size (f : Nat → Nat) : (limbC f).size = 24 := by simp [limbC]
theorem limbC_get (f : Nat → Nat) (i : Nat) (h : i < 24) : (limbC f)[i]? = some (.int .u64 (f i)) := by simp [limbC, h]
def upd (f : Nat → Nat) (i v : Nat) : Nat → Nat := fun j => if j = i then v else f j
theorem limbC_set (f : Nat → Nat) (i v : Nat) (h : i < 24) : (limbC f).setIfInBounds i (.int .u64 (v : Nat)) = limbC (upd f i v) := by
  apply Array.ext_getElem?
  intro j
  rw [Array.getElem?_setIfInBounds]
  by_cases hj : j < 24
  · rw [limbC_get (upd f i v) j hj]
    by_cases hk : i = j
    · subst hk
      rw [if_pos rfl, if_pos (by rw [limbC_size]; exact h)]
      simp [upd]
    · rw [if_neg hk, limbC_get f j hj]
      have hne : j ≠ i := fun h => hk h.symm
      simp [upd, hne]
  · have e1 : (limbC (upd f i v))[j]? = none := Array.getElem?_eq_none (by rw [limbC_size]; omega)
    have e2 : (limbC f)[j]? = none := Array.getElem?_eq_none (by rw [limbC_size]; omega)
    rw [e1]
    by_cases hk : i = j
    · omega
    · rw [if_neg hk, e2]
def zf : Nat → Nat := fun _ => 0
theorem limbC_zero : #[Value.int .u64 0, .int .u64 0, .int .u64 0, .int .u64 0, .int .u64 0, .int .u64 0, .int .u64 0, .int .u64 0, .int .u64 0, .int .u64 0, .int .u64 0, .int .u64 0, .int .u64 0, .int .u64 0, .int .u64 0, .int .u64 0, .int .u64 0, .int .u64 0, .int .u64 0, .int .u64 0, .int .u64 0, .int .u64 0, .int .u64 0, .int .u64 0] = limbC zf := rfl
/-- the limbs of a term -/
def termF (fr p : Nat) : Nat → Nat := upd (upd zf (p / 64) (tlo fr p)) (p / 64 + 1) (thi fr p)
/-- the sum's block: 24 limbs, and which odd terms there are -/
def sumC (f : Nat → Nat) (o : Bool × Bool × Bool) : Array Value := limbC f ++ #[.bool o.1, .bool o.2.1, .bool o.2.2]
theorem sumC_get (f : Nat → Nat) (o : Bool × Bool × Bool) (i : Nat) (h : i < 24) : (sumC f o)[i]? = some (.int .u64 (f i)) := by
  unfold sumC
  rw [Array.getElem?_append_left (by rw [limbC_size]; exact h), limbC_get f i h]
theorem sumC_set (f : Nat → Nat) (o : Bool × Bool × Bool) (i v : Nat) (h : i < 24) : (sumC f o).setIfInBounds i (.int .u64 (v : Nat)) = sumC (upd f i v) o := by
  unfold sumC
  rw [← limbC_set f i v h]
  exact Array.setIfInBounds_append_left (by rw [limbC_size]; exact h)
/-- the first k limbs are those of the sum -/
def mix (f g : Nat → Nat) (k : Nat) : Nat → Nat := fun j => if j < k then sm f g j else f j
theorem mix_zero (f g : Nat → Nat) : mix f g 0 = f := by funext j; simp [mix]
theorem mix_step (f g : Nat → Nat) (k : Nat) : upd (mix f g k) k (sm f g k) = mix f g (k + 1) := by
  funext j
  unfold upd mix
  by_cases h : j = k
  · subst h; rw [if_pos rfl, if_pos (by omega)]
  · by_cases h2 : j < k
    · rw [if_neg h, if_pos h2, if_pos (by omega)]
    · rw [if_neg h, if_neg h2, if_neg (by omega)]
theorem mix_at (f g : Nat → Nat) (k : Nat) : mix f g k k = f k := by unfold mix; rw [if_neg (by omega)]
/-- all is as it was but for one block and draws -/
def Off (b : Nat) (w w' : World) : Prop := w'.os = w.os ∧ w'.tape = w.tape ∧ w'.output = w.output ∧ w'.heap.size = w.heap.size ∧ ∀ k, k ≠ b → w'.heap[k]? = w.heap[k]?
def SumAt (w : World) (b : Nat) (f : Nat → Nat) (o : Bool × Bool × Bool) : Prop := w.heap[b]? = some (.cells (sumC f o) 89 (0, 0))
theorem SumAt.cell {w : World} {b : Nat} {f : Nat → Nat} {o : Bool × Bool × Bool} (h : SumAt w b f o) (i : Nat) (hi : i < 24) : w.cell? ⟨b, i, none⟩ = some (.int .u64 (f i)) := by
  unfold World.cell?
  rw [show w.heap[b]? = _ from h]
  simp [sumC_get f o i hi]
theorem SumAt.free {w : World} {b : Nat} {f : Nat → Nat} {o : Bool × Bool × Bool} (h : SumAt w b f o) (i : Nat) : w.frozen? ⟨b, i, none⟩ = false := by
  unfold World.frozen?
  rw [show w.heap[b]? = _ from h]
  simp
theorem SumAt.put {w : World} {b : Nat} {f : Nat → Nat} {o : Bool × Bool × Bool} (h : SumAt w b f o) (i v : Nat) (hi : i < 24) : SumAt (w.setCell ⟨b, i, none⟩ (.int .u64 (v : Nat))) b (upd f i v) o := by
  unfold SumAt at h ⊢
  simp only [World.setCell, Array.getElem?_modify, ↓reduceIte, h, Option.map_some]
  simp [sumC_set f o i v hi]
theorem Off.put {w w' : World} {b i : Nat} {v : Value} (h : Off b w w') : Off b w (w'.setCell ⟨b, i, none⟩ v) := by
  obtain ⟨h1, h2, h3, h4, h5⟩ := h
  refine ⟨h1, h2, h3, by simp [h4], fun k hk => ?_⟩
  rw [← h5 k hk]
  exact Below.heap_setCell _ _ _ k hk
theorem Off.drew {w w' : World} {b : Nat} (h : Off b w w') : Off b w w'.drew := h
theorem Off.refl (w : World) (b : Nat) : Off b w w := ⟨rfl, rfl, rfl, rfl, fun _ _ => rfl⟩
theorem hcy {f g : Nat → Nat} (hf : ∀ i, f i < B64) (hg : ∀ i, g i < B64) (k : Nat) (w : World) :
    (callFunc 140 #[.int .u64 (f k : Nat), .int .u64 (g k : Nat), .int .u64 (cy f g k : Nat)]).run Try.prog w = .ok (.value (.tuple #[.int .u64 (sm f g k : Nat), .int .u64 (cy f g (k + 1) : Nat)])) w :=
  call_add64 (f k) (g k) (cy f g k) (cy_le hf hg k) w
set_option maxHeartbeats 4000000 in
theorem addPlus_any (b : Nat) (f : Nat → Nat) (o : Bool × Bool × Bool) (fr p : Nat) (ex : Int) (w : World) (hp : ex + 640 = p) (hp2 : p < 1472) (hf : fr ≤ 9007199254740992)
    (hF : ∀ i, f i < B64) (hT : ∀ i, termF fr p i < B64) (hb : b < w.heap.size) (hS : SumAt w b f o) :
    Calls Try.prog 127 #[.pointer (some ⟨b, 0, none⟩), .bool false, .int .i64 fr, .int .i64 ex] w fun e w' => e = .returned (.tuple #[]) ∧
      SumAt w' b (mix f (termF fr p) 24) o ∧ Off b (w.alloc (.cells (limbC (termF fr p)) 85)) w' := by
  have hp1 : (p : Int) < 1472 := by omega
  have hp0 : 0 ≤ (p : Int) := by omega
  have he1 : ex ≤ 832 := by omega
  have he0 : -640 ≤ ex := by omega
  have hf1 : (fr : Int) ≤ 9007199254740992 := by omega
  have hs1 := wrap_tlo fr p
  have hs2 := cast_thi fr p
  have hz := limbC_zero
  have hq : p / 64 < 23 := by omega
  have c1 := limbC_get zf (p / 64) (by omega)
  have c2 := limbC_set zf (p / 64) (tlo fr p) (by omega)
  have c3 := limbC_get (upd zf (p / 64) (tlo fr p)) (p / 64 + 1) (by omega)
  have c4 : (limbC (upd zf (p / 64) (tlo fr p))).setIfInBounds (p / 64 + 1) (.int .u64 (thi fr p : Nat)) = limbC (termF fr p) := limbC_set _ _ _ (by omega)
  have HS : Hid (SumAt (w.alloc (.cells (limbC (termF fr p)) 85)) b f o) := Lib.hid (by
    unfold SumAt at hS ⊢; rw [Below.heap_alloc _ _ _ hb]; exact hS)
  have HB := Lib.hid hb
  clear hf hS hb
  go_enter Try.func127, Try.ntmps127
  go_wp2
  clear hs1 hs2 hz c1 c2 c3 c4 hq hp hp1 hp0 hp2 he1 he0 hf1
  revert hT HS
  generalize hte : termF fr p = t
  have HTE := Lib.hid hte
  clear hte
  intro hT HS
  go_loopw [13, 14, 37] (fun c _ i wr => ∃ k : Nat, k ≤ 24 ∧ i = .int .i64 k ∧ c = .int .u64 (cy f (t) k : Nat) ∧ SumAt wr b (mix f (t) k) o ∧ Off b (w.alloc (.cells (limbC (t)) 85)) wr) (fun _ _ i _ => 24 - (intOf i).toNat)
  case atStart => exact ⟨0, Nat.zero_le _, rfl, rfl, by rw [mix_zero]; exact HS.out, Off.refl _ _⟩
  case round =>
    obtain ⟨k, hk, rfl, rfl, hs, ho⟩ := hrel
    by_cases hlt : k < 24
    · have g1 : wr.cell? ⟨b, k, none⟩ = some (.int .u64 (f k : Nat)) := by rw [hs.cell k hlt, mix_at]
      have g2 : wr.cell? ⟨w.heap.size, k, none⟩ = some (.int .u64 (t k : Nat)) := by
        have hne : w.heap.size ≠ b := by have := HB.out; omega
        unfold World.cell?
        show (match wr.heap[w.heap.size]? with | some (.cells c _ _) => _ | _ => none) = _
        rw [ho.2.2.2.2 _ hne]
        rw [show (w.alloc (.cells (limbC t) 85)).heap[w.heap.size]? = some (.cells (limbC t) 85 (0, 0)) from by simp only [World.alloc]; exact Array.getElem?_push_size]
        exact limbC_get t k hlt
      have g3 := hs.free k
      have hadd := hcy hF hT k
      have P : Hid (SumAt (wr.setCell ⟨b, k, none⟩ (.int .u64 (sm f t k : Nat))) b (mix f t (k + 1)) o) := Lib.hid (by
        have h := hs.put k (sm f t k) hlt
        rw [mix_step] at h; exact h)
      have O : Hid (Off b (w.alloc (.cells (limbC t) 85)) (wr.setCell ⟨b, k, none⟩ (.int .u64 (sm f t k : Nat)))) := Lib.hid ho.put
      clear hs ho hF hT
      go_wp2
      go_region
      all_goals
        go_wp2
        go_roundw
        case rel => exact ⟨k + 1, by omega, by go_num, rfl, P.out, O.out⟩
        case measure => simp [intOf]; omega
    · obtain rfl : k = 24 := by omega
      have S := Lib.hid hs
      have O := Lib.hid ho
      clear hs ho hF hT
      go_wp2
      go_end0
      exact ⟨rfl, by rw [HTE.out]; exact S.out, by rw [HTE.out]; exact O.out⟩
/-- the first k limbs are those of the difference -/
def mixd (f g : Nat → Nat) (k : Nat) : Nat → Nat := fun j => if j < k then df f g j else f j
theorem mixd_zero (f g : Nat → Nat) : mixd f g 0 = f := by funext j; simp [mixd]
theorem mixd_step (f g : Nat → Nat) (k : Nat) : upd (mixd f g k) k (df f g k) = mixd f g (k + 1) := by
  funext j
  unfold upd mixd
  by_cases h : j = k
  · subst h; rw [if_pos rfl, if_pos (by omega)]
  · by_cases h2 : j < k
    · rw [if_neg h, if_pos h2, if_pos (by omega)]
    · rw [if_neg h, if_neg h2, if_neg (by omega)]
theorem mixd_at (f g : Nat → Nat) (k : Nat) : mixd f g k k = f k := by unfold mixd; rw [if_neg (by omega)]
theorem run_sub64 {P : Program} (x y c : Nat) (hc : c ≤ 1) (w : World) :
    ((fun args => do
      let (x, y, b) ← Extern.MathBitsCarry.three "Sub64" args
      pure (Extern.MathBitsCarry.pair ((x + Extern.MathBitsCarry.m64 - y - b) % Extern.MathBitsCarry.m64) (if x < y + b then 1 else 0)) : Array Value → Sem Value) #[.int .u64 x, .int .u64 y, .int .u64 c]).run P w = .ok (.tuple #[.int .u64 ((x + B64 - y - c) % B64 : Nat), .int .u64 ((if x < y + c then 1 else 0 : Nat))]) w := by
  have hcc : c = 0 ∨ c = 1 := by omega
  rcases hcc with rfl | rfl <;> rfl
theorem hbo {f g : Nat → Nat} (hf : ∀ i, f i < B64) (hg : ∀ i, g i < B64) (k : Nat) (w : World) :
    (callFunc 141 #[.int .u64 (f k : Nat), .int .u64 (g k : Nat), .int .u64 (bo f g k : Nat)]).run Try.prog w = .ok (.value (.tuple #[.int .u64 (df f g k : Nat), .int .u64 (bo f g (k + 1) : Nat)])) w := by
  rw [run_callFunc_extern Try.func141 (by kernel_rfl) (by kernel_rfl) (by kernel_rfl) (e := fun args => do
      let (x, y, b) ← Extern.MathBitsCarry.three "Sub64" args
      pure (Extern.MathBitsCarry.pair ((x + Extern.MathBitsCarry.m64 - y - b) % Extern.MathBitsCarry.m64) (if x < y + b then 1 else 0))) (by kernel_rfl), run_sub64 _ _ _ (bo_le f g k)]
  have h1 := hf k
  have h2 := hg k
  have h3 := bo_le f g k
  have e : (f k + B64 - g k - bo f g k) % B64 = df f g k := by
    unfold df
    by_cases h : f k < g k + bo f g k
    · rw [if_pos h, Nat.mod_eq_of_lt (by omega)]; omega
    · rw [if_neg h, show f k + B64 - g k - bo f g k = f k - (g k + bo f g k) + B64 from by omega, Nat.add_mod_right, Nat.mod_eq_of_lt (by omega)]
  rw [e]; rfl
set_option maxHeartbeats 4000000 in
theorem addMinus_any (b : Nat) (f : Nat → Nat) (o : Bool × Bool × Bool) (fr p : Nat) (ex : Int) (w : World) (hp : ex + 640 = p) (hp2 : p < 1472) (hf : fr ≤ 9007199254740992)
    (hF : ∀ i, f i < B64) (hT : ∀ i, termF fr p i < B64) (hb : b < w.heap.size) (hS : SumAt w b f o) :
    Calls Try.prog 127 #[.pointer (some ⟨b, 0, none⟩), .bool true, .int .i64 fr, .int .i64 ex] w fun e w' => e = .returned (.tuple #[]) ∧
      SumAt w' b (mixd f (termF fr p) 24) o ∧ Off b (w.alloc (.cells (limbC (termF fr p)) 85)) w' := by
  have hp1 : (p : Int) < 1472 := by omega
  have hp0 : 0 ≤ (p : Int) := by omega
  have he1 : ex ≤ 832 := by omega
  have he0 : -640 ≤ ex := by omega
  have hf1 : (fr : Int) ≤ 9007199254740992 := by omega
  have hs1 := wrap_tlo fr p
  have hs2 := cast_thi fr p
  have hz := limbC_zero
  have hq : p / 64 < 23 := by omega
  have c1 := limbC_get zf (p / 64) (by omega)
  have c2 := limbC_set zf (p / 64) (tlo fr p) (by omega)
  have c3 := limbC_get (upd zf (p / 64) (tlo fr p)) (p / 64 + 1) (by omega)
  have c4 : (limbC (upd zf (p / 64) (tlo fr p))).setIfInBounds (p / 64 + 1) (.int .u64 (thi fr p : Nat)) = limbC (termF fr p) := limbC_set _ _ _ (by omega)
  have HS : Hid (SumAt (w.alloc (.cells (limbC (termF fr p)) 85)) b f o) := Lib.hid (by
    unfold SumAt at hS ⊢; rw [Below.heap_alloc _ _ _ hb]; exact hS)
  have HB := Lib.hid hb
  clear hf hS hb
  go_enter Try.func127, Try.ntmps127
  go_wp2
  clear hs1 hs2 hz c1 c2 c3 c4 hq hp hp1 hp0 hp2 he1 he0 hf1
  revert hT HS
  generalize hte : termF fr p = t
  have HTE := Lib.hid hte
  clear hte
  intro hT HS
  go_loopw [13, 14, 37] (fun c _ i wr => ∃ k : Nat, k ≤ 24 ∧ i = .int .i64 k ∧ c = .int .u64 (bo f (t) k : Nat) ∧ SumAt wr b (mixd f (t) k) o ∧ Off b (w.alloc (.cells (limbC (t)) 85)) wr) (fun _ _ i _ => 24 - (intOf i).toNat)
  case atStart => exact ⟨0, Nat.zero_le _, rfl, rfl, by rw [mixd_zero]; exact HS.out, Off.refl _ _⟩
  case round =>
    obtain ⟨k, hk, rfl, rfl, hs, ho⟩ := hrel
    by_cases hlt : k < 24
    · have g1 : wr.cell? ⟨b, k, none⟩ = some (.int .u64 (f k : Nat)) := by rw [hs.cell k hlt, mixd_at]
      have g2 : wr.cell? ⟨w.heap.size, k, none⟩ = some (.int .u64 (t k : Nat)) := by
        have hne : w.heap.size ≠ b := by have := HB.out; omega
        unfold World.cell?
        show (match wr.heap[w.heap.size]? with | some (.cells c _ _) => _ | _ => none) = _
        rw [ho.2.2.2.2 _ hne]
        rw [show (w.alloc (.cells (limbC t) 85)).heap[w.heap.size]? = some (.cells (limbC t) 85 (0, 0)) from by simp only [World.alloc]; exact Array.getElem?_push_size]
        exact limbC_get t k hlt
      have g3 := hs.free k
      have hadd := hbo hF hT k
      have P : Hid (SumAt (wr.setCell ⟨b, k, none⟩ (.int .u64 (df f t k : Nat))) b (mixd f t (k + 1)) o) := Lib.hid (by
        have h := hs.put k (df f t k) hlt
        rw [mixd_step] at h; exact h)
      have O : Hid (Off b (w.alloc (.cells (limbC t) 85)) (wr.setCell ⟨b, k, none⟩ (.int .u64 (df f t k : Nat)))) := Lib.hid ho.put
      clear hs ho hF hT
      go_wp2
      go_region
      all_goals
        go_wp2
        go_roundw
        case rel => exact ⟨k + 1, by omega, by go_num, rfl, P.out, O.out⟩
        case measure => simp [intOf]; omega
    · obtain rfl : k = 24 := by omega
      have S := Lib.hid hs
      have O := Lib.hid ho
      clear hs ho hF hT
      go_wp2
      go_end0
      exact ⟨rfl, by rw [HTE.out]; exact S.out, by rw [HTE.out]; exact O.out⟩
/-! ### what the limbs of a term are worth -/
theorem termF_lt {fr p : Nat} (hf : fr ≤ 9007199254740992) (i : Nat) : termF fr p i < B64 := by
  have h1 : tlo fr p < B64 := Nat.mod_lt _ B64_pos
  have h2 : thi fr p < B64 := by
    have : thi fr p ≤ fr := Nat.div_le_self _ _
    unfold B64; omega
  have h3 := B64_pos
  unfold termF upd zf
  split
  · exact h2
  · split
    · exact h1
    · exact h3
theorem pv_upd (f : Nat → Nat) (i v : Nat) : ∀ n, i < n → pv (upd f i v) n + f i * B64 ^ i = pv f n + v * B64 ^ i
  | 0, h => absurd h (by omega)
  | n + 1, h => by
    show pv (upd f i v) n + upd f i v n * B64 ^ n + f i * B64 ^ i = pv f n + f n * B64 ^ n + v * B64 ^ i
    by_cases hn : n = i
    · subst hn
      have e : pv (upd f n v) n = pv f n := pv_congr n (fun j hj => by unfold upd; rw [if_neg (by omega)])
      have e2 : upd f n v n = v := by unfold upd; rw [if_pos rfl]
      rw [e, e2]; omega
    · have ih := pv_upd f i v n (by omega)
      have e2 : upd f i v n = f n := by unfold upd; rw [if_neg hn]
      rw [e2]; omega
theorem pv_term {fr p : Nat} (hp : p < 1472) : pv (termF fr p) 24 = fr * 2 ^ p := by
  have h1 := pv_upd zf (p / 64) (tlo fr p) 24 (by omega)
  have h2 := pv_upd (upd zf (p / 64) (tlo fr p)) (p / 64 + 1) (thi fr p) 24 (by omega)
  have e0 : pv zf 24 = 0 := pv_zero 24
  have e1 : upd zf (p / 64) (tlo fr p) (p / 64 + 1) = 0 := by unfold upd zf; rw [if_neg (by omega)]
  have e2 : zf (p / 64) = 0 := rfl
  rw [e0, e2, Nat.zero_mul, Nat.add_zero, Nat.zero_add] at h1
  rw [e1, Nat.zero_mul, Nat.add_zero, h1] at h2
  show pv (upd (upd zf (p / 64) (tlo fr p)) (p / 64 + 1) (thi fr p)) 24 = _
  rw [h2]
  have key : tlo fr p + thi fr p * B64 = fr * 2 ^ (p % 64) := by
    have e3 : thi fr p = fr * 2 ^ (p % 64) / B64 := by
      unfold thi
      have hs : p % 64 < 64 := Nat.mod_lt _ (by omega)
      have e0 : B64 = 2 ^ (p % 64) * 2 ^ (64 - p % 64) := by rw [← Nat.pow_add, show p % 64 + (64 - p % 64) = 64 from by omega]; rfl
      rw [e0, ← Nat.div_div_eq_div_mul, Nat.mul_div_cancel _ (Nat.two_pow_pos _)]
    rw [e3]
    unfold tlo
    rw [Nat.mul_comm _ B64, Nat.add_comm]
    exact Nat.div_add_mod _ _
  rw [Nat.pow_succ, Nat.mul_comm (B64 ^ (p / 64)) B64, ← Nat.mul_assoc, ← Nat.add_mul, key, B64_pow, Nat.mul_assoc, ← Nat.pow_add]
  congr 2; omega
end Go.Proofs.Ytgjejolfkfpobaa
