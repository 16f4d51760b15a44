/-
  BLOCKS COMPARED: with '!=' as structs, and by the law's eqBlock.
-/
import Derived.Test.YthfmkejdpflpcaaTs
import Derived.Test.YthfmkejdpflpcaaBa
import Derived.Laws.StructEq
namespace Go.Proofs.Ythfmkejdpflpcaa
open Go.ChangeShapes Go.WideShapes Go.ChangeAt Go.RowKit
theorem eqArrD {P : Program} {t e : TypeId} {n : Nat} {q : IntKind} (d : Nat) (f g : Nat → Int) (ht : P.underlying t = some (.array n e)) (he : P.underlying e = some (.int q)) (hs : (P.info? e).map (·.size) = some 1) (w : World) :
    (Op.equalIn (d + 2) t (.agg (arr q n f)) (.agg (arr q n g))).run P w = .ok ((List.range n).all fun i => f i == g i) w := by
  have hz : ∀ w, (sizeOf e).run P w = .ok 1 w := fun w => by
    unfold sizeOf typeInfo
    cases hq : P.info? e with
    | none => simp [hq] at hs
    | some x => simp [hq] at hs ⊢; exact hs
  have hag : ∀ w, (isAgg e).run P w = .ok false w := fun w => by
    unfold isAgg
    rw [Sem.run_bind, run_underlying he w]; rfl
  rw [show d + 2 = (d + 1) + 1 from rfl, Op.equalIn]
  simp only [Sem.run_bind, run_underlying ht, Result.andThen_ok]
  simp only [Std.Legacy.Range.forIn_eq_forIn_range', Std.Legacy.Range.size, Nat.sub_zero, Nat.add_sub_cancel, Nat.div_one]
  rw [hz, Result.andThen_ok]
  rw [forIn_allI _ (none, ()) (some false, ()) (fun i => f i == g i)]
  · rw [← List.range_eq_range']
    cases (List.range n).all fun i => f i == g i <;> rfl
  · intro i hi
    have hn : i < n := by
      have := List.mem_range'.1 hi
      omega
    have c1 := arr_get q n f i hn
    have c2 := arr_get q n g i hn
    clear hi
    go_simp
    by_cases h : f i = g i
    · simp [h]
    · rw [if_neg h]; simp [h]
def co (p q : Int) : Nat → Int := fun i => if i = 0 then p else q
theorem arr_co (p q : Int) : arr .i32 2 (co p q) = #[.int .i32 p, .int .i32 q] := rfl
theorem run_part_agg {P : Program} {t : TypeId} {n : Nat} (xs : Array Value) (off : Nat) (ha : ∀ w, (isAgg t).run P w = .ok true w) (hz : ∀ w, (sizeOf t).run P w = .ok n w) (w : World) :
    (part t xs off).run P w = .ok (.agg (xs.extract off (off + n))) w := by
  unfold part
  simp [Sem.run_bind, ha, hz]
theorem ag_co (w : World) : (isAgg 46).run Try.prog w = .ok true w := by
  unfold isAgg
  rw [Sem.run_bind, run_underlying Try.underlying46 w]; rfl
theorem ag_mk (w : World) : (isAgg 71).run Try.prog w = .ok true w := by
  unfold isAgg
  rw [Sem.run_bind, run_underlying Try.underlying71 w]; rfl
theorem sz_of {P : Program} {t : TypeId} {n : Nat} (hs : (P.info? t).map (·.size) = some n) (w : World) : (sizeOf t).run P w = .ok n w := by
  unfold sizeOf typeInfo
  cases hq : P.info? t with
  | none => simp [hq] at hs
  | some x => simp [hq] at hs ⊢; exact hs
theorem bl_ext0 (p q : Int) (h : Nat → Int) : (bl p q h).extract 0 (0 + 2) = arr .i32 2 (co p q) := by
  rw [arr_co]; unfold bl
  apply Array.ext'
  simp [Array.toList_extract, List.extract]
theorem bl_ext2 (p q : Int) (h : Nat → Int) : (bl p q h).extract 2 (2 + 16) = arr .u16 16 h := by
  unfold bl
  have hs : (M16 h).toList.length = 16 := by simp [M16, arr_size]
  apply Array.ext'
  rw [Array.toList_extract, Array.toList_append]
  simp [List.extract, hs]
  exact List.take_of_length_le (by rw [hs]; exact Nat.le_refl _)
/-- the blocks are alike -/
def sameB (p q : Int) (h : Nat → Int) (p' q' : Int) (h' : Nat → Int) : Bool := ((List.range 2).all fun i => co p q i == co p' q' i) && (List.range 16).all fun i => h i == h' i
theorem run_neq_bl (p q : Int) (h : Nat → Int) (p' q' : Int) (h' : Nat → Int) (w : World) :
    (binOp .neq 73 (.agg (bl p q h)) (.agg (bl p' q' h'))).run Try.prog w = .ok (.bool (!sameB p q h p' q' h')) w := by
  have hfm : (Try.prog.fieldsOf 73).toList.map (fun f => (f.name, f.type, f.offset)) = [("At", 46, 0), ("Mask", 71, 2)] := by kernel_rfl
  have hS : Try.prog.underlying 73 = some (.struct (Try.prog.fieldsOf 73)) := by kernel_rfl
  have hp : Try.prog.stoodInHeld 73 = false := by kernel_rfl
  rw [run_neq_struct, show (10000 : Nat) = 9999 + 1 from rfl, run_equalIn_agg w 9999 _ _ _ hS hp]
  generalize (Try.prog.fieldsOf 73).toList = fs at hfm ⊢
  obtain ⟨f0, f1, rfl⟩ : ∃ f0 f1, fs = [f0, f1] := by
    match fs, hfm with
    | [a, b], _ => exact ⟨a, b, rfl⟩
    | [], h => cases h
    | [_], h => simp at h
    | _ :: _ :: _ :: _, h => simp at h
  simp only [List.map_cons, List.map_nil, List.cons.injEq, Prod.mk.injEq, and_true] at hfm
  obtain ⟨⟨n0, t0, o0⟩, n1, t1, o1⟩ := hfm
  have e1 := fun w => run_part_agg (P := Try.prog) (t := 46) (n := 2) (bl p q h) 0 ag_co (sz_of (by kernel_rfl)) w
  have e2 := fun w => run_part_agg (P := Try.prog) (t := 46) (n := 2) (bl p' q' h') 0 ag_co (sz_of (by kernel_rfl)) w
  have e3 := fun w => run_part_agg (P := Try.prog) (t := 71) (n := 16) (bl p q h) 2 ag_mk (sz_of (by kernel_rfl)) w
  have e4 := fun w => run_part_agg (P := Try.prog) (t := 71) (n := 16) (bl p' q' h') 2 ag_mk (sz_of (by kernel_rfl)) w
  rw [bl_ext0] at e1 e2
  rw [bl_ext2] at e3 e4
  have q1 := fun w => eqArrD (P := Try.prog) (t := 46) (e := 21) (n := 2) (q := .i32) 9997 (co p q) (co p' q') Try.underlying46 Try.underlying21 (by kernel_rfl) w
  have q2 := fun w => eqArrD (P := Try.prog) (t := 71) (e := 69) (n := 16) (q := .u16) 9997 h h' Try.underlying71 Try.underlying69 (by kernel_rfl) w
  have d0 : f0.name ≠ "_" := by rw [n0]; decide
  have d1 : f1.name ≠ "_" := by rw [n1]; decide
  simp only [Op.eqFields, if_pos d0, if_pos d1, t0, t1, o0, o1, Sem.run_bind, e1, e2, Result.andThen_ok, Sem.run_ite]
  rw [q1]
  simp only [Result.andThen_ok]
  unfold sameB
  cases (List.range 2).all fun i => co p q i == co p' q' i
  · simp [Sem.run_pure]
  · simp only [Bool.not_true, Bool.false_eq_true, if_false]
    simp only [Sem.run_bind, e3, e4, Result.andThen_ok]
    rw [q2]
    simp only [Result.andThen_ok]
    cases (List.range 16).all fun i => h i == h' i <;> simp [Sem.run_pure]
theorem sameB_iff (p q : Int) (h : Nat → Int) (p' q' : Int) (h' : Nat → Int) : sameB p q h p' q' h' = true ↔ bl p q h = bl p' q' h' := by
  unfold sameB
  rw [Bool.and_eq_true, List.all_eq_true, List.all_eq_true]
  constructor
  · rintro ⟨h1, h2⟩
    have a0 := h1 0 (by simp)
    have a1 := h1 1 (by simp)
    simp [co] at a0 a1
    obtain rfl := a0
    obtain rfl := a1
    have : M16 h = M16 h' := arr_congr fun i hi => by have := h2 i (by simpa using hi); simpa using this
    unfold bl
    rw [this]
  · intro e
    have g : ∀ j : Nat, (bl p q h)[j]? = (bl p' q' h')[j]? := fun j => by rw [e]
    have e0 := g 0
    have e1 := g 1
    rw [show (bl p q h)[0]? = some (.int .i32 p) from bl_co p q h 0 _ rfl, show (bl p' q' h')[0]? = some (.int .i32 p') from bl_co p' q' h' 0 _ rfl] at e0
    rw [show (bl p q h)[1]? = some (.int .i32 q) from bl_co p q h 1 _ rfl, show (bl p' q' h')[1]? = some (.int .i32 q') from bl_co p' q' h' 1 _ rfl] at e1
    simp at e0 e1
    refine ⟨fun i hi => ?_, fun i hi => ?_⟩
    · have : i = 0 ∨ i = 1 := by simp at hi; omega
      rcases this with rfl | rfl
      · simp [co, e0]
      · simp [co, e1]
    · have hi' : i < 16 := by simpa using hi
      have e2 := g (2 + i)
      rw [bl_mask p q h i _ (arr_get .u16 16 h i hi'), bl_mask p' q' h' i _ (arr_get .u16 16 h' i hi')] at e2
      simpa using e2
set_option maxRecDepth 20000 in
set_option maxHeartbeats 4000000 in
theorem eqBl_same (p q : Int) (mk : Nat → Int) (w : World) :
    Calls Try.prog 59 #[.agg (bl p q mk), .agg (bl p q mk)] w fun e w' => e = .returned (.bool true) ∧ Below w.heap.size w w' := by
  obtain ⟨B, hB⟩ : ∃ B, bl p q mk = B := ⟨_, rfl⟩
  obtain ⟨W0, hW0⟩ : ∃ W0, (w.alloc (.cells B 73)).alloc (.cells B 73) = W0 := ⟨_, rfl⟩
  have A0 : Hid (W0.heap[w.heap.size]? = some (.cells B 73 (0, 0))) := Lib.hid (by rw [← hW0]; exact (Below.heap_alloc _ _ _ (by simp)).trans (World.alloc_heap_new w _))
  have A1 : Hid (W0.heap[w.heap.size + 1]? = some (.cells B 73 (0, 0))) := Lib.hid (by
    rw [← hW0]
    have := World.alloc_heap_new (w.alloc (.cells B 73)) (.cells B 73)
    rw [World.size_alloc] at this
    exact this)
  have AB : Hid (Below w.heap.size w W0) := Lib.hid (by rw [← hW0]; exact ((Below.refl _ w).alloc (Nat.le_refl _) _).alloc (by simp) _)
  have AZ : Hid (W0.heap.size = w.heap.size + 1 + 1) := Lib.hid (by rw [← hW0]; simp)
  have LC : Hid (∀ j v, (#[Value.int .i32 p, .int .i32 q] : Array Value)[j]? = some v → B[0 + j]? = some v) := Lib.hid (by rw [← hB]; exact bl_co p q mk)
  have LM : Hid (∀ j v, (M16 mk)[j]? = some v → B[2 + j]? = some v) := Lib.hid (by rw [← hB]; exact bl_mask p q mk)
  rw [hB]
  clear hB
  go_enter Try.func59, Try.ntmps59
  go_wp2_with (first | (refine wpList_load_part rfl 46 _ rfl w.heap.size 0 rfl #[Value.int .i32 p, .int .i32 q] _ (fun j v e => by rw [Lib.cell_of_heap A0.out]; exact LC.out j v e) Try.underlying46 rfl (co_info _ rfl) ?_) | (refine wpList_load_part rfl 46 _ rfl (w.heap.size + 1) 0 rfl #[Value.int .i32 p, .int .i32 q] _ (fun j v e => by rw [Lib.cell_of_heap A1.out]; exact LC.out j v e) Try.underlying46 rfl (co_info _ rfl) ?_))
  clear hW0
  refine (eqCo_same p q W0).mono ?_
  rintro e w2 ⟨rfl, b2⟩
  have z0 := AZ.out
  have B0 := Lib.hid ((b2.block w.heap.size (by omega)).trans A0.out)
  have B1 := Lib.hid ((b2.block (w.heap.size + 1) (by omega)).trans A1.out)
  have BB := Lib.hid (AB.out.trans (b2.mono (by omega)))
  have BZ : Hid (w.heap.size ≤ w2.heap.size) := Lib.hid (by have := b2.size; omega)
  clear b2 A0 A1 AB AZ z0
  go_wp2_with (first | (refine wpList_load_part rfl 71 _ rfl w.heap.size 2 rfl (M16 mk) _ (fun j v e => by rw [Lib.cell_of_heap B0.out]; exact LM.out j v e) Try.underlying71 rfl (mask_info _ (arr_size _ _ _)) ?_) | (refine wpList_load_part rfl 71 _ rfl (w.heap.size + 1) 2 rfl (M16 mk) _ (fun j v e => by rw [Lib.cell_of_heap B1.out]; exact LM.out j v e) Try.underlying71 rfl (mask_info _ (arr_size _ _ _)) ?_))
  refine (eqMask_any mk mk rfl w2).mono ?_
  rintro e w3 ⟨rfl, b3⟩
  have CB := Lib.hid (BB.out.trans (b3.mono BZ.out))
  clear b3 B0 B1 BB BZ
  go_wp2
  go_ret
  exact ⟨rfl, CB.out⟩
end Go.Proofs.Ythfmkejdpflpcaa
