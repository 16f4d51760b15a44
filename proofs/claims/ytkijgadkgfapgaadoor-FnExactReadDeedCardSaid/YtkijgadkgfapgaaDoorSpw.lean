/-
  THE WALK of l01Split.
-/
import Derived.Test.YtkijgadkgfapgaaDoorSpl
import Derived.Lib.Hide
namespace Go.Proofs.YtkijgadkgfapgaaDoor
open Go.ChangeShapes Go.WideShapes Go.ChangeAt Go.RowKit
/-- what it hands back: the texts, in cells of a new block -/
def SplPost (c : UInt8) (t : ByteArray) (B : Nat) (e : Ending) (w' : World) : Prop := ∃ (g cap : Nat) (q : List ByteArray), e = .returned (.slice (some ⟨g, 0, none⟩) q.length cap) ∧ splitL c t.data.toList = q.map (·.data.toList) ∧
  B ≤ g ∧ ∀ j, j < q.length → w'.cell? ⟨g, j, none⟩ = some (.string (q.getD j .empty))
theorem own_cells {base : Nat} {v : Value} {q : List ByteArray} {w : World} (h : OwnS base v q w) (hq : q ≠ []) : ∃ g cap, v = .slice (some ⟨g, 0, none⟩) q.length cap ∧ base ≤ g ∧ ∀ j, j < q.length → w.cell? ⟨g, j, none⟩ = some (.string (q.getD j .empty)) := by
  have h' := h
  obtain ⟨h1, h2⟩ := h
  rcases h2 with ⟨rfl, h0⟩ | ⟨g, cap, cur, rfl, hb, hg, hn, hm, hs, ht⟩
  · exact absurd (List.eq_nil_of_length_eq_zero h0) hq
  · refine ⟨g, cap, rfl, hb, fun j hj => ?_⟩
    have e : (strsC q)[j]? = some (.string (q.getD j .empty)) := by simp [strsC, hj]
    have := World.ownsRow.cells h' (g := g) rfl j _ e
    have ea : (⟨g, 0, none⟩ : Addr).add j = ⟨g, j, none⟩ := by cases j <;> simp [Addr.add]
    rw [ea] at this
    exact this
theorem idx_str (t : ByteArray) (k : Nat) (hk : k < t.data.toList.length) (w : World) :
    (Instr.index 9 (.string t) (.int .i64 (k : Int))).run Tryd.prog w = .ok (.int .u8 (((t.data.toList[k]'hk).toNat : Nat) : Int)) w := by
  have hs : t.data.toList.length = t.size := by rw [Array.length_toList]; rfl
  rw [run_index_string w 9 t .i64 _ Tryd.underlying9, dif_pos ⟨by omega, by omega⟩]
  simp
  rfl
theorem extract_list (t : ByteArray) (a b : Nat) : (t.extract a b).data.toList = (t.data.toList.drop a).take (b - a) := by
  simp [ByteArray.data_extract]
set_option maxRecDepth 8000 in
set_option maxHeartbeats 2000000 in
theorem l01Split_any (t : ByteArray) (c : UInt8) (hm : t.size ≤ 1048576) (w : World) :
    Calls Tryd.prog 33 #[.string t, .int .u8 ((c.toNat : Nat) : Int)] w fun e w' => SplPost c t w.heap.size e w' ∧ Below w.heap.size w w' := by
  obtain ⟨l, HL, hs, HX, HE⟩ : ∃ l : List UInt8, Hid (l = t.data.toList) ∧ l.length = t.size ∧ Hid (∀ (k : Nat) (hk : k < l.length) w, (Instr.index 9 (.string t) (.int .i64 (k : Int))).run Tryd.prog w = .ok (.int .u8 (((l[k]'hk).toNat : Nat) : Int)) w) ∧ Hid (∀ a b, (t.extract a b).data.toList = (l.drop a).take (b - a)) :=
    ⟨t.data.toList, Lib.hid rfl, by rw [Array.length_toList]; rfl, Lib.hid (idx_str t), Lib.hid (extract_list t)⟩
  have O0 : Hid (OwnS w.heap.size (.slice (some ⟨w.heap.size, 0, none⟩) 0 0) [] (w.alloc (.cells #[] 9))) := Lib.hid (World.ownsRow_made (size := 1) w #[] 0 (Nat.le_refl _) (by unfold maxLen; omega) rfl)
  have B0 : Hid (Below w.heap.size w (w.alloc (.cells #[] 9))) := Lib.hid ((Below.refl _ _).alloc (Nat.le_refl _) _)
  go_enter Tryd.func33, Tryd.ntmps33
  go_wp2
  go_loopw [5, 6, 7] (fun v vb vi wr => ∃ (q : List ByteArray) (b k : Nat), k ≤ t.size ∧ vb = .int .i64 b ∧ vi = .int .i64 k ∧ Hid (OwnS w.heap.size v q wr) ∧ Hid (Below w.heap.size w wr) ∧ Hid (Spl c l q b k))
    (fun _ _ vi _ => t.size - (intOf vi).toNat)
  case atStart => exact ⟨[], 0, 0, by omega, rfl, rfl, O0, B0, Lib.hid (Spl.start c l)⟩
  case round =>
    obtain ⟨q, b, k, hk, rfl, rfl, HO, HB, HS⟩ := hrel
    have hbk := HS.out.le
    have hqk := HS.out.len
    have hbs := HB.out.size
    have hsl : ∀ w, (Instr.slice 9 (.string t) (some (.int .i64 (b : Int))) (some (.int .i64 (k : Int))) none).run Tryd.prog w = .ok (.string (t.extract b k)) w := fun w => by
      rw [run_slice_string w 9 t .i64 .i64 b k Tryd.underlying9 (by omega) (by omega) (by omega)]
      simp
    by_cases hkn : k < t.size
    · have hkn' : (k : Int) < (t.size : Int) := by omega
      have hx := HX.out k (by omega)
      by_cases hc : l[k]'(by omega) = c
      · have HN := Lib.hid (HS.out.cut (by omega) hc (t.extract b k) (HE.out b k))
        rw [hc] at hx
        clear hc HS
        go_wp2_with (refine wpList_append_str rfl (.tmp 20) (.tmp 25) rfl w.heap.size _ q (t.extract b k) rfl (HO.out.alloc _) _ rfl (by simp) (by omega) (by simp; omega) w (HB.out.alloc (by omega) _) ?_; intro v' w' o' b'; have O' := Lib.hid o'; have B' := Lib.hid b'; clear o' b')
        refine ⟨⟨q ++ [t.extract b k], k + 1, k + 1, by omega, by go_num, by go_num, O', B', HN⟩, by simp [intOf]; omega⟩
      · have HN := Lib.hid (HS.out.next (by omega) hc)
        have hne : (((l[k]'(by omega)).toNat : Int) == ((c.toNat : Nat) : Int)) = false := by
          have : (l[k]'(by omega)).toNat ≠ c.toNat := fun h => hc (UInt8.toNat_inj.1 h)
          simp; omega
        generalize (l[k]'(by omega)).toNat = n at hx hne
        clear hc HS
        go_wp2
        refine ⟨⟨q, b, k + 1, by omega, rfl, by go_num, HO, HB, HN⟩, by simp [intOf]; omega⟩
    · obtain rfl : k = t.size := by omega
      have hsf : ∀ w, (Instr.slice 9 (.string t) (some (.int .i64 (b : Int))) none none).run Tryd.prog w = .ok (.string (t.extract b t.size)) w := fun w => by
        rw [run_slice_string_from_if w 9 t .i64 b Tryd.underlying9, if_pos ⟨by omega, by omega⟩]
        simp
      have hp : (t.extract b t.size).data.toList = l.drop b := by rw [HE.out, List.take_of_length_le (by rw [List.length_drop]; omega)]
      have HF := Lib.hid (Spl.fin (hs ▸ HS.out) (t.extract b t.size) hp)
      clear HS hp hsl
      go_wp2_with (refine wpList_append_str rfl (.tmp 29) (.tmp 33) rfl w.heap.size _ q (t.extract b t.size) rfl (HO.out.alloc _) _ rfl (by simp) (by omega) (by simp; omega) w (HB.out.alloc (by omega) _) ?_; intro v' w' o' b'; have O' := Lib.hid o'; have B' := Lib.hid b'; clear o' b')
      go_ret
      obtain ⟨g, cap, e1, e2, e3⟩ := own_cells O'.out (by simp)
      refine ⟨⟨g, cap, q ++ [t.extract b t.size], ?_, ?_, e2, e3⟩, B'.out⟩
      · rw [← e1]; rfl
      · rw [← HL.out]; exact HF.out
end Go.Proofs.YtkijgadkgfapgaaDoor
