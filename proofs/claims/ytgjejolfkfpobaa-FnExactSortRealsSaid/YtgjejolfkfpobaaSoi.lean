/-
  CONTRACT: the program's SortReals.
-/
import Derived.Test.YtgjejolfkfpobaaSoc
import Derived.Test.YtgjejolfkfpobaaOf
import Derived.Test.YtgjejolfkfpobaaSge
import Derived.Sort.OwnSortedInts
namespace Go.Proofs.Ytgjejolfkfpobaa
open Go.ChangeShapes Go.WideShapes Go.ChangeAt Go.RowKit Go.Deep
open Fl
theorem grownBy_sortedW {w : World} {g n : Nat} {os : Array Obj} (d : Array Word32) : w.grownBy (Go.Proofs.sortWorld encW w g 0 n d os) (some g) := by
  unfold Go.Proofs.sortWorld
  refine ⟨rfl, rfl, rfl, by simp, fun k hk hne => ?_⟩
  rw [Sort.heap_grow_old _ _ (by simpa using hk)]
  have : g ≠ k := fun e => hne (by rw [e])
  simp [Sort.putRow, Sort.mapBlock, Sort.ahead, Array.getElem?_modify, this]
/-- numbers with their bounds -/
def wrd (l : List Nat) (h : ∀ a ∈ l, W32 a) : Array Word32 := (l.pmap (fun a h => (⟨a, h⟩ : Word32)) h).toArray
theorem wrd_size (l : List Nat) (h : ∀ a ∈ l, W32 a) : (wrd l h).size = l.length := by
  unfold wrd
  rw [List.size_toArray, List.length_pmap]
theorem wrd_val (l : List Nat) (h : ∀ a ∈ l, W32 a) : (wrd l h).toList.map (·.1) = l := by
  show ((l.pmap (fun a h => (⟨a, h⟩ : Word32)) h).toArray).toList.map (·.1) = l
  rw [List.toList_toArray]
  induction l with
  | nil => rfl
  | cons a r ih =>
    rw [List.pmap_cons, List.map_cons, ih]
theorem val_at (d : Array Word32) (i : Nat) (h : i < d.size) : (d[i]!).1 = (d.toList.map (·.1))[i]?.getD 0 := by
  rw [getElem!_pos d i h, List.getElem?_map, Array.getElem?_toList, Array.getElem?_eq_getElem h]; rfl
theorem perm_val {d d' : Array Word32} (h : Sort.PermIn 0 d.size d d') : (d'.toList.map (·.1)).Perm (d.toList.map (·.1)) := by
  obtain ⟨h1, _, h3⟩ := h
  rw [Array.extract_eq_self_of_le (by omega), ← h1, Array.extract_eq_self_of_le (by omega)] at h3
  exact h3.map _
theorem asc_val {d : Array Word32} {n : Nat} (hn : d.size = n) (h : Sort.SortedIn (Go.Proofs.ltOf cfW) 0 n d) : Asc (d.toList.map (·.1)) := by
  unfold Asc
  rw [List.pairwise_iff_getElem]
  intro i j hi hj hij
  have hj2 : j < d.size := by simpa using hj
  have hh := h i j (by omega) hij (by omega)
  rw [cfW_lt, getElem!_pos d i (by omega), getElem!_pos d j hj2] at hh
  simp at hh ⊢
  omega
/-- a sorted copy -/
def SortedCopy (len : Nat) (bs : List Nat) (L : List Nat) : Prop := L.length = len ∧ Asc L ∧ L.Perm bs
/-- cells of the call's own that hold numbers and may be written -/
def FreeRow (w : World) (g len : Nat) (L : List Nat) : Prop := g < w.heap.size ∧ ∀ i, i < len → w.cell? ⟨g, i, none⟩ = some (.float .f32 (L[i]?.getD 0)) ∧ w.frozen? ⟨g, i, none⟩ = false
def SortPost (len : Nat) (bs : List Nat) (w : World) (e : Ending) (w' : World) : Prop := ∃ g cap L, e = .returned (.tuple #[.slice (some ⟨g, 0, none⟩) len cap, .int .i64 0]) ∧ SortedCopy len bs L ∧ w.heap.size ≤ g ∧ FreeRow w' g len L ∧ Below w.heap.size w w'
theorem holds_of (w : World) (g len : Nat) (bs : List Nat) (hw : ∀ a ∈ bs, W32 a) (hl : bs.length = len) (hc : ∀ j, j < bs.length → w.cell? ⟨g, j, none⟩ = some (.float .f32 (bs[j]?.getD 0)) ∧ w.frozen? ⟨g, j, none⟩ = false) : Sort.Holds encW w g 0 (wrd bs hw) := fun j hj => by
  rw [wrd_size] at hj
  obtain ⟨h1, h2⟩ := hc j hj
  rw [Nat.zero_add]
  refine ⟨?_, h2⟩
  rw [h1]
  unfold encW
  rw [val_at _ _ (by rw [wrd_size]; exact hj), wrd_val]
theorem sortFunc_any (g len cap : Nat) (bs : List Nat) (w : World) (hl : len ≤ 256) (hlen : bs.length = len) (hw : ∀ a ∈ bs, W32 a) (hg : g < w.heap.size)
    (hc : ∀ j, j < bs.length → w.cell? ⟨g, j, none⟩ = some (.float .f32 (bs[j]?.getD 0)) ∧ w.frozen? ⟨g, j, none⟩ = false) :
    Calls Try.prog 37 #[.slice (some ⟨g, 0, none⟩) len cap, .func (.func 38) #[] #[]] w fun e w' =>
      e = .returned (.tuple #[]) ∧ ∃ L, SortedCopy len bs L ∧ FreeRow w' g len L ∧ w.grownBy w' (some g) := by
  have eg : ∀ args w, (callFunc 38 args).run Try.prog w = .ok (.enter 38 args) w := enters_of Try.func38 (by kernel_rfl) rfl
  have hH := holds_of w g len bs hw hlen hc
  have h := Try.slices_SortFunc encW (fun _ => rfl) cfW swoW 38 #[] g 0 cap (wrd bs hw) w eg (cmpReads g 0 (wrd bs hw).size w).lays hH hg (by rw [wrd_size]; omega)
  rw [show (wrd bs hw).size = len from by rw [wrd_size, hlen]] at h
  refine h.mono fun e w' ⟨he, d', n, os, hp, hs, hw'⟩ => ⟨he, d'.toList.map (·.1), ?_, ?_, ?_⟩
  · have hs1 : d'.size = len := by rw [hp.1, wrd_size, hlen]
    refine ⟨by simp [hs1], asc_val hs1 hs, ?_⟩
    have := perm_val (d := wrd bs hw) (d' := d') (by rw [wrd_size, hlen]; exact hp)
    rw [wrd_val] at this
    exact this
  · have hs1 : d'.size = (wrd bs hw).size := hp.1
    have hH2 := holds_sortWorld encW w g 0 n (wrd bs hw) d' os hg hH hs1
    rw [← hw'] at hH2
    refine ⟨by rw [hw']; exact lt_sortWorld encW w g 0 n d' os hg, fun i hi => ?_⟩
    have hi2 : i < d'.size := by rw [hs1, wrd_size, hlen]; exact hi
    obtain ⟨h1, h2⟩ := hH2 i hi2
    rw [Nat.zero_add] at h1 h2
    exact ⟨by rw [h1]; unfold encW; rw [val_at _ _ hi2], h2⟩
  · rw [hw']; exact grownBy_sortedW d'
set_option maxHeartbeats 2000000 in
theorem implSort_ok (x len : Nat) (bs : List Nat) (w : World) (hl : len ≤ 256) (hlen : bs.length = len) (hw : ∀ a ∈ bs, W32 a) (hx : NumRow w x len bs) :
    Calls Try.prog 9 #[.slice (some ⟨x, 0, none⟩) len len] w (SortPost len bs w) := by
  have HX := Lib.hid hx
  have HN := Lib.hid hlen
  have HW := Lib.hid hw
  have O0 : Hid (OwnF w.heap.size (.slice (some ⟨w.heap.size, 0, none⟩) 0 0) [] (w.alloc (.cells #[] 31))) := Lib.hid (World.ownsRow_made (size := 1) w #[] 0 (Nat.le_refl _) (by unfold maxLen; omega) rfl)
  have B0 : Hid (Below w.heap.size w (w.alloc (.cells #[] 31))) := Lib.hid ((Below.refl _ _).alloc (Nat.le_refl _) _)
  have hl' : (len : Int) ≤ 256 := by omega
  have t1 : decide ((256 : Int) < (len : Int)) = false := by simp; omega
  clear hx hlen hw
  go_enter Try.func9, Try.ntmps9
  go_wp2_with (refine wpList_append_f rfl (.tmp 8) (.tmp 9) rfl w.heap.size (.slice (some ⟨w.heap.size, 0, none⟩) 0 0) [] rfl O0.out x 0 len len rfl bs HN.out (by intro j hj; rw [Nat.zero_add]; exact (HX.out.below B0.out HX.out.1).2.2 j hj) (by simp; omega) (by simp) w B0.out (by simp) ?_; intro v1 w1 ho1 hb1 _ hn1)
  obtain ⟨g, cap, rfl, hg0, hg1, hg2, hg3, _, hg4⟩ := ho1.form hn1
  simp only [List.nil_append] at hg2 hg4 ⊢
  have B1 := Lib.hid hb1
  have G := Lib.hid hg0
  have G1 := Lib.hid hg1
  have C1 : Hid (∀ j, j < bs.length → w1.cell? ⟨g, j, none⟩ = some (.float .f32 (bs[j]?.getD 0)) ∧ w1.frozen? ⟨g, j, none⟩ = false) := Lib.hid hg4
  rw [HN.out]
  have G2 : Hid (len ≤ cap) := Lib.hid (by rw [← HN.out]; exact hg2)
  have G3 : Hid (cap ≤ maxLen) := Lib.hid hg3
  clear ho1 hb1 hn1 hg0 hg1 hg2 hg3 hg4 O0 B0
  go_wp2_with fail
  refine (sortFunc_any g len cap bs _ hl HN.out HW.out G1.out C1.out).mono ?_
  rintro e w2 ⟨rfl, L, hL, hF, hgr⟩
  have hcap : (len : Int) ≤ (cap : Int) := by have := G2.out; omega
  have hcap2 : (cap : Int) ≤ 9223372036854775807 := by have := G3.out; unfold maxLen at this; omega
  have R : Hid (SortPost len bs w (.returned (.tuple #[.slice (some ⟨g, 0, none⟩) len len, .int .i64 0])) w2) := Lib.hid ⟨g, len, L, rfl, hL, G.out, hF, B1.out.grown hgr B1.out.size (fun k hk => by cases hk; exact G.out)⟩
  clear hL hF hgr
  go_wp2
  go_ret2
  exact R.out
theorem implSort_long (x len : Nat) (w : World) (hl : 256 < len) (hl2 : len ≤ 1048576) :
    Calls Try.prog 9 #[.slice (some ⟨x, 0, none⟩) len len] w fun e w' => e = .returned (.tuple #[.slice none 0 0, .int .i64 3]) ∧ w = w' := by
  have t1 : decide ((256 : Int) < (len : Int)) = true := by simp; omega
  have hl' : (len : Int) ≤ 1048576 := by omega
  go_enter Try.func9, Try.ntmps9
  go_wp2
  go_ret2
  exact ⟨rfl, rfl⟩
end Go.Proofs.Ytgjejolfkfpobaa
