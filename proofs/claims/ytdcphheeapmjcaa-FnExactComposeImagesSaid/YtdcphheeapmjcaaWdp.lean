/-
  CONTRACT: the specification's PowerWord.
-/
import Derived.Test.YtdcphheeapmjcaaWds
import Derived.Test.YtdcphheeapmjcaaWdi
namespace Go.Proofs.Ytdcphheeapmjcaa
open Go.ChangeShapes Go.WideShapes Go.ChangeAt Go.RowKit
open Wd
theorem inv_letters {l : List UInt8} (h : ∀ c ∈ l, isL c = true) : ∀ c ∈ inv l, isL c = true := by
  intro c hc
  simp only [inv, List.mem_map, List.mem_reverse] at hc
  obtain ⟨d, hd, rfl⟩ := hc
  exact oth_isL (h d hd)
theorem redS_letters {out : List UInt8} {c : UInt8} (h : ∀ d ∈ out, isL d = true) (hc : isL c = true) : ∀ d ∈ redS out c, isL d = true := by
  intro d hd
  unfold redS at hd
  split at hd
  · exact h d (List.dropLast_subset _ hd)
  · rcases List.mem_append.1 hd with h1 | h1
    · exact h d h1
    · rw [List.mem_singleton.1 h1]; exact hc
theorem red_letters {l : List UInt8} (h : ∀ c ∈ l, isL c = true) : ∀ c ∈ red l, isL c = true := by
  suffices H : ∀ (l out : List UInt8), (∀ c ∈ l, isL c = true) → (∀ c ∈ out, isL c = true) → ∀ c ∈ l.foldl redS out, isL c = true from H l [] h (by simp)
  intro l
  induction l with
  | nil => intro out _ ho; exact ho
  | cons a r ih =>
    intro out hl ho
    exact ih _ (fun c hc => hl c (List.mem_cons_of_mem _ hc)) (redS_letters ho (hl a List.mem_cons_self))
/-- a word, so many times behind itself, reduced after each -/
def powR (l : List UInt8) : Nat → List UInt8
  | 0 => []
  | n + 1 => red (powR l n ++ l)
theorem powR_letters {l : List UInt8} (h : ∀ c ∈ l, isL c = true) (n : Nat) : ∀ c ∈ powR l n, isL c = true := by
  induction n with
  | zero => simp [powR]
  | succ n ih =>
    refine red_letters fun c hc => ?_
    rcases List.mem_append.1 hc with h1 | h1
    · exact ih c h1
    · exact h c h1
theorem powR_length (l : List UInt8) (n : Nat) : (powR l n).length ≤ n * l.length := by
  induction n with
  | zero => simp [powR]
  | succ n ih =>
    have h1 := red_length (powR l n ++ l)
    rw [List.length_append] at h1
    rw [Nat.succ_mul]
    exact Nat.le_trans h1 (Nat.add_le_add_right ih _)
theorem txt_app (a b : List UInt8) : txt a ++ txt b = txt (a ++ b) := by
  simp only [txt]
  apply ByteArray.ext
  simp
theorem reduce_cat (a b : List UInt8) (hl : ∀ c ∈ a ++ b, isL c = true) (hm : (a ++ b).length ≤ 4000000) (w : World) :
    Calls Try.prog 89 #[.string (txt a ++ txt b)] w (StrPost (red (a ++ b)) w) := by
  rw [txt_app]
  exact reduce_any _ hl hm w
theorem powloop_bound {l : List UInt8} (hl : l.length ≤ 40) {j m : Nat} (hj : j ≤ m) (hm : m ≤ 40) : (powR l j ++ l).length ≤ 4000000 := by
  have h1 := powR_length l j
  have h2 : j * l.length ≤ 40 * 40 := Nat.mul_le_mul (by omega) hl
  rw [List.length_append]
  omega
def powPost (l : List UInt8) (n : Int) (w : World) : Ending → World → Prop :=
  TextPost (if wordB l then (if -40 ≤ n ∧ n ≤ 40 then (if (powR (if n < 0 then inv l else l) n.natAbs).length ≤ 40 then powR (if n < 0 then inv l else l) n.natAbs else []) else []) else [])
    (if wordB l then (if -40 ≤ n ∧ n ≤ 40 then (if (powR (if n < 0 then inv l else l) n.natAbs).length ≤ 40 then 0 else 3) else 2) else 1) w
end Go.Proofs.Ytdcphheeapmjcaa
