/-
  THE SORT OF POINTS.
-/
import Derived.Test.YthfmkejdpflpcaaGcc
import Derived.Test.YthfmkejdpflpcaaShZ
namespace Go.Proofs.Ythfmkejdpflpcaa
open Go.ChangeShapes Go.WideShapes Go.ChangeAt Go.RowKit Go.Proofs
theorem sf0 : SF0 := fun blk cap d w hcmp hH hblk hsz => by
  have eg : ∀ args w, (callFunc 100 args).run Try.prog w = .ok (.enter 100 args) w := enters_of Try.func100 (by kernel_rfl) rfl
  exact Try.slices_SortFunc 2 Try.isAgg45 Try.sizeOf45 encP (fun _ => rfl) (fun x v hv => by simp [encP, two] at hv; rcases hv with rfl | rfl <;> rfl) cfP swoP 100 #[] blk 0 cap d w eg hcmp hH hblk hsz
theorem sfn : SFN := sfn_of fun W => (Try.bits_Len 0 W (by omega) (by omega)).mono fun _ _ ⟨he, hw⟩ => ⟨⟨_, he⟩, hw⟩
theorem sortsP : SortsP := sortsP_of sf0 sfn
end Go.Proofs.Ythfmkejdpflpcaa
