/-
  THE SORT OF BLOCKS.
-/
import Derived.Test.YthfmkejdpflpcaaNf
import Derived.Test.YthfmkejdpflpcaaJv
import Derived.Test.YthfmkejdpflpcaaShB
namespace Go.Proofs.Ythfmkejdpflpcaa
open Go.ChangeShapes Go.WideShapes Go.ChangeAt Go.RowKit Go.Proofs
theorem sf0b : SF0B := fun F blk cap d w hcmp hH hblk hsz => by
  have eg : ∀ args w, (callFunc 99 args).run Try.prog w = .ok (.enter 99 args) w := enters_of Try.func99 (by kernel_rfl) rfl
  exact Try.slices_SortFuncB 18 Try.isAgg73 Try.sizeOf73 (encB F) (encB_len F) (fun x v hv => encB_one F x v hv) cfP swoP 99 #[] blk 0 cap d w eg hcmp hH hblk hsz
theorem sortsB : SortsB := sortsB_of sf0b (sfnb_of fun W => (Try.bits_Len 0 W (by omega) (by omega)).mono fun _ _ ⟨he, hw⟩ => ⟨⟨_, he⟩, hw⟩)
end Go.Proofs.Ythfmkejdpflpcaa
