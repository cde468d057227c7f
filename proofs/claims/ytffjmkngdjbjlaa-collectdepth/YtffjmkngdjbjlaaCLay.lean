/- A contract of the library's, laid at this program's numbers (its closed facts are paid). -/
import Derived.Test.YtffjmkngdjbjlaaChecked
import Derived.Shelf.Slices.In.CompactS
namespace Go.Proofs.Ytffjmkngdjbjlaa
open Go.RowKit Go.Proofs
def ren194 : Go.Shelf.Ren := ⟨fun | 194 => 11 | n => n, fun | 0 => 0 | 3 => 3 | 4 => 4 | 9 => 9 | 31 => 35 | n => n, fun n => n⟩
set_option maxRecDepth 100000 in
theorem lays194 : Go.Proofs.Lays.n194 Try.prog ren194 := {
  mixed := by kernel_rfl
  f194 := Try.func11.trans (congrArg some (by kernel_rfl))
  t0 := Try.underlying0
  a0 := Try.isAgg0
  z0 := Try.sizeOf0
  v0 := Try.zeroValue0
  t3 := Try.underlying3
  a3 := Try.isAgg3
  z3 := Try.sizeOf3
  v3 := Try.zeroValue3
  t4 := Try.underlying4
  a4 := Try.isAgg4
  z4 := Try.sizeOf4
  v4 := Try.zeroValue4
  t9 := Try.underlying9
  a9 := Try.isAgg9
  z9 := Try.sizeOf9
  v9 := Try.zeroValue9
  t31 := Try.underlying35
  a31 := Try.isAgg35
  z31 := Try.sizeOf35
  v31 := Try.zeroValue35 }
end Go.Proofs.Ytffjmkngdjbjlaa
