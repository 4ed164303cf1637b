/- the reference's NewWriter: runs, c. -/
import Derived.Test.YtofmndcdcchflaaNN
namespace Go.Proofs.Ytofmndcdcchflaa
open Go.Sx Go Go.DescNum
set_option maxRecDepth 100000
theorem nw_14 : okNw 14 = true := by kernel_rfl
theorem nw_13 : okNw 13 = true := by kernel_rfl
theorem nw_10 : okNw 10 = true := by kernel_rfl
theorem nw_7 : okNw 7 = true := by kernel_rfl
theorem nw_4 : okNw 4 = true := by kernel_rfl
end Go.Proofs.Ytofmndcdcchflaa
