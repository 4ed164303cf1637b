/- the reference's NewWriter: runs, b. -/
import Derived.Test.YtofmndcdcchflaaNN
namespace Go.Proofs.Ytofmndcdcchflaa
open Go.Sx Go Go.DescNum
set_option maxRecDepth 100000
theorem nw_15 : okNw 15 = true := by kernel_rfl
theorem nw_12 : okNw 12 = true := by kernel_rfl
theorem nw_9 : okNw 9 = true := by kernel_rfl
theorem nw_6 : okNw 6 = true := by kernel_rfl
theorem nw_3 : okNw 3 = true := by kernel_rfl
end Go.Proofs.Ytofmndcdcchflaa
