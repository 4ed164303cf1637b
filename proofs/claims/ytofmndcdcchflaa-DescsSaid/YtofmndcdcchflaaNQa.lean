/- the reference's NewWriter: runs, a. -/
import Derived.Test.YtofmndcdcchflaaNN
namespace Go.Proofs.Ytofmndcdcchflaa
open Go.Sx Go Go.DescNum
set_option maxRecDepth 100000
theorem nw_16 : okNw 16 = true := by kernel_rfl
theorem nw_11 : okNw 11 = true := by kernel_rfl
theorem nw_8 : okNw 8 = true := by kernel_rfl
theorem nw_5 : okNw 5 = true := by kernel_rfl
theorem nw_2 : okNw 2 = true := by kernel_rfl
theorem nw_1 : okNw 1 = true := by kernel_rfl
end Go.Proofs.Ytofmndcdcchflaa
