/- stores: runs, b. -/
import Derived.Test.YtofmndcdcchflaaNW
namespace Go.Proofs.Ytofmndcdcchflaa
open Go.Sx Go Go.DescNum
set_option maxRecDepth 100000
theorem st_15 : okSt 15 = true := by kernel_rfl
theorem st_12 : okSt 12 = true := by kernel_rfl
theorem st_5 : okSt 5 = true := by kernel_rfl
theorem st_4 : okSt 4 = true := by kernel_rfl
theorem st_1 : okSt 1 = true := by kernel_rfl
end Go.Proofs.Ytofmndcdcchflaa
