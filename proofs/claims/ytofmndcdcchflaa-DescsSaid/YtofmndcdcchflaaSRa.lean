/- stores: runs, a. -/
import Derived.Test.YtofmndcdcchflaaNW
namespace Go.Proofs.Ytofmndcdcchflaa
open Go.Sx Go Go.DescNum
set_option maxRecDepth 100000
theorem st_16 : okSt 16 = true := by kernel_rfl
theorem st_9 : okSt 9 = true := by kernel_rfl
theorem st_8 : okSt 8 = true := by kernel_rfl
theorem st_3 : okSt 3 = true := by kernel_rfl
theorem st_2 : okSt 2 = true := by kernel_rfl
end Go.Proofs.Ytofmndcdcchflaa
