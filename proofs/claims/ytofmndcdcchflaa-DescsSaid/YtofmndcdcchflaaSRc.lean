/- stores: runs, c. -/
import Derived.Test.YtofmndcdcchflaaNW
namespace Go.Proofs.Ytofmndcdcchflaa
open Go.Sx Go Go.DescNum
set_option maxRecDepth 100000
theorem st_14 : okSt 14 = true := by kernel_rfl
theorem st_13 : okSt 13 = true := by kernel_rfl
theorem st_11 : okSt 11 = true := by kernel_rfl
theorem st_10 : okSt 10 = true := by kernel_rfl
theorem st_7 : okSt 7 = true := by kernel_rfl
theorem st_6 : okSt 6 = true := by kernel_rfl
end Go.Proofs.Ytofmndcdcchflaa
