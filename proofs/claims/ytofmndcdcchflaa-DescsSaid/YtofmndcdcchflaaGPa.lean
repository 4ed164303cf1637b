/- Get: runs, GP0a. -/
import Derived.Test.YtofmndcdcchflaaGD
namespace Go.Proofs.Ytofmndcdcchflaa
open Go.Sx Go Go.DescNum
set_option maxRecDepth 100000
theorem gp0_16 : okGetH 21 16 0 = true := by kernel_rfl
theorem gp0_10 : okGetH 21 10 0 = true := by kernel_rfl
theorem gp0_8 : okGetH 21 8 0 = true := by kernel_rfl
theorem gp0_3 : okGetH 21 3 0 = true := by kernel_rfl
theorem gp1_16 : okGetH 21 16 1 = true := by kernel_rfl
theorem gp1_10 : okGetH 21 10 1 = true := by kernel_rfl
theorem gp1_8 : okGetH 21 8 1 = true := by kernel_rfl
theorem gp1_3 : okGetH 21 3 1 = true := by kernel_rfl
end Go.Proofs.Ytofmndcdcchflaa
