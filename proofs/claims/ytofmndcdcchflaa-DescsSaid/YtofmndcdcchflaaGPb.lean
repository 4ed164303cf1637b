/- Get: runs, GP0b. -/
import Derived.Test.YtofmndcdcchflaaGD
namespace Go.Proofs.Ytofmndcdcchflaa
open Go.Sx Go Go.DescNum
set_option maxRecDepth 100000
theorem gp0_15 : okGetH 21 15 0 = true := by kernel_rfl
theorem gp0_12 : okGetH 21 12 0 = true := by kernel_rfl
theorem gp0_7 : okGetH 21 7 0 = true := by kernel_rfl
theorem gp0_4 : okGetH 21 4 0 = true := by kernel_rfl
theorem gp0_0 : okGetH 21 0 0 = true := by kernel_rfl
theorem gp1_15 : okGetH 21 15 1 = true := by kernel_rfl
theorem gp1_12 : okGetH 21 12 1 = true := by kernel_rfl
theorem gp1_7 : okGetH 21 7 1 = true := by kernel_rfl
theorem gp1_4 : okGetH 21 4 1 = true := by kernel_rfl
theorem gp1_0 : okGetH 21 0 1 = true := by kernel_rfl
end Go.Proofs.Ytofmndcdcchflaa
