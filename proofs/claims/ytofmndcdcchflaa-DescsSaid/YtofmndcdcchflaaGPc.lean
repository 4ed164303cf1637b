/- Get: runs, GP0c. -/
import Derived.Test.YtofmndcdcchflaaGD
namespace Go.Proofs.Ytofmndcdcchflaa
open Go.Sx Go Go.DescNum
set_option maxRecDepth 100000
theorem gp0_14 : okGetH 21 14 0 = true := by kernel_rfl
theorem gp0_13 : okGetH 21 13 0 = true := by kernel_rfl
theorem gp0_11 : okGetH 21 11 0 = true := by kernel_rfl
theorem gp0_9 : okGetH 21 9 0 = true := by kernel_rfl
theorem gp0_6 : okGetH 21 6 0 = true := by kernel_rfl
theorem gp0_5 : okGetH 21 5 0 = true := by kernel_rfl
theorem gp0_2 : okGetH 21 2 0 = true := by kernel_rfl
theorem gp0_1 : okGetH 21 1 0 = true := by kernel_rfl
theorem gpN : okNoV 21 = true := by kernel_rfl
theorem gpM : okMany 21 = true := by kernel_rfl
theorem gp1_14 : okGetH 21 14 1 = true := by kernel_rfl
theorem gp1_13 : okGetH 21 13 1 = true := by kernel_rfl
theorem gp1_11 : okGetH 21 11 1 = true := by kernel_rfl
theorem gp1_9 : okGetH 21 9 1 = true := by kernel_rfl
theorem gp1_6 : okGetH 21 6 1 = true := by kernel_rfl
theorem gp1_5 : okGetH 21 5 1 = true := by kernel_rfl
theorem gp1_2 : okGetH 21 2 1 = true := by kernel_rfl
theorem gp1_1 : okGetH 21 1 1 = true := by kernel_rfl
end Go.Proofs.Ytofmndcdcchflaa
