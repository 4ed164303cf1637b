/- may: runs, MPb. -/
import Derived.Test.YtofmndcdcchflaaMY
namespace Go.Proofs.Ytofmndcdcchflaa
open Go.Sx Go Go.DescNum
set_option maxRecDepth 100000
theorem may32_15 : okMay 32 15 = true := by kernel_rfl
theorem may32_12 : okMay 32 12 = true := by kernel_rfl
theorem may32_5 : okMay 32 5 = true := by kernel_rfl
theorem may32_4 : okMay 32 4 = true := by kernel_rfl
theorem may32_1 : okMay 32 1 = true := by kernel_rfl
theorem may32_0 : okMay 32 0 = true := by kernel_rfl
theorem may35_15 : okMay 35 15 = true := by kernel_rfl
theorem may35_12 : okMay 35 12 = true := by kernel_rfl
theorem may35_5 : okMay 35 5 = true := by kernel_rfl
theorem may35_4 : okMay 35 4 = true := by kernel_rfl
theorem may35_1 : okMay 35 1 = true := by kernel_rfl
theorem may35_0 : okMay 35 0 = true := by kernel_rfl
end Go.Proofs.Ytofmndcdcchflaa
