/- may: runs, MPa. -/
import Derived.Test.YtofmndcdcchflaaMY
namespace Go.Proofs.Ytofmndcdcchflaa
open Go.Sx Go Go.DescNum
set_option maxRecDepth 100000
theorem may32_16 : okMay 32 16 = true := by kernel_rfl
theorem may32_9 : okMay 32 9 = true := by kernel_rfl
theorem may32_8 : okMay 32 8 = true := by kernel_rfl
theorem may32_3 : okMay 32 3 = true := by kernel_rfl
theorem may32_2 : okMay 32 2 = true := by kernel_rfl
theorem may35_16 : okMay 35 16 = true := by kernel_rfl
theorem may35_9 : okMay 35 9 = true := by kernel_rfl
theorem may35_8 : okMay 35 8 = true := by kernel_rfl
theorem may35_3 : okMay 35 3 = true := by kernel_rfl
theorem may35_2 : okMay 35 2 = true := by kernel_rfl
end Go.Proofs.Ytofmndcdcchflaa
