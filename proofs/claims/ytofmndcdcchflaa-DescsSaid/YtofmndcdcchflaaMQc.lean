/- may: runs, MPc. -/
import Derived.Test.YtofmndcdcchflaaMY
namespace Go.Proofs.Ytofmndcdcchflaa
open Go.Sx Go Go.DescNum
set_option maxRecDepth 100000
theorem may32_14 : okMay 32 14 = true := by kernel_rfl
theorem may32_13 : okMay 32 13 = true := by kernel_rfl
theorem may32_11 : okMay 32 11 = true := by kernel_rfl
theorem may32_10 : okMay 32 10 = true := by kernel_rfl
theorem may32_7 : okMay 32 7 = true := by kernel_rfl
theorem may32_6 : okMay 32 6 = true := by kernel_rfl
theorem may35_14 : okMay 35 14 = true := by kernel_rfl
theorem may35_13 : okMay 35 13 = true := by kernel_rfl
theorem may35_11 : okMay 35 11 = true := by kernel_rfl
theorem may35_10 : okMay 35 10 = true := by kernel_rfl
theorem may35_7 : okMay 35 7 = true := by kernel_rfl
theorem may35_6 : okMay 35 6 = true := by kernel_rfl
end Go.Proofs.Ytofmndcdcchflaa
