/- DescForms: runs, 1. -/
import Derived.Test.YtofmndcdcchflaaDF
namespace Go.Proofs.Ytofmndcdcchflaa
open Go.Sx Go Go.DescNum
set_option maxRecDepth 100000
theorem df0_1 : okF 0 1 = true := by kernel_rfl
theorem df1_1 : okF 1 1 = true := by kernel_rfl
theorem df2_1 : okF 2 1 = true := by kernel_rfl
theorem df3_1 : okF 3 1 = true := by kernel_rfl
theorem df4_1 : okF 4 1 = true := by kernel_rfl
theorem df5_1 : okF 5 1 = true := by kernel_rfl
theorem df6_1 : okF 6 1 = true := by kernel_rfl
theorem df7_1 : okF 7 1 = true := by kernel_rfl
theorem df8_1 : okF 8 1 = true := by kernel_rfl
theorem df9_1 : okF 9 1 = true := by kernel_rfl
theorem df10_1 : okF 10 1 = true := by kernel_rfl
end Go.Proofs.Ytofmndcdcchflaa
