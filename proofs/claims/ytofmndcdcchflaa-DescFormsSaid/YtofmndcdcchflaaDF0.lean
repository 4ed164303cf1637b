/- DescForms: runs, 0. -/
import Derived.Test.YtofmndcdcchflaaDF
namespace Go.Proofs.Ytofmndcdcchflaa
open Go.Sx Go Go.DescNum
set_option maxRecDepth 100000
theorem df0_0 : okF 0 0 = true := by kernel_rfl
theorem df1_0 : okF 1 0 = true := by kernel_rfl
theorem df2_0 : okF 2 0 = true := by kernel_rfl
theorem df3_0 : okF 3 0 = true := by kernel_rfl
theorem df4_0 : okF 4 0 = true := by kernel_rfl
theorem df5_0 : okF 5 0 = true := by kernel_rfl
theorem df6_0 : okF 6 0 = true := by kernel_rfl
theorem df7_0 : okF 7 0 = true := by kernel_rfl
theorem df8_0 : okF 8 0 = true := by kernel_rfl
theorem df9_0 : okF 9 0 = true := by kernel_rfl
theorem df10_0 : okF 10 0 = true := by kernel_rfl
end Go.Proofs.Ytofmndcdcchflaa
