/- DescForms: runs, 2. -/
import Derived.Test.YtofmndcdcchflaaDF
namespace Go.Proofs.Ytofmndcdcchflaa
open Go.Sx Go Go.DescNum
set_option maxRecDepth 100000
theorem df0_2 : okF 0 2 = true := by kernel_rfl
theorem df1_2 : okF 1 2 = true := by kernel_rfl
theorem df2_2 : okF 2 2 = true := by kernel_rfl
theorem df3_2 : okF 3 2 = true := by kernel_rfl
theorem df4_2 : okF 4 2 = true := by kernel_rfl
theorem df5_2 : okF 5 2 = true := by kernel_rfl
theorem df6_2 : okF 6 2 = true := by kernel_rfl
theorem df7_2 : okF 7 2 = true := by kernel_rfl
theorem df8_2 : okF 8 2 = true := by kernel_rfl
theorem df9_2 : okF 9 2 = true := by kernel_rfl
theorem df10_2 : okF 10 2 = true := by kernel_rfl
end Go.Proofs.Ytofmndcdcchflaa
