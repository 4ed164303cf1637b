/- DescForms: runs, 3. -/
import Derived.Test.YtofmndcdcchflaaDF
namespace Go.Proofs.Ytofmndcdcchflaa
open Go.Sx Go Go.DescNum
set_option maxRecDepth 100000
theorem df0_3 : okF 0 3 = true := by kernel_rfl
theorem df1_3 : okF 1 3 = true := by kernel_rfl
theorem df2_3 : okF 2 3 = true := by kernel_rfl
theorem df3_3 : okF 3 3 = true := by kernel_rfl
theorem df4_3 : okF 4 3 = true := by kernel_rfl
theorem df5_3 : okF 5 3 = true := by kernel_rfl
theorem df6_3 : okF 6 3 = true := by kernel_rfl
theorem df7_3 : okF 7 3 = true := by kernel_rfl
theorem df8_3 : okF 8 3 = true := by kernel_rfl
theorem df9_3 : okF 9 3 = true := by kernel_rfl
theorem df10_3 : okF 10 3 = true := by kernel_rfl
end Go.Proofs.Ytofmndcdcchflaa
