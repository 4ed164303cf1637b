/- what is looked at of each operation upon each image. -/
import Derived.Test.YtojpmbkbeoolcaaV
namespace Go.Proofs.Ytojpmbkbeoolcaa
open Go.Sx Go
set_option maxRecDepth 100000
theorem c31_7_3_0_0 : chkC 7 3 0 0 = true := by kernel_rfl
theorem c31_6_4_0_1 : chkC 6 4 0 1 = true := by kernel_rfl
theorem c31_6_2_0_1 : chkC 6 2 0 1 = true := by kernel_rfl
theorem c31_6_0_0_1 : chkC 6 0 0 1 = true := by kernel_rfl
theorem c31_8_2_0_0 : chkC 8 2 0 0 = true := by kernel_rfl
theorem c31_10_4_3_0 : chkC 10 4 3 0 = true := by kernel_rfl
theorem c31_10_3_4_0 : chkC 10 3 4 0 = true := by kernel_rfl
theorem c31_10_3_0_0 : chkC 10 3 0 0 = true := by kernel_rfl
theorem c31_10_2_1_0 : chkC 10 2 1 0 = true := by kernel_rfl
theorem c31_10_1_2_0 : chkC 10 1 2 0 = true := by kernel_rfl
theorem c31_10_0_3_0 : chkC 10 0 3 0 = true := by kernel_rfl
theorem b30_5_0_0 : ok30 5 0 0 = true := by kernel_rfl
theorem b30_4_2_2 : ok30 4 2 2 = true := by kernel_rfl
theorem b30_4_1_2 : ok30 4 1 2 = true := by kernel_rfl
theorem b30_4_0_2 : ok30 4 0 2 = true := by kernel_rfl
theorem b30_3_2_0 : ok30 3 2 0 = true := by kernel_rfl
theorem b30_2_3_0 : ok30 2 3 0 = true := by kernel_rfl
theorem b30_1_3_0 : ok30 1 3 0 = true := by kernel_rfl
theorem b30_0_3_0 : ok30 0 3 0 = true := by kernel_rfl
end Go.Proofs.Ytojpmbkbeoolcaa
