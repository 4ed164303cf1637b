/- what is looked at of each operation upon each image. -/
import Derived.Test.YtojpmbkbeoolcaaV
namespace Go.Proofs.Ytojpmbkbeoolcaa
open Go.Sx Go
set_option maxRecDepth 100000
theorem c31_7_1_0_0 : chkC 7 1 0 0 = true := by kernel_rfl
theorem c31_6_3_0_1 : chkC 6 3 0 1 = true := by kernel_rfl
theorem c31_6_1_0_1 : chkC 6 1 0 1 = true := by kernel_rfl
theorem c31_9_0_0_0 : chkC 9 0 0 0 = true := by kernel_rfl
theorem c31_8_4_0_0 : chkC 8 4 0 0 = true := by kernel_rfl
theorem c31_8_0_0_0 : chkC 8 0 0 0 = true := by kernel_rfl
theorem c31_10_4_1_0 : chkC 10 4 1 0 = true := by kernel_rfl
theorem c31_10_3_2_0 : chkC 10 3 2 0 = true := by kernel_rfl
theorem c31_10_2_3_0 : chkC 10 2 3 0 = true := by kernel_rfl
theorem c31_10_1_4_0 : chkC 10 1 4 0 = true := by kernel_rfl
theorem c31_10_1_0_0 : chkC 10 1 0 0 = true := by kernel_rfl
theorem c31_10_0_1_0 : chkC 10 0 1 0 = true := by kernel_rfl
theorem b30_4_3_0 : ok30 4 3 0 = true := by kernel_rfl
theorem b30_4_2_1 : ok30 4 2 1 = true := by kernel_rfl
theorem b30_4_1_1 : ok30 4 1 1 = true := by kernel_rfl
theorem b30_4_0_1 : ok30 4 0 1 = true := by kernel_rfl
theorem b30_3_1_0 : ok30 3 1 0 = true := by kernel_rfl
theorem b30_2_1_0 : ok30 2 1 0 = true := by kernel_rfl
theorem b30_1_1_0 : ok30 1 1 0 = true := by kernel_rfl
theorem b30_0_1_0 : ok30 0 1 0 = true := by kernel_rfl
end Go.Proofs.Ytojpmbkbeoolcaa
