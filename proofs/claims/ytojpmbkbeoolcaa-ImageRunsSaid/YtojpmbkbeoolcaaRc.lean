/- what is looked at of each operation upon each image. -/
import Derived.Test.YtojpmbkbeoolcaaV
namespace Go.Proofs.Ytojpmbkbeoolcaa
open Go.Sx Go
set_option maxRecDepth 100000
theorem c31_7_2_0_0 : chkC 7 2 0 0 = true := by kernel_rfl
theorem c31_6_4_0_0 : chkC 6 4 0 0 = true := by kernel_rfl
theorem c31_6_2_0_0 : chkC 6 2 0 0 = true := by kernel_rfl
theorem c31_6_0_0_0 : chkC 6 0 0 0 = true := by kernel_rfl
theorem c31_8_1_0_0 : chkC 8 1 0 0 = true := by kernel_rfl
theorem c31_10_4_2_0 : chkC 10 4 2 0 = true := by kernel_rfl
theorem c31_10_3_3_0 : chkC 10 3 3 0 = true := by kernel_rfl
theorem c31_10_2_4_0 : chkC 10 2 4 0 = true := by kernel_rfl
theorem c31_10_2_0_0 : chkC 10 2 0 0 = true := by kernel_rfl
theorem c31_10_1_1_0 : chkC 10 1 1 0 = true := by kernel_rfl
theorem c31_10_0_2_0 : chkC 10 0 2 0 = true := by kernel_rfl
theorem b30_4_3_3 : ok30 4 3 3 = true := by kernel_rfl
theorem b30_4_3_2 : ok30 4 3 2 = true := by kernel_rfl
theorem b30_4_3_1 : ok30 4 3 1 = true := by kernel_rfl
theorem b30_4_2_3 : ok30 4 2 3 = true := by kernel_rfl
theorem b30_4_1_3 : ok30 4 1 3 = true := by kernel_rfl
theorem b30_4_0_3 : ok30 4 0 3 = true := by kernel_rfl
theorem b30_3_3_0 : ok30 3 3 0 = true := by kernel_rfl
theorem b30_3_0_0 : ok30 3 0 0 = true := by kernel_rfl
theorem b30_2_0_0 : ok30 2 0 0 = true := by kernel_rfl
theorem b30_1_0_0 : ok30 1 0 0 = true := by kernel_rfl
theorem b30_0_0_0 : ok30 0 0 0 = true := by kernel_rfl
end Go.Proofs.Ytojpmbkbeoolcaa
