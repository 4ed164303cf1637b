/- what is looked at of each operation upon each image. -/
import Derived.Test.YtojpmbkbeoolcaaV
namespace Go.Proofs.Ytojpmbkbeoolcaa
open Go.Sx Go
set_option maxRecDepth 100000
theorem c31_7_4_0_0 : chkC 7 4 0 0 = true := by kernel_rfl
theorem c31_7_0_0_0 : chkC 7 0 0 0 = true := by kernel_rfl
theorem c31_6_3_0_0 : chkC 6 3 0 0 = true := by kernel_rfl
theorem c31_6_1_0_0 : chkC 6 1 0 0 = true := by kernel_rfl
theorem c31_8_3_0_0 : chkC 8 3 0 0 = true := by kernel_rfl
theorem c31_10_4_4_0 : chkC 10 4 4 0 = true := by kernel_rfl
theorem c31_10_4_0_0 : chkC 10 4 0 0 = true := by kernel_rfl
theorem c31_10_3_1_0 : chkC 10 3 1 0 = true := by kernel_rfl
theorem c31_10_2_2_0 : chkC 10 2 2 0 = true := by kernel_rfl
theorem c31_10_1_3_0 : chkC 10 1 3 0 = true := by kernel_rfl
theorem c31_10_0_4_0 : chkC 10 0 4 0 = true := by kernel_rfl
theorem c31_10_0_0_0 : chkC 10 0 0 0 = true := by kernel_rfl
theorem b30_4_2_0 : ok30 4 2 0 = true := by kernel_rfl
theorem b30_4_1_0 : ok30 4 1 0 = true := by kernel_rfl
theorem b30_4_0_0 : ok30 4 0 0 = true := by kernel_rfl
theorem b30_2_2_0 : ok30 2 2 0 = true := by kernel_rfl
theorem b30_1_2_0 : ok30 1 2 0 = true := by kernel_rfl
theorem b30_0_2_0 : ok30 0 2 0 = true := by kernel_rfl
end Go.Proofs.Ytojpmbkbeoolcaa
