/- what is looked at once of each operation. -/
import Derived.Test.YtojpmbkbeoolcaaKP
namespace Go.Proofs.Ytojpmbkbeoolcaa.K
open Go.Sx Go
set_option maxRecDepth 100000
theorem r_6_0_0_0 : chkRow 6 0 0 0 = true := by kernel_rfl
theorem r_6_0_0_1 : chkRow 6 0 0 1 = true := by kernel_rfl
theorem r_6_1_0_0 : chkRow 6 1 0 0 = true := by kernel_rfl
theorem r_6_1_0_1 : chkRow 6 1 0 1 = true := by kernel_rfl
theorem r_6_2_0_0 : chkRow 6 2 0 0 = true := by kernel_rfl
theorem r_6_2_0_1 : chkRow 6 2 0 1 = true := by kernel_rfl
theorem r_6_3_0_0 : chkRow 6 3 0 0 = true := by kernel_rfl
theorem r_6_3_0_1 : chkRow 6 3 0 1 = true := by kernel_rfl
theorem r_6_4_0_0 : chkRow 6 4 0 0 = true := by kernel_rfl
theorem r_6_4_0_1 : chkRow 6 4 0 1 = true := by kernel_rfl
theorem r_7_0_0_0 : chkRow 7 0 0 0 = true := by kernel_rfl
theorem r_7_1_0_0 : chkRow 7 1 0 0 = true := by kernel_rfl
theorem r_7_2_0_0 : chkRow 7 2 0 0 = true := by kernel_rfl
theorem r_7_3_0_0 : chkRow 7 3 0 0 = true := by kernel_rfl
theorem r_7_4_0_0 : chkRow 7 4 0 0 = true := by kernel_rfl
theorem r_8_0_0_0 : chkRow 8 0 0 0 = true := by kernel_rfl
theorem r_8_1_0_0 : chkRow 8 1 0 0 = true := by kernel_rfl
theorem r_8_2_0_0 : chkRow 8 2 0 0 = true := by kernel_rfl
theorem r_8_3_0_0 : chkRow 8 3 0 0 = true := by kernel_rfl
theorem r_8_4_0_0 : chkRow 8 4 0 0 = true := by kernel_rfl
theorem r_9_0_0_0 : chkRow 9 0 0 0 = true := by kernel_rfl
theorem r_10_0_0_0 : chkRow 10 0 0 0 = true := by kernel_rfl
theorem r_10_0_1_0 : chkRow 10 0 1 0 = true := by kernel_rfl
theorem r_10_0_2_0 : chkRow 10 0 2 0 = true := by kernel_rfl
theorem r_10_0_3_0 : chkRow 10 0 3 0 = true := by kernel_rfl
theorem r_10_0_4_0 : chkRow 10 0 4 0 = true := by kernel_rfl
theorem r_10_1_0_0 : chkRow 10 1 0 0 = true := by kernel_rfl
theorem r_10_1_1_0 : chkRow 10 1 1 0 = true := by kernel_rfl
theorem r_10_1_2_0 : chkRow 10 1 2 0 = true := by kernel_rfl
theorem r_10_1_3_0 : chkRow 10 1 3 0 = true := by kernel_rfl
theorem r_10_1_4_0 : chkRow 10 1 4 0 = true := by kernel_rfl
theorem r_10_2_0_0 : chkRow 10 2 0 0 = true := by kernel_rfl
theorem r_10_2_1_0 : chkRow 10 2 1 0 = true := by kernel_rfl
theorem r_10_2_2_0 : chkRow 10 2 2 0 = true := by kernel_rfl
theorem r_10_2_3_0 : chkRow 10 2 3 0 = true := by kernel_rfl
theorem r_10_2_4_0 : chkRow 10 2 4 0 = true := by kernel_rfl
theorem r_10_3_0_0 : chkRow 10 3 0 0 = true := by kernel_rfl
theorem r_10_3_1_0 : chkRow 10 3 1 0 = true := by kernel_rfl
theorem r_10_3_2_0 : chkRow 10 3 2 0 = true := by kernel_rfl
theorem r_10_3_3_0 : chkRow 10 3 3 0 = true := by kernel_rfl
theorem r_10_3_4_0 : chkRow 10 3 4 0 = true := by kernel_rfl
theorem r_10_4_0_0 : chkRow 10 4 0 0 = true := by kernel_rfl
theorem r_10_4_1_0 : chkRow 10 4 1 0 = true := by kernel_rfl
theorem r_10_4_2_0 : chkRow 10 4 2 0 = true := by kernel_rfl
theorem r_10_4_3_0 : chkRow 10 4 3 0 = true := by kernel_rfl
theorem r_10_4_4_0 : chkRow 10 4 4 0 = true := by kernel_rfl
end Go.Proofs.Ytojpmbkbeoolcaa.K
