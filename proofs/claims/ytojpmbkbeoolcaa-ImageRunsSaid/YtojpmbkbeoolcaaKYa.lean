/- a key's operation upon any view, by its runs. -/
import Derived.Test.YtojpmbkbeoolcaaKD
namespace Go.Proofs.Ytojpmbkbeoolcaa.K
open Go.Sx Go
set_option maxRecDepth 100000
theorem y8_7_4_0_0_3 : vRun 40 t8 ((form8 7 4 0 0).more (((d8_7_4_0_0).ways ([(-1, 1), (0, 1)].map bf)).getD 3 [])) = true := by kernel_rfl
theorem y8_6_4_0_1_3 : vRun 40 t8 ((form8 6 4 0 1).more (((d8_6_4_0_1).ways ([(-1, 1), (0, 1)].map bf)).getD 3 [])) = true := by kernel_rfl
theorem y8_7_3_0_0_1 : vRun 40 t8 ((form8 7 3 0 0).more (((d8_7_3_0_0).ways ([(-1, 1)].map bf)).getD 1 [])) = true := by kernel_rfl
theorem y8_6_4_0_0_1 : vRun 40 t8 ((form8 6 4 0 0).more (((d8_6_4_0_0).ways ([(-1, 1), (0, 1)].map bf)).getD 1 [])) = true := by kernel_rfl
theorem y8_7_2_0_0_0 : vRun 40 t8 ((form8 7 2 0 0).more (((d8_7_2_0_0).ways ([].map bf)).getD 0 [])) = true := by kernel_rfl
theorem y8_10_3_4_0_1 : vRun 40 t8 ((form8 10 3 4 0).more (((d8_10_3_4_0).ways ([(-1, 1)].map bf)).getD 1 [])) = true := by kernel_rfl
theorem y8_10_4_4_0_2 : vRun 40 t8 ((form8 10 4 4 0).more (((d8_10_4_4_0).ways ([(-1, 1)].map bf)).getD 2 [])) = true := by kernel_rfl
theorem y8_8_4_0_0_2 : vRun 40 t8 ((form8 8 4 0 0).more (((d8_8_4_0_0).ways ([(-1, 1)].map bf)).getD 2 [])) = true := by kernel_rfl
theorem y8_10_2_4_0_0 : vRun 40 t8 ((form8 10 2 4 0).more (((d8_10_2_4_0).ways ([(-1, 1)].map bf)).getD 0 [])) = true := by kernel_rfl
theorem y8_10_4_2_0_1 : vRun 40 t8 ((form8 10 4 2 0).more (((d8_10_4_2_0).ways ([(-1, 1)].map bf)).getD 1 [])) = true := by kernel_rfl
theorem y8_10_4_1_0_0 : vRun 40 t8 ((form8 10 4 1 0).more (((d8_10_4_1_0).ways ([(-1, 1)].map bf)).getD 0 [])) = true := by kernel_rfl
theorem y8_10_1_3_0_0 : vRun 40 t8 ((form8 10 1 3 0).more (((d8_10_1_3_0).ways ([].map bf)).getD 0 [])) = true := by kernel_rfl
theorem y8_8_3_0_0_1 : vRun 40 t8 ((form8 8 3 0 0).more (((d8_8_3_0_0).ways ([(-1, 1)].map bf)).getD 1 [])) = true := by kernel_rfl
theorem y8_10_2_2_0_0 : vRun 40 t8 ((form8 10 2 2 0).more (((d8_10_2_2_0).ways ([].map bf)).getD 0 [])) = true := by kernel_rfl
theorem y8_10_3_1_0_1 : vRun 40 t8 ((form8 10 3 1 0).more (((d8_10_3_1_0).ways ([(-1, 1)].map bf)).getD 1 [])) = true := by kernel_rfl
theorem y8_8_2_0_0_0 : vRun 40 t8 ((form8 8 2 0 0).more (((d8_8_2_0_0).ways ([].map bf)).getD 0 [])) = true := by kernel_rfl
theorem y8_10_1_2_0_0 : vRun 40 t8 ((form8 10 1 2 0).more (((d8_10_1_2_0).ways ([].map bf)).getD 0 [])) = true := by kernel_rfl
theorem y8_6_0_0_1_0 : vRun 40 t8 ((form8 6 0 0 1).more (((d8_6_0_0_1).ways ([].map bf)).getD 0 [])) = true := by kernel_rfl
theorem y8_10_0_1_0_0 : vRun 40 t8 ((form8 10 0 1 0).more (((d8_10_0_1_0).ways ([].map bf)).getD 0 [])) = true := by kernel_rfl
theorem y8_9_0_0_0_0 : vRun 40 t8 ((form8 9 0 0 0).more (((d8_9_0_0_0).ways ([].map bf)).getD 0 [])) = true := by kernel_rfl
end Go.Proofs.Ytojpmbkbeoolcaa.K
