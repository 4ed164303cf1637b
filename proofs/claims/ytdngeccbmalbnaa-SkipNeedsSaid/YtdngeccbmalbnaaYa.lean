/- an operation upon any view, by its runs. -/
import Derived.Test.YtdngeccbmalbnaaYD
namespace Go.Proofs.Ytdngeccbmalbnaa
open Go.Sx Go
set_option maxRecDepth 100000
theorem y22_7_2_0_0_0 : yRun t22 ((form22 7 2 0 0).more (((d22_7_2_0_0).ways ([].map bf)).getD 0 [])) = true := by kernel_rfl
theorem y22_6_4_0_1_6 : yRun t22 ((form22 6 4 0 1).more (((d22_6_4_0_1).ways ([(-1, 1), (-1, 0), (0, 1)].map bf)).getD 6 [])) = true := by kernel_rfl
theorem y22_10_2_4_0_2 : yRun t22 ((form22 10 2 4 0).more (((d22_10_2_4_0).ways ([(-1, 1)].map bf)).getD 2 [])) = true := by kernel_rfl
theorem y22_8_2_0_0_0 : yRun t22 ((form22 8 2 0 0).more (((d22_8_2_0_0).ways ([].map bf)).getD 0 [])) = true := by kernel_rfl
theorem y8_10_3_4_0_1 : yRun t8 ((form8 10 3 4 0).more (((d8_10_3_4_0).ways ([(-1, 1)].map bf)).getD 1 [])) = true := by kernel_rfl
theorem y22_8_4_0_0_3 : yRun t22 ((form22 8 4 0 0).more (((d22_8_4_0_0).ways ([(-1, 1), (-1, 0), (0, 1)].map bf)).getD 3 [])) = true := by kernel_rfl
theorem y22_10_1_3_0_0 : yRun t22 ((form22 10 1 3 0).more (((d22_10_1_3_0).ways ([(-1, 1)].map bf)).getD 0 [])) = true := by kernel_rfl
theorem y22_10_4_2_0_3 : yRun t22 ((form22 10 4 2 0).more (((d22_10_4_2_0).ways ([(-1, 1), (-1, 0), (0, 1)].map bf)).getD 3 [])) = true := by kernel_rfl
theorem y22_10_4_0_0_1 : yRun t22 ((form22 10 4 0 0).more (((d22_10_4_0_0).ways ([(-1, 1), (-1, 0), (0, 1)].map bf)).getD 1 [])) = true := by kernel_rfl
theorem y22_10_2_3_0_1 : yRun t22 ((form22 10 2 3 0).more (((d22_10_2_3_0).ways ([(-1, 1)].map bf)).getD 1 [])) = true := by kernel_rfl
theorem y8_10_1_3_0_0 : yRun t8 ((form8 10 1 3 0).more (((d8_10_1_3_0).ways ([].map bf)).getD 0 [])) = true := by kernel_rfl
theorem y8_10_0_2_0_0 : yRun t8 ((form8 10 0 2 0).more (((d8_10_0_2_0).ways ([].map bf)).getD 0 [])) = true := by kernel_rfl
theorem y8_10_1_1_0_0 : yRun t8 ((form8 10 1 1 0).more (((d8_10_1_1_0).ways ([].map bf)).getD 0 [])) = true := by kernel_rfl
end Go.Proofs.Ytdngeccbmalbnaa
