/- an operation upon any view, by its runs. -/
import Derived.Test.YtdngeccbmalbnaaYD
namespace Go.Proofs.Ytdngeccbmalbnaa
open Go.Sx Go
set_option maxRecDepth 100000
theorem y22_10_0_4_0_1 : yRun t22 ((form22 10 0 4 0).more (((d22_10_0_4_0).ways ([(-1, 0)].map bf)).getD 1 [])) = true := by kernel_rfl
theorem y22_10_0_4_0_0 : yRun t22 ((form22 10 0 4 0).more (((d22_10_0_4_0).ways ([(-1, 0)].map bf)).getD 0 [])) = true := by kernel_rfl
theorem y22_6_4_0_1_0 : yRun t22 ((form22 6 4 0 1).more (((d22_6_4_0_1).ways ([(-1, 1), (-1, 0), (0, 1)].map bf)).getD 0 [])) = true := by kernel_rfl
theorem y22_6_4_0_0_1 : yRun t22 ((form22 6 4 0 0).more (((d22_6_4_0_0).ways ([(-1, 1), (-1, 0), (0, 1)].map bf)).getD 1 [])) = true := by kernel_rfl
theorem y22_10_4_4_0_3 : yRun t22 ((form22 10 4 4 0).more (((d22_10_4_4_0).ways ([(-1, 1), (-1, 0), (0, 1)].map bf)).getD 3 [])) = true := by kernel_rfl
theorem y8_10_4_4_0_0 : yRun t8 ((form8 10 4 4 0).more (((d8_10_4_4_0).ways ([(-1, 1)].map bf)).getD 0 [])) = true := by kernel_rfl
theorem y22_10_3_0_0_2 : yRun t22 ((form22 10 3 0 0).more (((d22_10_3_0_0).ways ([(-1, 1)].map bf)).getD 2 [])) = true := by kernel_rfl
theorem y22_10_4_2_0_0 : yRun t22 ((form22 10 4 2 0).more (((d22_10_4_2_0).ways ([(-1, 1), (-1, 0), (0, 1)].map bf)).getD 0 [])) = true := by kernel_rfl
theorem y22_6_1_0_1_0 : yRun t22 ((form22 6 1 0 1).more (((d22_6_1_0_1).ways ([].map bf)).getD 0 [])) = true := by kernel_rfl
theorem y8_10_4_0_0_1 : yRun t8 ((form8 10 4 0 0).more (((d8_10_4_0_0).ways ([(-1, 1)].map bf)).getD 1 [])) = true := by kernel_rfl
theorem y8_10_3_1_0_1 : yRun t8 ((form8 10 3 1 0).more (((d8_10_3_1_0).ways ([(-1, 1)].map bf)).getD 1 [])) = true := by kernel_rfl
theorem y8_8_2_0_0_0 : yRun t8 ((form8 8 2 0 0).more (((d8_8_2_0_0).ways ([].map bf)).getD 0 [])) = true := by kernel_rfl
theorem y22_9_0_0_0_0 : yRun t22 ((form22 9 0 0 0).more (((d22_9_0_0_0).ways ([].map bf)).getD 0 [])) = true := by kernel_rfl
end Go.Proofs.Ytdngeccbmalbnaa
