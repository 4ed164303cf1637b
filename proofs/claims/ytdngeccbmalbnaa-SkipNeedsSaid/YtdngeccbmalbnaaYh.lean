/- an operation upon any view, by its runs. -/
import Derived.Test.YtdngeccbmalbnaaYD
namespace Go.Proofs.Ytdngeccbmalbnaa
open Go.Sx Go
set_option maxRecDepth 100000
theorem y8_7_4_0_0_1 : yRun t8 ((form8 7 4 0 0).more (((d8_7_4_0_0).ways ([(-1, 1), (0, 1)].map bf)).getD 1 [])) = true := by kernel_rfl
theorem y22_7_3_0_0_2 : yRun t22 ((form22 7 3 0 0).more (((d22_7_3_0_0).ways ([(-1, 1)].map bf)).getD 2 [])) = true := by kernel_rfl
theorem y8_6_3_0_1_1 : yRun t8 ((form8 6 3 0 1).more (((d8_6_3_0_1).ways ([(-1, 1)].map bf)).getD 1 [])) = true := by kernel_rfl
theorem y8_10_0_4_0_0 : yRun t8 ((form8 10 0 4 0).more (((d8_10_0_4_0).ways ([].map bf)).getD 0 [])) = true := by kernel_rfl
theorem y22_10_4_4_0_2 : yRun t22 ((form22 10 4 4 0).more (((d22_10_4_4_0).ways ([(-1, 1), (-1, 0), (0, 1)].map bf)).getD 2 [])) = true := by kernel_rfl
theorem y8_6_2_0_0_0 : yRun t8 ((form8 6 2 0 0).more (((d8_6_2_0_0).ways ([].map bf)).getD 0 [])) = true := by kernel_rfl
theorem y22_10_3_0_0_1 : yRun t22 ((form22 10 3 0 0).more (((d22_10_3_0_0).ways ([(-1, 1)].map bf)).getD 1 [])) = true := by kernel_rfl
theorem y22_10_4_1_0_6 : yRun t22 ((form22 10 4 1 0).more (((d22_10_4_1_0).ways ([(-1, 1), (-1, 0), (0, 1)].map bf)).getD 6 [])) = true := by kernel_rfl
theorem y22_10_0_3_0_1 : yRun t22 ((form22 10 0 3 0).more (((d22_10_0_3_0).ways ([(-1, 0)].map bf)).getD 1 [])) = true := by kernel_rfl
theorem y8_10_2_4_0_0 : yRun t8 ((form8 10 2 4 0).more (((d8_10_2_4_0).ways ([(-1, 1)].map bf)).getD 0 [])) = true := by kernel_rfl
theorem y8_10_3_3_0_0 : yRun t8 ((form8 10 3 3 0).more (((d8_10_3_3_0).ways ([(-1, 1)].map bf)).getD 0 [])) = true := by kernel_rfl
theorem y8_10_1_2_0_0 : yRun t8 ((form8 10 1 2 0).more (((d8_10_1_2_0).ways ([].map bf)).getD 0 [])) = true := by kernel_rfl
end Go.Proofs.Ytdngeccbmalbnaa
