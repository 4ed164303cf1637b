/- the reference's operation upon any view, by its runs. -/
import Derived.Test.YtnfmmiomomgabaaYD
namespace Go.Proofs.Ytnfmmiomomgabaa
open Go.Sx Go
set_option maxRecDepth 100000
theorem y22_10_3_4_0_1 : vRun 40 t22 ((form22 10 3 4 0).more (((d22_10_3_4_0).ways ([(-1, 1)].map bf)).getD 1 [])) = true := by kernel_rfl
theorem y22_7_4_0_0_4 : vRun 40 t22 ((form22 7 4 0 0).more (((d22_7_4_0_0).ways ([(-1, 1), (-1, 0), (0, 1)].map bf)).getD 4 [])) = true := by kernel_rfl
theorem y22_6_3_0_1_2 : vRun 40 t22 ((form22 6 3 0 1).more (((d22_6_3_0_1).ways ([(-1, 1)].map bf)).getD 2 [])) = true := by kernel_rfl
theorem y22_6_4_0_1_2 : vRun 40 t22 ((form22 6 4 0 1).more (((d22_6_4_0_1).ways ([(-1, 1), (-1, 0), (0, 1)].map bf)).getD 2 [])) = true := by kernel_rfl
theorem y22_6_4_0_0_5 : vRun 40 t22 ((form22 6 4 0 0).more (((d22_6_4_0_0).ways ([(-1, 1), (-1, 0), (0, 1)].map bf)).getD 5 [])) = true := by kernel_rfl
theorem y22_6_3_0_0_2 : vRun 40 t22 ((form22 6 3 0 0).more (((d22_6_3_0_0).ways ([(-1, 1)].map bf)).getD 2 [])) = true := by kernel_rfl
theorem y22_10_2_1_0_0 : vRun 40 t22 ((form22 10 2 1 0).more (((d22_10_2_1_0).ways ([].map bf)).getD 0 [])) = true := by kernel_rfl
theorem y22_8_4_0_0_4 : vRun 40 t22 ((form22 8 4 0 0).more (((d22_8_4_0_0).ways ([(-1, 1), (-1, 0), (0, 1)].map bf)).getD 4 [])) = true := by kernel_rfl
theorem y22_8_3_0_0_0 : vRun 40 t22 ((form22 8 3 0 0).more (((d22_8_3_0_0).ways ([(-1, 1)].map bf)).getD 0 [])) = true := by kernel_rfl
theorem y22_10_3_0_0_0 : vRun 40 t22 ((form22 10 3 0 0).more (((d22_10_3_0_0).ways ([(-1, 1)].map bf)).getD 0 [])) = true := by kernel_rfl
theorem y22_10_4_2_0_6 : vRun 40 t22 ((form22 10 4 2 0).more (((d22_10_4_2_0).ways ([(-1, 1), (-1, 0), (0, 1)].map bf)).getD 6 [])) = true := by kernel_rfl
theorem y22_10_4_1_0_5 : vRun 40 t22 ((form22 10 4 1 0).more (((d22_10_4_1_0).ways ([(-1, 1), (-1, 0), (0, 1)].map bf)).getD 5 [])) = true := by kernel_rfl
theorem y22_10_4_0_0_4 : vRun 40 t22 ((form22 10 4 0 0).more (((d22_10_4_0_0).ways ([(-1, 1), (-1, 0), (0, 1)].map bf)).getD 4 [])) = true := by kernel_rfl
theorem y22_10_0_3_0_0 : vRun 40 t22 ((form22 10 0 3 0).more (((d22_10_0_3_0).ways ([(-1, 0)].map bf)).getD 0 [])) = true := by kernel_rfl
theorem y22_10_0_1_0_0 : vRun 40 t22 ((form22 10 0 1 0).more (((d22_10_0_1_0).ways ([].map bf)).getD 0 [])) = true := by kernel_rfl
theorem y22_7_0_0_0_0 : vRun 40 t22 ((form22 7 0 0 0).more (((d22_7_0_0_0).ways ([].map bf)).getD 0 [])) = true := by kernel_rfl
theorem b22_4_0_2 (x : Int) : vRun 40 t22 ((form22 4 0 2 x).more []) = true := by kernel_rfl
theorem b22_3_0_0 (x : Int) : vRun 40 t22 ((form22 3 0 0 x).more []) = true := by kernel_rfl
theorem b22_0_0_0 (x : Int) : vRun 40 t22 ((form22 0 0 0 x).more []) = true := by kernel_rfl
theorem b22_5_0_0_79 : vRun 40 t22 ((form22 5 0 0 0).more ((sumC.ways sumF).getD 79 [])) = true := by kernel_rfl
theorem b22_5_0_0_71 : vRun 40 t22 ((form22 5 0 0 0).more ((sumC.ways sumF).getD 71 [])) = true := by kernel_rfl
theorem b22_5_0_0_64 : vRun 40 t22 ((form22 5 0 0 0).more ((sumC.ways sumF).getD 64 [])) = true := by kernel_rfl
theorem b22_5_0_0_57 : vRun 40 t22 ((form22 5 0 0 0).more ((sumC.ways sumF).getD 57 [])) = true := by kernel_rfl
theorem b22_5_0_0_5 : vRun 40 t22 ((form22 5 0 0 0).more ((sumC.ways sumF).getD 5 [])) = true := by kernel_rfl
theorem b22_5_0_0_42 : vRun 40 t22 ((form22 5 0 0 0).more ((sumC.ways sumF).getD 42 [])) = true := by kernel_rfl
theorem b22_5_0_0_35 : vRun 40 t22 ((form22 5 0 0 0).more ((sumC.ways sumF).getD 35 [])) = true := by kernel_rfl
theorem b22_5_0_0_28 : vRun 40 t22 ((form22 5 0 0 0).more ((sumC.ways sumF).getD 28 [])) = true := by kernel_rfl
theorem b22_5_0_0_20 : vRun 40 t22 ((form22 5 0 0 0).more ((sumC.ways sumF).getD 20 [])) = true := by kernel_rfl
theorem b22_5_0_0_13 : vRun 40 t22 ((form22 5 0 0 0).more ((sumC.ways sumF).getD 13 [])) = true := by kernel_rfl
end Go.Proofs.Ytnfmmiomomgabaa
