/- the reference's operation upon any view, by its runs. -/
import Derived.Test.YtnfmmiomomgabaaYD
namespace Go.Proofs.Ytnfmmiomomgabaa
open Go.Sx Go
set_option maxRecDepth 100000
theorem y22_7_2_0_0_0 : vRun 40 t22 ((form22 7 2 0 0).more (((d22_7_2_0_0).ways ([].map bf)).getD 0 [])) = true := by kernel_rfl
theorem y22_7_4_0_0_1 : vRun 40 t22 ((form22 7 4 0 0).more (((d22_7_4_0_0).ways ([(-1, 1), (-1, 0), (0, 1)].map bf)).getD 1 [])) = true := by kernel_rfl
theorem y22_6_4_0_1_6 : vRun 40 t22 ((form22 6 4 0 1).more (((d22_6_4_0_1).ways ([(-1, 1), (-1, 0), (0, 1)].map bf)).getD 6 [])) = true := by kernel_rfl
theorem y22_10_2_4_0_2 : vRun 40 t22 ((form22 10 2 4 0).more (((d22_10_2_4_0).ways ([(-1, 1)].map bf)).getD 2 [])) = true := by kernel_rfl
theorem y22_6_4_0_0_2 : vRun 40 t22 ((form22 6 4 0 0).more (((d22_6_4_0_0).ways ([(-1, 1), (-1, 0), (0, 1)].map bf)).getD 2 [])) = true := by kernel_rfl
theorem y22_10_4_4_0_5 : vRun 40 t22 ((form22 10 4 4 0).more (((d22_10_4_4_0).ways ([(-1, 1), (-1, 0), (0, 1)].map bf)).getD 5 [])) = true := by kernel_rfl
theorem y22_10_4_4_0_2 : vRun 40 t22 ((form22 10 4 4 0).more (((d22_10_4_4_0).ways ([(-1, 1), (-1, 0), (0, 1)].map bf)).getD 2 [])) = true := by kernel_rfl
theorem y22_10_1_2_0_0 : vRun 40 t22 ((form22 10 1 2 0).more (((d22_10_1_2_0).ways ([].map bf)).getD 0 [])) = true := by kernel_rfl
theorem y22_8_3_0_0_2 : vRun 40 t22 ((form22 8 3 0 0).more (((d22_8_3_0_0).ways ([(-1, 1)].map bf)).getD 2 [])) = true := by kernel_rfl
theorem y22_10_3_1_0_1 : vRun 40 t22 ((form22 10 3 1 0).more (((d22_10_3_1_0).ways ([(-1, 1)].map bf)).getD 1 [])) = true := by kernel_rfl
theorem y22_10_4_3_0_3 : vRun 40 t22 ((form22 10 4 3 0).more (((d22_10_4_3_0).ways ([(-1, 1), (-1, 0), (0, 1)].map bf)).getD 3 [])) = true := by kernel_rfl
theorem y22_10_4_2_0_2 : vRun 40 t22 ((form22 10 4 2 0).more (((d22_10_4_2_0).ways ([(-1, 1), (-1, 0), (0, 1)].map bf)).getD 2 [])) = true := by kernel_rfl
theorem y22_10_4_1_0_1 : vRun 40 t22 ((form22 10 4 1 0).more (((d22_10_4_1_0).ways ([(-1, 1), (-1, 0), (0, 1)].map bf)).getD 1 [])) = true := by kernel_rfl
theorem y22_10_4_0_0_0 : vRun 40 t22 ((form22 10 4 0 0).more (((d22_10_4_0_0).ways ([(-1, 1), (-1, 0), (0, 1)].map bf)).getD 0 [])) = true := by kernel_rfl
theorem y22_10_1_1_0_0 : vRun 40 t22 ((form22 10 1 1 0).more (((d22_10_1_1_0).ways ([].map bf)).getD 0 [])) = true := by kernel_rfl
theorem y22_8_0_0_0_0 : vRun 40 t22 ((form22 8 0 0 0).more (((d22_8_0_0_0).ways ([].map bf)).getD 0 [])) = true := by kernel_rfl
theorem b22_4_2_0 (x : Int) : vRun 40 t22 ((form22 4 2 0 x).more []) = true := by kernel_rfl
theorem b22_4_0_1 (x : Int) : vRun 40 t22 ((form22 4 0 1 x).more []) = true := by kernel_rfl
theorem b22_2_3_0 (x : Int) : vRun 40 t22 ((form22 2 3 0 x).more []) = true := by kernel_rfl
theorem b22_1_3_0 : vRun 40 t22 ((form22 1 3 0 0).more []) = true := by kernel_rfl
theorem b22_5_0_0_78 : vRun 40 t22 ((form22 5 0 0 0).more ((sumC.ways sumF).getD 78 [])) = true := by kernel_rfl
theorem b22_5_0_0_70 : vRun 40 t22 ((form22 5 0 0 0).more ((sumC.ways sumF).getD 70 [])) = true := by kernel_rfl
theorem b22_5_0_0_63 : vRun 40 t22 ((form22 5 0 0 0).more ((sumC.ways sumF).getD 63 [])) = true := by kernel_rfl
theorem b22_5_0_0_56 : vRun 40 t22 ((form22 5 0 0 0).more ((sumC.ways sumF).getD 56 [])) = true := by kernel_rfl
theorem b22_5_0_0_49 : vRun 40 t22 ((form22 5 0 0 0).more ((sumC.ways sumF).getD 49 [])) = true := by kernel_rfl
theorem b22_5_0_0_41 : vRun 40 t22 ((form22 5 0 0 0).more ((sumC.ways sumF).getD 41 [])) = true := by kernel_rfl
theorem b22_5_0_0_34 : vRun 40 t22 ((form22 5 0 0 0).more ((sumC.ways sumF).getD 34 [])) = true := by kernel_rfl
theorem b22_5_0_0_27 : vRun 40 t22 ((form22 5 0 0 0).more ((sumC.ways sumF).getD 27 [])) = true := by kernel_rfl
theorem b22_5_0_0_2 : vRun 40 t22 ((form22 5 0 0 0).more ((sumC.ways sumF).getD 2 [])) = true := by kernel_rfl
theorem b22_5_0_0_12 : vRun 40 t22 ((form22 5 0 0 0).more ((sumC.ways sumF).getD 12 [])) = true := by kernel_rfl
end Go.Proofs.Ytnfmmiomomgabaa
