/- the reference's operation upon any view, by its runs. -/
import Derived.Test.YtnfmmiomomgabaaYD
namespace Go.Proofs.Ytnfmmiomomgabaa
open Go.Sx Go
set_option maxRecDepth 100000
theorem y22_10_0_4_0_1 : vRun 40 t22 ((form22 10 0 4 0).more (((d22_10_0_4_0).ways ([(-1, 0)].map bf)).getD 1 [])) = true := by kernel_rfl
theorem y22_10_0_4_0_0 : vRun 40 t22 ((form22 10 0 4 0).more (((d22_10_0_4_0).ways ([(-1, 0)].map bf)).getD 0 [])) = true := by kernel_rfl
theorem y22_7_3_0_0_2 : vRun 40 t22 ((form22 7 3 0 0).more (((d22_7_3_0_0).ways ([(-1, 1)].map bf)).getD 2 [])) = true := by kernel_rfl
theorem y22_6_4_0_1_4 : vRun 40 t22 ((form22 6 4 0 1).more (((d22_6_4_0_1).ways ([(-1, 1), (-1, 0), (0, 1)].map bf)).getD 4 [])) = true := by kernel_rfl
theorem y22_10_2_4_0_0 : vRun 40 t22 ((form22 10 2 4 0).more (((d22_10_2_4_0).ways ([(-1, 1)].map bf)).getD 0 [])) = true := by kernel_rfl
theorem y22_10_4_4_0_6 : vRun 40 t22 ((form22 10 4 4 0).more (((d22_10_4_4_0).ways ([(-1, 1), (-1, 0), (0, 1)].map bf)).getD 6 [])) = true := by kernel_rfl
theorem y22_10_4_4_0_3 : vRun 40 t22 ((form22 10 4 4 0).more (((d22_10_4_4_0).ways ([(-1, 1), (-1, 0), (0, 1)].map bf)).getD 3 [])) = true := by kernel_rfl
theorem y22_10_3_3_0_0 : vRun 40 t22 ((form22 10 3 3 0).more (((d22_10_3_3_0).ways ([(-1, 1)].map bf)).getD 0 [])) = true := by kernel_rfl
theorem y22_10_3_2_0_2 : vRun 40 t22 ((form22 10 3 2 0).more (((d22_10_3_2_0).ways ([(-1, 1)].map bf)).getD 2 [])) = true := by kernel_rfl
theorem y22_10_3_0_0_2 : vRun 40 t22 ((form22 10 3 0 0).more (((d22_10_3_0_0).ways ([(-1, 1)].map bf)).getD 2 [])) = true := by kernel_rfl
theorem y22_10_4_3_0_1 : vRun 40 t22 ((form22 10 4 3 0).more (((d22_10_4_3_0).ways ([(-1, 1), (-1, 0), (0, 1)].map bf)).getD 1 [])) = true := by kernel_rfl
theorem y22_10_4_2_0_0 : vRun 40 t22 ((form22 10 4 2 0).more (((d22_10_4_2_0).ways ([(-1, 1), (-1, 0), (0, 1)].map bf)).getD 0 [])) = true := by kernel_rfl
theorem y22_10_4_0_0_6 : vRun 40 t22 ((form22 10 4 0 0).more (((d22_10_4_0_0).ways ([(-1, 1), (-1, 0), (0, 1)].map bf)).getD 6 [])) = true := by kernel_rfl
theorem y22_6_1_0_1_0 : vRun 40 t22 ((form22 6 1 0 1).more (((d22_6_1_0_1).ways ([].map bf)).getD 0 [])) = true := by kernel_rfl
theorem y22_8_1_0_0_0 : vRun 40 t22 ((form22 8 1 0 0).more (((d22_8_1_0_0).ways ([].map bf)).getD 0 [])) = true := by kernel_rfl
theorem y22_6_0_0_0_0 : vRun 40 t22 ((form22 6 0 0 0).more (((d22_6_0_0_0).ways ([].map bf)).getD 0 [])) = true := by kernel_rfl
theorem b22_4_0_3 (x : Int) : vRun 40 t22 ((form22 4 0 3 x).more []) = true := by kernel_rfl
theorem b22_3_1_0 (x : Int) : vRun 40 t22 ((form22 3 1 0 x).more []) = true := by kernel_rfl
theorem b22_0_1_0 (x : Int) : vRun 40 t22 ((form22 0 1 0 x).more []) = true := by kernel_rfl
theorem b22_5_0_0_8 : vRun 40 t22 ((form22 5 0 0 0).more ((sumC.ways sumF).getD 8 [])) = true := by kernel_rfl
theorem b22_5_0_0_72 : vRun 40 t22 ((form22 5 0 0 0).more ((sumC.ways sumF).getD 72 [])) = true := by kernel_rfl
theorem b22_5_0_0_65 : vRun 40 t22 ((form22 5 0 0 0).more ((sumC.ways sumF).getD 65 [])) = true := by kernel_rfl
theorem b22_5_0_0_58 : vRun 40 t22 ((form22 5 0 0 0).more ((sumC.ways sumF).getD 58 [])) = true := by kernel_rfl
theorem b22_5_0_0_50 : vRun 40 t22 ((form22 5 0 0 0).more ((sumC.ways sumF).getD 50 [])) = true := by kernel_rfl
theorem b22_5_0_0_43 : vRun 40 t22 ((form22 5 0 0 0).more ((sumC.ways sumF).getD 43 [])) = true := by kernel_rfl
theorem b22_5_0_0_36 : vRun 40 t22 ((form22 5 0 0 0).more ((sumC.ways sumF).getD 36 [])) = true := by kernel_rfl
theorem b22_5_0_0_29 : vRun 40 t22 ((form22 5 0 0 0).more ((sumC.ways sumF).getD 29 [])) = true := by kernel_rfl
theorem b22_5_0_0_21 : vRun 40 t22 ((form22 5 0 0 0).more ((sumC.ways sumF).getD 21 [])) = true := by kernel_rfl
theorem b22_5_0_0_14 : vRun 40 t22 ((form22 5 0 0 0).more ((sumC.ways sumF).getD 14 [])) = true := by kernel_rfl
end Go.Proofs.Ytnfmmiomomgabaa
