/- the reference's operation upon any view, by its runs. -/
import Derived.Test.YtnfmmiomomgabaaYD
namespace Go.Proofs.Ytnfmmiomomgabaa
open Go.Sx Go
set_option maxRecDepth 100000
theorem y22_10_1_4_0_0 : vRun 40 t22 ((form22 10 1 4 0).more (((d22_10_1_4_0).ways ([(-1, 1)].map bf)).getD 0 [])) = true := by kernel_rfl
theorem y22_7_4_0_0_6 : vRun 40 t22 ((form22 7 4 0 0).more (((d22_7_4_0_0).ways ([(-1, 1), (-1, 0), (0, 1)].map bf)).getD 6 [])) = true := by kernel_rfl
theorem y22_7_4_0_0_0 : vRun 40 t22 ((form22 7 4 0 0).more (((d22_7_4_0_0).ways ([(-1, 1), (-1, 0), (0, 1)].map bf)).getD 0 [])) = true := by kernel_rfl
theorem y22_6_4_0_1_5 : vRun 40 t22 ((form22 6 4 0 1).more (((d22_6_4_0_1).ways ([(-1, 1), (-1, 0), (0, 1)].map bf)).getD 5 [])) = true := by kernel_rfl
theorem y22_10_2_4_0_1 : vRun 40 t22 ((form22 10 2 4 0).more (((d22_10_2_4_0).ways ([(-1, 1)].map bf)).getD 1 [])) = true := by kernel_rfl
theorem y22_8_2_0_0_0 : vRun 40 t22 ((form22 8 2 0 0).more (((d22_8_2_0_0).ways ([].map bf)).getD 0 [])) = true := by kernel_rfl
theorem y22_10_3_3_0_1 : vRun 40 t22 ((form22 10 3 3 0).more (((d22_10_3_3_0).ways ([(-1, 1)].map bf)).getD 1 [])) = true := by kernel_rfl
theorem y22_8_4_0_0_1 : vRun 40 t22 ((form22 8 4 0 0).more (((d22_8_4_0_0).ways ([(-1, 1), (-1, 0), (0, 1)].map bf)).getD 1 [])) = true := by kernel_rfl
theorem y22_7_1_0_0_0 : vRun 40 t22 ((form22 7 1 0 0).more (((d22_7_1_0_0).ways ([].map bf)).getD 0 [])) = true := by kernel_rfl
theorem y22_10_3_1_0_2 : vRun 40 t22 ((form22 10 3 1 0).more (((d22_10_3_1_0).ways ([(-1, 1)].map bf)).getD 2 [])) = true := by kernel_rfl
theorem y22_10_4_3_0_4 : vRun 40 t22 ((form22 10 4 3 0).more (((d22_10_4_3_0).ways ([(-1, 1), (-1, 0), (0, 1)].map bf)).getD 4 [])) = true := by kernel_rfl
theorem y22_10_4_2_0_3 : vRun 40 t22 ((form22 10 4 2 0).more (((d22_10_4_2_0).ways ([(-1, 1), (-1, 0), (0, 1)].map bf)).getD 3 [])) = true := by kernel_rfl
theorem y22_10_4_1_0_2 : vRun 40 t22 ((form22 10 4 1 0).more (((d22_10_4_1_0).ways ([(-1, 1), (-1, 0), (0, 1)].map bf)).getD 2 [])) = true := by kernel_rfl
theorem y22_10_4_0_0_1 : vRun 40 t22 ((form22 10 4 0 0).more (((d22_10_4_0_0).ways ([(-1, 1), (-1, 0), (0, 1)].map bf)).getD 1 [])) = true := by kernel_rfl
theorem y22_6_1_0_0_0 : vRun 40 t22 ((form22 6 1 0 0).more (((d22_6_1_0_0).ways ([].map bf)).getD 0 [])) = true := by kernel_rfl
theorem y22_10_0_0_0_0 : vRun 40 t22 ((form22 10 0 0 0).more (((d22_10_0_0_0).ways ([].map bf)).getD 0 [])) = true := by kernel_rfl
theorem b22_4_2_2 (x : Int) : vRun 40 t22 ((form22 4 2 2 x).more []) = true := by kernel_rfl
theorem b22_2_2_0 (x : Int) : vRun 40 t22 ((form22 2 2 0 x).more []) = true := by kernel_rfl
theorem b22_1_2_0 : vRun 40 t22 ((form22 1 2 0 0).more []) = true := by kernel_rfl
theorem b22_5_0_0_77 : vRun 40 t22 ((form22 5 0 0 0).more ((sumC.ways sumF).getD 77 [])) = true := by kernel_rfl
theorem b22_5_0_0_7 : vRun 40 t22 ((form22 5 0 0 0).more ((sumC.ways sumF).getD 7 [])) = true := by kernel_rfl
theorem b22_5_0_0_62 : vRun 40 t22 ((form22 5 0 0 0).more ((sumC.ways sumF).getD 62 [])) = true := by kernel_rfl
theorem b22_5_0_0_55 : vRun 40 t22 ((form22 5 0 0 0).more ((sumC.ways sumF).getD 55 [])) = true := by kernel_rfl
theorem b22_5_0_0_48 : vRun 40 t22 ((form22 5 0 0 0).more ((sumC.ways sumF).getD 48 [])) = true := by kernel_rfl
theorem b22_5_0_0_40 : vRun 40 t22 ((form22 5 0 0 0).more ((sumC.ways sumF).getD 40 [])) = true := by kernel_rfl
theorem b22_5_0_0_33 : vRun 40 t22 ((form22 5 0 0 0).more ((sumC.ways sumF).getD 33 [])) = true := by kernel_rfl
theorem b22_5_0_0_26 : vRun 40 t22 ((form22 5 0 0 0).more ((sumC.ways sumF).getD 26 [])) = true := by kernel_rfl
theorem b22_5_0_0_19 : vRun 40 t22 ((form22 5 0 0 0).more ((sumC.ways sumF).getD 19 [])) = true := by kernel_rfl
theorem b22_5_0_0_11 : vRun 40 t22 ((form22 5 0 0 0).more ((sumC.ways sumF).getD 11 [])) = true := by kernel_rfl
end Go.Proofs.Ytnfmmiomomgabaa
