/- the reference's operation upon any view, by its runs. -/
import Derived.Test.YtnfmmiomomgabaaYD
namespace Go.Proofs.Ytnfmmiomomgabaa
open Go.Sx Go
set_option maxRecDepth 100000
theorem y22_6_2_0_1_0 : vRun 40 t22 ((form22 6 2 0 1).more (((d22_6_2_0_1).ways ([].map bf)).getD 0 [])) = true := by kernel_rfl
theorem y22_7_4_0_0_2 : vRun 40 t22 ((form22 7 4 0 0).more (((d22_7_4_0_0).ways ([(-1, 1), (-1, 0), (0, 1)].map bf)).getD 2 [])) = true := by kernel_rfl
theorem y22_6_3_0_1_0 : vRun 40 t22 ((form22 6 3 0 1).more (((d22_6_3_0_1).ways ([(-1, 1)].map bf)).getD 0 [])) = true := by kernel_rfl
theorem y22_10_2_2_0_0 : vRun 40 t22 ((form22 10 2 2 0).more (((d22_10_2_2_0).ways ([].map bf)).getD 0 [])) = true := by kernel_rfl
theorem y22_6_4_0_0_3 : vRun 40 t22 ((form22 6 4 0 0).more (((d22_6_4_0_0).ways ([(-1, 1), (-1, 0), (0, 1)].map bf)).getD 3 [])) = true := by kernel_rfl
theorem y22_6_3_0_0_0 : vRun 40 t22 ((form22 6 3 0 0).more (((d22_6_3_0_0).ways ([(-1, 1)].map bf)).getD 0 [])) = true := by kernel_rfl
theorem y22_10_3_3_0_2 : vRun 40 t22 ((form22 10 3 3 0).more (((d22_10_3_3_0).ways ([(-1, 1)].map bf)).getD 2 [])) = true := by kernel_rfl
theorem y22_8_4_0_0_2 : vRun 40 t22 ((form22 8 4 0 0).more (((d22_8_4_0_0).ways ([(-1, 1), (-1, 0), (0, 1)].map bf)).getD 2 [])) = true := by kernel_rfl
theorem y22_10_1_3_0_0 : vRun 40 t22 ((form22 10 1 3 0).more (((d22_10_1_3_0).ways ([(-1, 1)].map bf)).getD 0 [])) = true := by kernel_rfl
theorem y22_10_3_1_0_0 : vRun 40 t22 ((form22 10 3 1 0).more (((d22_10_3_1_0).ways ([(-1, 1)].map bf)).getD 0 [])) = true := by kernel_rfl
theorem y22_10_4_3_0_2 : vRun 40 t22 ((form22 10 4 3 0).more (((d22_10_4_3_0).ways ([(-1, 1), (-1, 0), (0, 1)].map bf)).getD 2 [])) = true := by kernel_rfl
theorem y22_10_4_2_0_1 : vRun 40 t22 ((form22 10 4 2 0).more (((d22_10_4_2_0).ways ([(-1, 1), (-1, 0), (0, 1)].map bf)).getD 1 [])) = true := by kernel_rfl
theorem y22_10_4_1_0_0 : vRun 40 t22 ((form22 10 4 1 0).more (((d22_10_4_1_0).ways ([(-1, 1), (-1, 0), (0, 1)].map bf)).getD 0 [])) = true := by kernel_rfl
theorem y22_10_0_2_0_0 : vRun 40 t22 ((form22 10 0 2 0).more (((d22_10_0_2_0).ways ([].map bf)).getD 0 [])) = true := by kernel_rfl
theorem y22_10_2_3_0_2 : vRun 40 t22 ((form22 10 2 3 0).more (((d22_10_2_3_0).ways ([(-1, 1)].map bf)).getD 2 [])) = true := by kernel_rfl
theorem y22_9_0_0_0_0 : vRun 40 t22 ((form22 9 0 0 0).more (((d22_9_0_0_0).ways ([].map bf)).getD 0 [])) = true := by kernel_rfl
theorem b22_4_3_0 (x : Int) : vRun 40 t22 ((form22 4 3 0 x).more []) = true := by kernel_rfl
theorem b22_4_1_3 (x : Int) : vRun 40 t22 ((form22 4 1 3 x).more []) = true := by kernel_rfl
theorem b22_4_1_1 (x : Int) : vRun 40 t22 ((form22 4 1 1 x).more []) = true := by kernel_rfl
theorem b22_2_1_0 (x : Int) : vRun 40 t22 ((form22 2 1 0 x).more []) = true := by kernel_rfl
theorem b22_1_0_0 : vRun 40 t22 ((form22 1 0 0 0).more []) = true := by kernel_rfl
theorem b22_5_0_0_73 : vRun 40 t22 ((form22 5 0 0 0).more ((sumC.ways sumF).getD 73 [])) = true := by kernel_rfl
theorem b22_5_0_0_66 : vRun 40 t22 ((form22 5 0 0 0).more ((sumC.ways sumF).getD 66 [])) = true := by kernel_rfl
theorem b22_5_0_0_59 : vRun 40 t22 ((form22 5 0 0 0).more ((sumC.ways sumF).getD 59 [])) = true := by kernel_rfl
theorem b22_5_0_0_51 : vRun 40 t22 ((form22 5 0 0 0).more ((sumC.ways sumF).getD 51 [])) = true := by kernel_rfl
theorem b22_5_0_0_44 : vRun 40 t22 ((form22 5 0 0 0).more ((sumC.ways sumF).getD 44 [])) = true := by kernel_rfl
theorem b22_5_0_0_37 : vRun 40 t22 ((form22 5 0 0 0).more ((sumC.ways sumF).getD 37 [])) = true := by kernel_rfl
theorem b22_5_0_0_3 : vRun 40 t22 ((form22 5 0 0 0).more ((sumC.ways sumF).getD 3 [])) = true := by kernel_rfl
theorem b22_5_0_0_22 : vRun 40 t22 ((form22 5 0 0 0).more ((sumC.ways sumF).getD 22 [])) = true := by kernel_rfl
theorem b22_5_0_0_15 : vRun 40 t22 ((form22 5 0 0 0).more ((sumC.ways sumF).getD 15 [])) = true := by kernel_rfl
end Go.Proofs.Ytnfmmiomomgabaa
