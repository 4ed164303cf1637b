/- the reference's operation upon any view, by its runs. -/
import Derived.Test.YtnfmmiomomgabaaYD
namespace Go.Proofs.Ytnfmmiomomgabaa
open Go.Sx Go
set_option maxRecDepth 100000
theorem y22_10_3_4_0_2 : vRun 40 t22 ((form22 10 3 4 0).more (((d22_10_3_4_0).ways ([(-1, 1)].map bf)).getD 2 [])) = true := by kernel_rfl
theorem y22_7_4_0_0_5 : vRun 40 t22 ((form22 7 4 0 0).more (((d22_7_4_0_0).ways ([(-1, 1), (-1, 0), (0, 1)].map bf)).getD 5 [])) = true := by kernel_rfl
theorem y22_7_3_0_0_0 : vRun 40 t22 ((form22 7 3 0 0).more (((d22_7_3_0_0).ways ([(-1, 1)].map bf)).getD 0 [])) = true := by kernel_rfl
theorem y22_6_4_0_1_0 : vRun 40 t22 ((form22 6 4 0 1).more (((d22_6_4_0_1).ways ([(-1, 1), (-1, 0), (0, 1)].map bf)).getD 0 [])) = true := by kernel_rfl
theorem y22_6_4_0_0_1 : vRun 40 t22 ((form22 6 4 0 0).more (((d22_6_4_0_0).ways ([(-1, 1), (-1, 0), (0, 1)].map bf)).getD 1 [])) = true := by kernel_rfl
theorem y22_10_4_4_0_4 : vRun 40 t22 ((form22 10 4 4 0).more (((d22_10_4_4_0).ways ([(-1, 1), (-1, 0), (0, 1)].map bf)).getD 4 [])) = true := by kernel_rfl
theorem y22_10_4_4_0_1 : vRun 40 t22 ((form22 10 4 4 0).more (((d22_10_4_4_0).ways ([(-1, 1), (-1, 0), (0, 1)].map bf)).getD 1 [])) = true := by kernel_rfl
theorem y22_8_4_0_0_6 : vRun 40 t22 ((form22 8 4 0 0).more (((d22_8_4_0_0).ways ([(-1, 1), (-1, 0), (0, 1)].map bf)).getD 6 [])) = true := by kernel_rfl
theorem y22_8_4_0_0_0 : vRun 40 t22 ((form22 8 4 0 0).more (((d22_8_4_0_0).ways ([(-1, 1), (-1, 0), (0, 1)].map bf)).getD 0 [])) = true := by kernel_rfl
theorem y22_10_3_2_0_1 : vRun 40 t22 ((form22 10 3 2 0).more (((d22_10_3_2_0).ways ([(-1, 1)].map bf)).getD 1 [])) = true := by kernel_rfl
theorem y22_10_4_3_0_6 : vRun 40 t22 ((form22 10 4 3 0).more (((d22_10_4_3_0).ways ([(-1, 1), (-1, 0), (0, 1)].map bf)).getD 6 [])) = true := by kernel_rfl
theorem y22_10_4_2_0_5 : vRun 40 t22 ((form22 10 4 2 0).more (((d22_10_4_2_0).ways ([(-1, 1), (-1, 0), (0, 1)].map bf)).getD 5 [])) = true := by kernel_rfl
theorem y22_10_4_1_0_4 : vRun 40 t22 ((form22 10 4 1 0).more (((d22_10_4_1_0).ways ([(-1, 1), (-1, 0), (0, 1)].map bf)).getD 4 [])) = true := by kernel_rfl
theorem y22_10_4_0_0_3 : vRun 40 t22 ((form22 10 4 0 0).more (((d22_10_4_0_0).ways ([(-1, 1), (-1, 0), (0, 1)].map bf)).getD 3 [])) = true := by kernel_rfl
theorem y22_10_2_3_0_1 : vRun 40 t22 ((form22 10 2 3 0).more (((d22_10_2_3_0).ways ([(-1, 1)].map bf)).getD 1 [])) = true := by kernel_rfl
theorem b22_4_3_2 (x : Int) : vRun 40 t22 ((form22 4 3 2 x).more []) = true := by kernel_rfl
theorem b22_4_2_3 (x : Int) : vRun 40 t22 ((form22 4 2 3 x).more []) = true := by kernel_rfl
theorem b22_4_1_2 (x : Int) : vRun 40 t22 ((form22 4 1 2 x).more []) = true := by kernel_rfl
theorem b22_4_0_0 (x : Int) : vRun 40 t22 ((form22 4 0 0 x).more []) = true := by kernel_rfl
theorem b22_2_0_0 (x : Int) : vRun 40 t22 ((form22 2 0 0 x).more []) = true := by kernel_rfl
theorem b22_5_0_0_9 : vRun 40 t22 ((form22 5 0 0 0).more ((sumC.ways sumF).getD 9 [])) = true := by kernel_rfl
theorem b22_5_0_0_76 : vRun 40 t22 ((form22 5 0 0 0).more ((sumC.ways sumF).getD 76 [])) = true := by kernel_rfl
theorem b22_5_0_0_69 : vRun 40 t22 ((form22 5 0 0 0).more ((sumC.ways sumF).getD 69 [])) = true := by kernel_rfl
theorem b22_5_0_0_61 : vRun 40 t22 ((form22 5 0 0 0).more ((sumC.ways sumF).getD 61 [])) = true := by kernel_rfl
theorem b22_5_0_0_54 : vRun 40 t22 ((form22 5 0 0 0).more ((sumC.ways sumF).getD 54 [])) = true := by kernel_rfl
theorem b22_5_0_0_47 : vRun 40 t22 ((form22 5 0 0 0).more ((sumC.ways sumF).getD 47 [])) = true := by kernel_rfl
theorem b22_5_0_0_4 : vRun 40 t22 ((form22 5 0 0 0).more ((sumC.ways sumF).getD 4 [])) = true := by kernel_rfl
theorem b22_5_0_0_32 : vRun 40 t22 ((form22 5 0 0 0).more ((sumC.ways sumF).getD 32 [])) = true := by kernel_rfl
theorem b22_5_0_0_25 : vRun 40 t22 ((form22 5 0 0 0).more ((sumC.ways sumF).getD 25 [])) = true := by kernel_rfl
theorem b22_5_0_0_18 : vRun 40 t22 ((form22 5 0 0 0).more ((sumC.ways sumF).getD 18 [])) = true := by kernel_rfl
theorem b22_5_0_0_10 : vRun 40 t22 ((form22 5 0 0 0).more ((sumC.ways sumF).getD 10 [])) = true := by kernel_rfl
end Go.Proofs.Ytnfmmiomomgabaa
