/- the reference's operation upon any view, by its runs. -/
import Derived.Test.YtnfmmiomomgabaaYD
namespace Go.Proofs.Ytnfmmiomomgabaa
open Go.Sx Go
set_option maxRecDepth 100000
theorem y22_10_3_4_0_0 : vRun 40 t22 ((form22 10 3 4 0).more (((d22_10_3_4_0).ways ([(-1, 1)].map bf)).getD 0 [])) = true := by kernel_rfl
theorem y22_7_4_0_0_3 : vRun 40 t22 ((form22 7 4 0 0).more (((d22_7_4_0_0).ways ([(-1, 1), (-1, 0), (0, 1)].map bf)).getD 3 [])) = true := by kernel_rfl
theorem y22_6_3_0_1_1 : vRun 40 t22 ((form22 6 3 0 1).more (((d22_6_3_0_1).ways ([(-1, 1)].map bf)).getD 1 [])) = true := by kernel_rfl
theorem y22_6_4_0_1_1 : vRun 40 t22 ((form22 6 4 0 1).more (((d22_6_4_0_1).ways ([(-1, 1), (-1, 0), (0, 1)].map bf)).getD 1 [])) = true := by kernel_rfl
theorem y22_6_4_0_0_4 : vRun 40 t22 ((form22 6 4 0 0).more (((d22_6_4_0_0).ways ([(-1, 1), (-1, 0), (0, 1)].map bf)).getD 4 [])) = true := by kernel_rfl
theorem y22_6_3_0_0_1 : vRun 40 t22 ((form22 6 3 0 0).more (((d22_6_3_0_0).ways ([(-1, 1)].map bf)).getD 1 [])) = true := by kernel_rfl
theorem y22_10_2_0_0_0 : vRun 40 t22 ((form22 10 2 0 0).more (((d22_10_2_0_0).ways ([].map bf)).getD 0 [])) = true := by kernel_rfl
theorem y22_8_4_0_0_3 : vRun 40 t22 ((form22 8 4 0 0).more (((d22_8_4_0_0).ways ([(-1, 1), (-1, 0), (0, 1)].map bf)).getD 3 [])) = true := by kernel_rfl
theorem y22_10_1_3_0_1 : vRun 40 t22 ((form22 10 1 3 0).more (((d22_10_1_3_0).ways ([(-1, 1)].map bf)).getD 1 [])) = true := by kernel_rfl
theorem y22_10_3_2_0_0 : vRun 40 t22 ((form22 10 3 2 0).more (((d22_10_3_2_0).ways ([(-1, 1)].map bf)).getD 0 [])) = true := by kernel_rfl
theorem y22_10_4_3_0_5 : vRun 40 t22 ((form22 10 4 3 0).more (((d22_10_4_3_0).ways ([(-1, 1), (-1, 0), (0, 1)].map bf)).getD 5 [])) = true := by kernel_rfl
theorem y22_10_4_2_0_4 : vRun 40 t22 ((form22 10 4 2 0).more (((d22_10_4_2_0).ways ([(-1, 1), (-1, 0), (0, 1)].map bf)).getD 4 [])) = true := by kernel_rfl
theorem y22_10_4_1_0_3 : vRun 40 t22 ((form22 10 4 1 0).more (((d22_10_4_1_0).ways ([(-1, 1), (-1, 0), (0, 1)].map bf)).getD 3 [])) = true := by kernel_rfl
theorem y22_10_4_0_0_2 : vRun 40 t22 ((form22 10 4 0 0).more (((d22_10_4_0_0).ways ([(-1, 1), (-1, 0), (0, 1)].map bf)).getD 2 [])) = true := by kernel_rfl
theorem y22_10_2_3_0_0 : vRun 40 t22 ((form22 10 2 3 0).more (((d22_10_2_3_0).ways ([(-1, 1)].map bf)).getD 0 [])) = true := by kernel_rfl
theorem b22_4_3_1 (x : Int) : vRun 40 t22 ((form22 4 3 1 x).more []) = true := by kernel_rfl
theorem b22_4_2_1 (x : Int) : vRun 40 t22 ((form22 4 2 1 x).more []) = true := by kernel_rfl
theorem b22_4_1_0 (x : Int) : vRun 40 t22 ((form22 4 1 0 x).more []) = true := by kernel_rfl
theorem b22_3_3_0 (x : Int) : vRun 40 t22 ((form22 3 3 0 x).more []) = true := by kernel_rfl
theorem b22_0_3_0 (x : Int) : vRun 40 t22 ((form22 0 3 0 x).more []) = true := by kernel_rfl
theorem b22_1_1_0 : vRun 40 t22 ((form22 1 1 0 0).more []) = true := by kernel_rfl
theorem b22_5_0_0_74 : vRun 40 t22 ((form22 5 0 0 0).more ((sumC.ways sumF).getD 74 [])) = true := by kernel_rfl
theorem b22_5_0_0_67 : vRun 40 t22 ((form22 5 0 0 0).more ((sumC.ways sumF).getD 67 [])) = true := by kernel_rfl
theorem b22_5_0_0_6 : vRun 40 t22 ((form22 5 0 0 0).more ((sumC.ways sumF).getD 6 [])) = true := by kernel_rfl
theorem b22_5_0_0_52 : vRun 40 t22 ((form22 5 0 0 0).more ((sumC.ways sumF).getD 52 [])) = true := by kernel_rfl
theorem b22_5_0_0_45 : vRun 40 t22 ((form22 5 0 0 0).more ((sumC.ways sumF).getD 45 [])) = true := by kernel_rfl
theorem b22_5_0_0_38 : vRun 40 t22 ((form22 5 0 0 0).more ((sumC.ways sumF).getD 38 [])) = true := by kernel_rfl
theorem b22_5_0_0_30 : vRun 40 t22 ((form22 5 0 0 0).more ((sumC.ways sumF).getD 30 [])) = true := by kernel_rfl
theorem b22_5_0_0_23 : vRun 40 t22 ((form22 5 0 0 0).more ((sumC.ways sumF).getD 23 [])) = true := by kernel_rfl
theorem b22_5_0_0_16 : vRun 40 t22 ((form22 5 0 0 0).more ((sumC.ways sumF).getD 16 [])) = true := by kernel_rfl
theorem b22_5_0_0_0 : vRun 40 t22 ((form22 5 0 0 0).more ((sumC.ways sumF).getD 0 [])) = true := by kernel_rfl
end Go.Proofs.Ytnfmmiomomgabaa
