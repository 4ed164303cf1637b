/- the reference's operation upon any view, by its runs. -/
import Derived.Test.YtnfmmiomomgabaaYD
namespace Go.Proofs.Ytnfmmiomomgabaa
open Go.Sx Go
set_option maxRecDepth 100000
theorem y22_10_1_4_0_1 : vRun 40 t22 ((form22 10 1 4 0).more (((d22_10_1_4_0).ways ([(-1, 1)].map bf)).getD 1 [])) = true := by kernel_rfl
theorem y22_6_2_0_0_0 : vRun 40 t22 ((form22 6 2 0 0).more (((d22_6_2_0_0).ways ([].map bf)).getD 0 [])) = true := by kernel_rfl
theorem y22_7_3_0_0_1 : vRun 40 t22 ((form22 7 3 0 0).more (((d22_7_3_0_0).ways ([(-1, 1)].map bf)).getD 1 [])) = true := by kernel_rfl
theorem y22_6_4_0_1_3 : vRun 40 t22 ((form22 6 4 0 1).more (((d22_6_4_0_1).ways ([(-1, 1), (-1, 0), (0, 1)].map bf)).getD 3 [])) = true := by kernel_rfl
theorem y22_6_4_0_0_6 : vRun 40 t22 ((form22 6 4 0 0).more (((d22_6_4_0_0).ways ([(-1, 1), (-1, 0), (0, 1)].map bf)).getD 6 [])) = true := by kernel_rfl
theorem y22_6_4_0_0_0 : vRun 40 t22 ((form22 6 4 0 0).more (((d22_6_4_0_0).ways ([(-1, 1), (-1, 0), (0, 1)].map bf)).getD 0 [])) = true := by kernel_rfl
theorem y22_10_4_4_0_0 : vRun 40 t22 ((form22 10 4 4 0).more (((d22_10_4_4_0).ways ([(-1, 1), (-1, 0), (0, 1)].map bf)).getD 0 [])) = true := by kernel_rfl
theorem y22_8_4_0_0_5 : vRun 40 t22 ((form22 8 4 0 0).more (((d22_8_4_0_0).ways ([(-1, 1), (-1, 0), (0, 1)].map bf)).getD 5 [])) = true := by kernel_rfl
theorem y22_8_3_0_0_1 : vRun 40 t22 ((form22 8 3 0 0).more (((d22_8_3_0_0).ways ([(-1, 1)].map bf)).getD 1 [])) = true := by kernel_rfl
theorem y22_10_3_0_0_1 : vRun 40 t22 ((form22 10 3 0 0).more (((d22_10_3_0_0).ways ([(-1, 1)].map bf)).getD 1 [])) = true := by kernel_rfl
theorem y22_10_4_3_0_0 : vRun 40 t22 ((form22 10 4 3 0).more (((d22_10_4_3_0).ways ([(-1, 1), (-1, 0), (0, 1)].map bf)).getD 0 [])) = true := by kernel_rfl
theorem y22_10_4_1_0_6 : vRun 40 t22 ((form22 10 4 1 0).more (((d22_10_4_1_0).ways ([(-1, 1), (-1, 0), (0, 1)].map bf)).getD 6 [])) = true := by kernel_rfl
theorem y22_10_4_0_0_5 : vRun 40 t22 ((form22 10 4 0 0).more (((d22_10_4_0_0).ways ([(-1, 1), (-1, 0), (0, 1)].map bf)).getD 5 [])) = true := by kernel_rfl
theorem y22_10_0_3_0_1 : vRun 40 t22 ((form22 10 0 3 0).more (((d22_10_0_3_0).ways ([(-1, 0)].map bf)).getD 1 [])) = true := by kernel_rfl
theorem y22_10_1_0_0_0 : vRun 40 t22 ((form22 10 1 0 0).more (((d22_10_1_0_0).ways ([].map bf)).getD 0 [])) = true := by kernel_rfl
theorem y22_6_0_0_1_0 : vRun 40 t22 ((form22 6 0 0 1).more (((d22_6_0_0_1).ways ([].map bf)).getD 0 [])) = true := by kernel_rfl
theorem b22_4_3_3 (x : Int) : vRun 40 t22 ((form22 4 3 3 x).more []) = true := by kernel_rfl
theorem b22_3_2_0 (x : Int) : vRun 40 t22 ((form22 3 2 0 x).more []) = true := by kernel_rfl
theorem b22_0_2_0 (x : Int) : vRun 40 t22 ((form22 0 2 0 x).more []) = true := by kernel_rfl
theorem b22_5_0_0_80 : vRun 40 t22 ((form22 5 0 0 0).more ((sumC.ways sumF).getD 80 [])) = true := by kernel_rfl
theorem b22_5_0_0_75 : vRun 40 t22 ((form22 5 0 0 0).more ((sumC.ways sumF).getD 75 [])) = true := by kernel_rfl
theorem b22_5_0_0_68 : vRun 40 t22 ((form22 5 0 0 0).more ((sumC.ways sumF).getD 68 [])) = true := by kernel_rfl
theorem b22_5_0_0_60 : vRun 40 t22 ((form22 5 0 0 0).more ((sumC.ways sumF).getD 60 [])) = true := by kernel_rfl
theorem b22_5_0_0_53 : vRun 40 t22 ((form22 5 0 0 0).more ((sumC.ways sumF).getD 53 [])) = true := by kernel_rfl
theorem b22_5_0_0_46 : vRun 40 t22 ((form22 5 0 0 0).more ((sumC.ways sumF).getD 46 [])) = true := by kernel_rfl
theorem b22_5_0_0_39 : vRun 40 t22 ((form22 5 0 0 0).more ((sumC.ways sumF).getD 39 [])) = true := by kernel_rfl
theorem b22_5_0_0_31 : vRun 40 t22 ((form22 5 0 0 0).more ((sumC.ways sumF).getD 31 [])) = true := by kernel_rfl
theorem b22_5_0_0_24 : vRun 40 t22 ((form22 5 0 0 0).more ((sumC.ways sumF).getD 24 [])) = true := by kernel_rfl
theorem b22_5_0_0_17 : vRun 40 t22 ((form22 5 0 0 0).more ((sumC.ways sumF).getD 17 [])) = true := by kernel_rfl
theorem b22_5_0_0_1 : vRun 40 t22 ((form22 5 0 0 0).more ((sumC.ways sumF).getD 1 [])) = true := by kernel_rfl
end Go.Proofs.Ytnfmmiomomgabaa
