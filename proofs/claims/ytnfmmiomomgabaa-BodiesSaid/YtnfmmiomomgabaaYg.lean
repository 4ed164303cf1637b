/- the program's operation upon any view, by its runs. -/
import Derived.Test.YtnfmmiomomgabaaYD
namespace Go.Proofs.Ytnfmmiomomgabaa
open Go.Sx Go
set_option maxRecDepth 100000
theorem y8_6_4_0_1_1 : vRun 40 t8 ((form8 6 4 0 1).more (((d8_6_4_0_1).ways ([(-1, 1), (0, 1)].map bf)).getD 1 [])) = true := by kernel_rfl
theorem y8_6_3_0_1_1 : vRun 40 t8 ((form8 6 3 0 1).more (((d8_6_3_0_1).ways ([(-1, 1)].map bf)).getD 1 [])) = true := by kernel_rfl
theorem y8_10_1_4_0_0 : vRun 40 t8 ((form8 10 1 4 0).more (((d8_10_1_4_0).ways ([].map bf)).getD 0 [])) = true := by kernel_rfl
theorem y8_10_2_4_0_1 : vRun 40 t8 ((form8 10 2 4 0).more (((d8_10_2_4_0).ways ([(-1, 1)].map bf)).getD 1 [])) = true := by kernel_rfl
theorem y8_10_4_3_0_2 : vRun 40 t8 ((form8 10 4 3 0).more (((d8_10_4_3_0).ways ([(-1, 1)].map bf)).getD 2 [])) = true := by kernel_rfl
theorem y8_10_4_1_0_0 : vRun 40 t8 ((form8 10 4 1 0).more (((d8_10_4_1_0).ways ([(-1, 1)].map bf)).getD 0 [])) = true := by kernel_rfl
theorem y8_10_2_2_0_0 : vRun 40 t8 ((form8 10 2 2 0).more (((d8_10_2_2_0).ways ([].map bf)).getD 0 [])) = true := by kernel_rfl
theorem y8_10_3_1_0_0 : vRun 40 t8 ((form8 10 3 1 0).more (((d8_10_3_1_0).ways ([(-1, 1)].map bf)).getD 0 [])) = true := by kernel_rfl
theorem y8_7_0_0_0_0 : vRun 40 t8 ((form8 7 0 0 0).more (((d8_7_0_0_0).ways ([].map bf)).getD 0 [])) = true := by kernel_rfl
theorem b8_4_2_3 (x : Int) : vRun 40 tB ((form8 4 2 3 x).more []) = true := by kernel_rfl
theorem b8_4_0_1 (x : Int) : vRun 40 tB ((form8 4 0 1 x).more []) = true := by kernel_rfl
theorem b8_4_1_1 (x : Int) : vRun 40 tB ((form8 4 1 1 x).more []) = true := by kernel_rfl
theorem b8_2_1_0 (x : Int) : vRun 40 tB ((form8 2 1 0 x).more []) = true := by kernel_rfl
theorem b8_1_2_0 : vRun 40 tB ((form8 1 2 0 0).more []) = true := by kernel_rfl
end Go.Proofs.Ytnfmmiomomgabaa
