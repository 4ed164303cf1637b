/- the program's operation upon any view, by its runs. -/
import Derived.Test.YtnfmmiomomgabaaYD
namespace Go.Proofs.Ytnfmmiomomgabaa
open Go.Sx Go
set_option maxRecDepth 100000
theorem y8_6_4_0_1_2 : vRun 40 t8 ((form8 6 4 0 1).more (((d8_6_4_0_1).ways ([(-1, 1), (0, 1)].map bf)).getD 2 [])) = true := by kernel_rfl
theorem y8_7_3_0_0_0 : vRun 40 t8 ((form8 7 3 0 0).more (((d8_7_3_0_0).ways ([(-1, 1)].map bf)).getD 0 [])) = true := by kernel_rfl
theorem y8_10_3_4_0_0 : vRun 40 t8 ((form8 10 3 4 0).more (((d8_10_3_4_0).ways ([(-1, 1)].map bf)).getD 0 [])) = true := by kernel_rfl
theorem y8_10_4_4_0_1 : vRun 40 t8 ((form8 10 4 4 0).more (((d8_10_4_4_0).ways ([(-1, 1)].map bf)).getD 1 [])) = true := by kernel_rfl
theorem y8_10_4_3_0_0 : vRun 40 t8 ((form8 10 4 3 0).more (((d8_10_4_3_0).ways ([(-1, 1)].map bf)).getD 0 [])) = true := by kernel_rfl
theorem y8_10_4_0_0_1 : vRun 40 t8 ((form8 10 4 0 0).more (((d8_10_4_0_0).ways ([(-1, 1)].map bf)).getD 1 [])) = true := by kernel_rfl
theorem y8_6_1_0_1_0 : vRun 40 t8 ((form8 6 1 0 1).more (((d8_6_1_0_1).ways ([].map bf)).getD 0 [])) = true := by kernel_rfl
theorem y8_10_3_0_0_0 : vRun 40 t8 ((form8 10 3 0 0).more (((d8_10_3_0_0).ways ([(-1, 1)].map bf)).getD 0 [])) = true := by kernel_rfl
theorem b8_4_3_2 (x : Int) : vRun 40 tB ((form8 4 3 2 x).more []) = true := by kernel_rfl
theorem b8_4_3_1 (x : Int) : vRun 40 tB ((form8 4 3 1 x).more []) = true := by kernel_rfl
theorem b8_4_0_3 (x : Int) : vRun 40 tB ((form8 4 0 3 x).more []) = true := by kernel_rfl
theorem b8_4_3_3 (x : Int) : vRun 40 tB ((form8 4 3 3 x).more []) = true := by kernel_rfl
theorem b8_2_3_0 (x : Int) : vRun 40 tB ((form8 2 3 0 x).more []) = true := by kernel_rfl
theorem y8_8_0_0_0_0 : vRun 40 t8 ((form8 8 0 0 0).more (((d8_8_0_0_0).ways ([].map bf)).getD 0 [])) = true := by kernel_rfl
theorem y8_9_0_0_0_0 : vRun 40 t8 ((form8 9 0 0 0).more (((d8_9_0_0_0).ways ([].map bf)).getD 0 [])) = true := by kernel_rfl
end Go.Proofs.Ytnfmmiomomgabaa
