/- BodyFull, by its runs. -/
import Derived.Test.YtnfmmiomomgabaaJ
namespace Go.Proofs.Ytnfmmiomomgabaa
open Go.Sx Go
set_option maxRecDepth 100000
theorem full_2tt13 : okF [(.var 8, 2, 2), kindS 0 true, kindS 4 true, (eH, 13, 13)] = true := by kernel_rfl
theorem full_2tf1 : okF [(.var 8, 2, 2), kindS 0 true, kindS 4 false, (eH, 1, 1)] = true := by kernel_rfl
theorem full_2ff7 : okF [(.var 8, 2, 2), kindS 0 false, kindS 4 false, (eH, 7, 7)] = true := by kernel_rfl
theorem fullx_2tt3 : okFx [(.var 8, 2, 2), kindS 0 true, kindS 4 true, (eH, 3, 3)] = true := by kernel_rfl
theorem fullx_2tf3 : okFx [(.var 8, 2, 2), kindS 0 true, kindS 4 false, (eH, 3, 3)] = true := by kernel_rfl
theorem fullx_2ft13 : okFx [(.var 8, 2, 2), kindS 0 false, kindS 4 true, (eH, 13, 13)] = true := by kernel_rfl
theorem fullx_2ff1 : okFx [(.var 8, 2, 2), kindS 0 false, kindS 4 false, (eH, 1, 1)] = true := by kernel_rfl
end Go.Proofs.Ytnfmmiomomgabaa
