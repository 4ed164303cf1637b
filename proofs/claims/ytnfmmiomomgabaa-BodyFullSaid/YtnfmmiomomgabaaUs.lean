/- BodyFull, by its runs. -/
import Derived.Test.YtnfmmiomomgabaaJ
namespace Go.Proofs.Ytnfmmiomomgabaa
open Go.Sx Go
set_option maxRecDepth 100000
theorem full_2tf7 : okF [(.var 8, 2, 2), kindS 0 true, kindS 4 false, (eH, 7, 7)] = true := by kernel_rfl
theorem full_2ft3 : okF [(.var 8, 2, 2), kindS 0 false, kindS 4 true, (eH, 3, 3)] = true := by kernel_rfl
theorem full_2ff13 : okF [(.var 8, 2, 2), kindS 0 false, kindS 4 false, (eH, 13, 13)] = true := by kernel_rfl
theorem fullx_2tt1 : okFx [(.var 8, 2, 2), kindS 0 true, kindS 4 true, (eH, 1, 1)] = true := by kernel_rfl
theorem fullx_2tf1 : okFx [(.var 8, 2, 2), kindS 0 true, kindS 4 false, (eH, 1, 1)] = true := by kernel_rfl
theorem fullx_2ff7 : okFx [(.var 8, 2, 2), kindS 0 false, kindS 4 false, (eH, 7, 7)] = true := by kernel_rfl
theorem full_1f1 : okF [(.var 8, 1, 1), kindS 0 false, (eH, 4, 7)] = true := by kernel_rfl
end Go.Proofs.Ytnfmmiomomgabaa
