/- BodyFull, by its runs. -/
import Derived.Test.YtnfmmiomomgabaaJ
namespace Go.Proofs.Ytnfmmiomomgabaa
open Go.Sx Go
set_option maxRecDepth 100000
theorem full_2tt3 : okF [(.var 8, 2, 2), kindS 0 true, kindS 4 true, (eH, 3, 3)] = true := by kernel_rfl
theorem full_2tf13 : okF [(.var 8, 2, 2), kindS 0 true, kindS 4 false, (eH, 13, 13)] = true := by kernel_rfl
theorem full_2ft1 : okF [(.var 8, 2, 2), kindS 0 false, kindS 4 true, (eH, 1, 1)] = true := by kernel_rfl
theorem fullx_2tt7 : okFx [(.var 8, 2, 2), kindS 0 true, kindS 4 true, (eH, 7, 7)] = true := by kernel_rfl
theorem fullx_2tf7 : okFx [(.var 8, 2, 2), kindS 0 true, kindS 4 false, (eH, 7, 7)] = true := by kernel_rfl
theorem fullx_2ft3 : okFx [(.var 8, 2, 2), kindS 0 false, kindS 4 true, (eH, 3, 3)] = true := by kernel_rfl
theorem fullx_2ff13 : okFx [(.var 8, 2, 2), kindS 0 false, kindS 4 false, (eH, 13, 13)] = true := by kernel_rfl
end Go.Proofs.Ytnfmmiomomgabaa
