/- BodyFull, by its runs. -/
import Derived.Test.YtnfmmiomomgabaaJ
namespace Go.Proofs.Ytnfmmiomomgabaa
open Go.Sx Go
set_option maxRecDepth 100000
theorem full_2tf6 : okF [(.var 8, 2, 2), kindS 0 true, kindS 4 false, (eH, 6, 6)] = true := by kernel_rfl
theorem full_2ft2 : okF [(.var 8, 2, 2), kindS 0 false, kindS 4 true, (eH, 2, 2)] = true := by kernel_rfl
theorem full_2ff12 : okF [(.var 8, 2, 2), kindS 0 false, kindS 4 false, (eH, 12, 12)] = true := by kernel_rfl
theorem fullx_2tt0 : okFx [(.var 8, 2, 2), kindS 0 true, kindS 4 true, (eH, 0, 0)] = true := by kernel_rfl
theorem fullx_2tf0 : okFx [(.var 8, 2, 2), kindS 0 true, kindS 4 false, (eH, 0, 0)] = true := by kernel_rfl
theorem fullx_2ff6 : okFx [(.var 8, 2, 2), kindS 0 false, kindS 4 false, (eH, 6, 6)] = true := by kernel_rfl
theorem full_1f0 : okF [(.var 8, 1, 1), kindS 0 false, (eH, 0, 3)] = true := by kernel_rfl
end Go.Proofs.Ytnfmmiomomgabaa
