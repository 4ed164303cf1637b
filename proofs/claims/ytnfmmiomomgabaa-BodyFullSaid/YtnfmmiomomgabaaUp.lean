/- BodyFull, by its runs. -/
import Derived.Test.YtnfmmiomomgabaaJ
namespace Go.Proofs.Ytnfmmiomomgabaa
open Go.Sx Go
set_option maxRecDepth 100000
theorem full_2tt0 : okF [(.var 8, 2, 2), kindS 0 true, kindS 4 true, (eH, 0, 0)] = true := by kernel_rfl
theorem full_2ft6 : okF [(.var 8, 2, 2), kindS 0 false, kindS 4 true, (eH, 6, 6)] = true := by kernel_rfl
theorem full_2ff2 : okF [(.var 8, 2, 2), kindS 0 false, kindS 4 false, (eH, 2, 2)] = true := by kernel_rfl
theorem fullx_2tt12 : okFx [(.var 8, 2, 2), kindS 0 true, kindS 4 true, (eH, 12, 12)] = true := by kernel_rfl
theorem fullx_2tf12 : okFx [(.var 8, 2, 2), kindS 0 true, kindS 4 false, (eH, 12, 12)] = true := by kernel_rfl
theorem fullx_2ft0 : okFx [(.var 8, 2, 2), kindS 0 false, kindS 4 true, (eH, 0, 0)] = true := by kernel_rfl
theorem full_1t0 : okF [(.var 8, 1, 1), kindS 0 true, (eH, 0, 3)] = true := by kernel_rfl
theorem fullx_3 : okFx [(.var 8, 3, hi64)] = true := by kernel_rfl
end Go.Proofs.Ytnfmmiomomgabaa
