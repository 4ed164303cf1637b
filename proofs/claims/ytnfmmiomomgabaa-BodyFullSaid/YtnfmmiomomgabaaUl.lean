/- BodyFull, by its runs. -/
import Derived.Test.YtnfmmiomomgabaaJ
namespace Go.Proofs.Ytnfmmiomomgabaa
open Go.Sx Go
set_option maxRecDepth 100000
theorem full_2tt12 : okF [(.var 8, 2, 2), kindS 0 true, kindS 4 true, (eH, 12, 12)] = true := by kernel_rfl
theorem full_2tf0 : okF [(.var 8, 2, 2), kindS 0 true, kindS 4 false, (eH, 0, 0)] = true := by kernel_rfl
theorem full_2ff6 : okF [(.var 8, 2, 2), kindS 0 false, kindS 4 false, (eH, 6, 6)] = true := by kernel_rfl
theorem fullx_2tt2 : okFx [(.var 8, 2, 2), kindS 0 true, kindS 4 true, (eH, 2, 2)] = true := by kernel_rfl
theorem fullx_2tf2 : okFx [(.var 8, 2, 2), kindS 0 true, kindS 4 false, (eH, 2, 2)] = true := by kernel_rfl
theorem fullx_2ft12 : okFx [(.var 8, 2, 2), kindS 0 false, kindS 4 true, (eH, 12, 12)] = true := by kernel_rfl
theorem fullx_2ff0 : okFx [(.var 8, 2, 2), kindS 0 false, kindS 4 false, (eH, 0, 0)] = true := by kernel_rfl
end Go.Proofs.Ytnfmmiomomgabaa
