/- BodyFull, by its runs. -/
import Derived.Test.YtnfmmiomomgabaaJ
namespace Go.Proofs.Ytnfmmiomomgabaa
open Go.Sx Go
set_option maxRecDepth 100000
theorem full_2tt5 : okF [(.var 8, 2, 2), kindS 0 true, kindS 4 true, (eH, 5, 5)] = true := by kernel_rfl
theorem full_2tf15 : okF [(.var 8, 2, 2), kindS 0 true, kindS 4 false, (eH, 15, 15)] = true := by kernel_rfl
theorem full_2ft11 : okF [(.var 8, 2, 2), kindS 0 false, kindS 4 true, (eH, 11, 11)] = true := by kernel_rfl
theorem fullx_2tt9 : okFx [(.var 8, 2, 2), kindS 0 true, kindS 4 true, (eH, 9, 9)] = true := by kernel_rfl
theorem fullx_2tf9 : okFx [(.var 8, 2, 2), kindS 0 true, kindS 4 false, (eH, 9, 9)] = true := by kernel_rfl
theorem fullx_2ft5 : okFx [(.var 8, 2, 2), kindS 0 false, kindS 4 true, (eH, 5, 5)] = true := by kernel_rfl
theorem fullx_2ff15 : okFx [(.var 8, 2, 2), kindS 0 false, kindS 4 false, (eH, 15, 15)] = true := by kernel_rfl
end Go.Proofs.Ytnfmmiomomgabaa
