/- BodyFull, by its runs. -/
import Derived.Test.YtnfmmiomomgabaaJ
namespace Go.Proofs.Ytnfmmiomomgabaa
open Go.Sx Go
set_option maxRecDepth 100000
theorem full_2tt9 : okF [(.var 8, 2, 2), kindS 0 true, kindS 4 true, (eH, 9, 9)] = true := by kernel_rfl
theorem full_2tf5 : okF [(.var 8, 2, 2), kindS 0 true, kindS 4 false, (eH, 5, 5)] = true := by kernel_rfl
theorem full_2ft15 : okF [(.var 8, 2, 2), kindS 0 false, kindS 4 true, (eH, 15, 15)] = true := by kernel_rfl
theorem full_2ff11 : okF [(.var 8, 2, 2), kindS 0 false, kindS 4 false, (eH, 11, 11)] = true := by kernel_rfl
theorem fullx_2ft9 : okFx [(.var 8, 2, 2), kindS 0 false, kindS 4 true, (eH, 9, 9)] = true := by kernel_rfl
theorem fullx_2ff5 : okFx [(.var 8, 2, 2), kindS 0 false, kindS 4 false, (eH, 5, 5)] = true := by kernel_rfl
theorem fullx_1t3 : okFx [(.var 8, 1, 1), kindS 0 true, (eH, 12, 15)] = true := by kernel_rfl
theorem fullx_1f3 : okFx [(.var 8, 1, 1), kindS 0 false, (eH, 12, 15)] = true := by kernel_rfl
end Go.Proofs.Ytnfmmiomomgabaa
