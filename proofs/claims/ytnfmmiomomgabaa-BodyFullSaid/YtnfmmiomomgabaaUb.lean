/- BodyFull, by its runs. -/
import Derived.Test.YtnfmmiomomgabaaJ
namespace Go.Proofs.Ytnfmmiomomgabaa
open Go.Sx Go
set_option maxRecDepth 100000
theorem full_2tt8 : okF [(.var 8, 2, 2), kindS 0 true, kindS 4 true, (eH, 8, 8)] = true := by kernel_rfl
theorem full_2tf4 : okF [(.var 8, 2, 2), kindS 0 true, kindS 4 false, (eH, 4, 4)] = true := by kernel_rfl
theorem full_2ft14 : okF [(.var 8, 2, 2), kindS 0 false, kindS 4 true, (eH, 14, 14)] = true := by kernel_rfl
theorem full_2ff10 : okF [(.var 8, 2, 2), kindS 0 false, kindS 4 false, (eH, 10, 10)] = true := by kernel_rfl
theorem fullx_2ft8 : okFx [(.var 8, 2, 2), kindS 0 false, kindS 4 true, (eH, 8, 8)] = true := by kernel_rfl
theorem fullx_2ff4 : okFx [(.var 8, 2, 2), kindS 0 false, kindS 4 false, (eH, 4, 4)] = true := by kernel_rfl
theorem fullx_1t2 : okFx [(.var 8, 1, 1), kindS 0 true, (eH, 8, 11)] = true := by kernel_rfl
theorem fullx_1f2 : okFx [(.var 8, 1, 1), kindS 0 false, (eH, 8, 11)] = true := by kernel_rfl
end Go.Proofs.Ytnfmmiomomgabaa
