/- Bodies, by its runs. -/
import Derived.Test.YtnfmmiomomgabaaO
namespace Go.Proofs.Ytnfmmiomomgabaa
open Go.Sx Go
set_option maxRecDepth 100000
theorem bo_0 : ok0 = true := by kernel_rfl
theorem bo_n : okNil = true := by kernel_rfl
theorem bo_3 : ok3 = true := by kernel_rfl
theorem bb_0 : bad0 = true := by kernel_rfl
theorem bb_n : badNil = true := by kernel_rfl
theorem bb_3 : bad3 = true := by kernel_rfl
theorem bo_1t : okB [(.var 48, 1, 1), kindS 0 true] = true := by kernel_rfl
theorem bo_1f : okB [(.var 48, 1, 1), kindS 0 false] = true := by kernel_rfl
end Go.Proofs.Ytnfmmiomomgabaa
