/- Bodies, by its runs. -/
import Derived.Test.YtnfmmiomomgabaaO
namespace Go.Proofs.Ytnfmmiomomgabaa
open Go.Sx Go
set_option maxRecDepth 100000
theorem bb_1 : bad1 [(.var 48, 1, 1)] = true := by kernel_rfl
theorem bb_2 : bad1 [(.var 48, 2, 2)] = true := by kernel_rfl
theorem bo_2tt : okB [(.var 48, 2, 2), kindS 0 true, kindS 4 true] = true := by kernel_rfl
end Go.Proofs.Ytnfmmiomomgabaa
