/- Bodies, by its runs. -/
import Derived.Test.YtnfmmiomomgabaaO
namespace Go.Proofs.Ytnfmmiomomgabaa
open Go.Sx Go
set_option maxRecDepth 100000
theorem bo_2tf : okB [(.var 48, 2, 2), kindS 0 true, kindS 4 false] = true := by kernel_rfl
theorem bo_2ft : okB [(.var 48, 2, 2), kindS 0 false, kindS 4 true] = true := by kernel_rfl
end Go.Proofs.Ytnfmmiomomgabaa
