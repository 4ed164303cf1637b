/- Bodies, by its runs. -/
import Derived.Test.YtnfmmiomomgabaaO
namespace Go.Proofs.Ytnfmmiomomgabaa
open Go.Sx Go
set_option maxRecDepth 100000
theorem bo_2ff : okB [(.var 48, 2, 2), kindS 0 false, kindS 4 false] = true := by kernel_rfl
end Go.Proofs.Ytnfmmiomomgabaa
