/- BodyNone, by its runs. -/
import Derived.Test.YtnfmmiomomgabaaJ
namespace Go.Proofs.Ytnfmmiomomgabaa
open Go.Sx Go
set_option maxRecDepth 100000
theorem none_2ft0 : okN [(.var 8, 2, 2), kindS 0 false, kindS 4 true, (.var 3, 0, 7)] = true := by kernel_rfl
theorem none_1f : okN [(.var 8, 1, 1), kindS 0 false] = true := by kernel_rfl
end Go.Proofs.Ytnfmmiomomgabaa
