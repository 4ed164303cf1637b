/- BodyNone, by its runs. -/
import Derived.Test.YtnfmmiomomgabaaJ
namespace Go.Proofs.Ytnfmmiomomgabaa
open Go.Sx Go
set_option maxRecDepth 100000
theorem none_2tt0 : okN [(.var 8, 2, 2), kindS 0 true, kindS 4 true, (.var 3, 0, 7)] = true := by kernel_rfl
theorem nonex_2tf : okNx [(.var 8, 2, 2), kindS 0 true, kindS 4 false] = true := by kernel_rfl
end Go.Proofs.Ytnfmmiomomgabaa
