/- BodyNone, by its runs. -/
import Derived.Test.YtnfmmiomomgabaaJ
namespace Go.Proofs.Ytnfmmiomomgabaa
open Go.Sx Go
set_option maxRecDepth 100000
theorem none_2tf1 : okN [(.var 8, 2, 2), kindS 0 true, kindS 4 false, (.var 3, 8, hi64)] = true := by kernel_rfl
theorem nonex_2ft : okNx [(.var 8, 2, 2), kindS 0 false, kindS 4 true] = true := by kernel_rfl
end Go.Proofs.Ytnfmmiomomgabaa
