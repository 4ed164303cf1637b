/- BodyNone, by its runs. -/
import Derived.Test.YtnfmmiomomgabaaJ
namespace Go.Proofs.Ytnfmmiomomgabaa
open Go.Sx Go
set_option maxRecDepth 100000
theorem none_2ff0 : okN [(.var 8, 2, 2), kindS 0 false, kindS 4 false, (.var 3, 0, 7)] = true := by kernel_rfl
theorem nonex_1f : okNx [(.var 8, 1, 1), kindS 0 false] = true := by kernel_rfl
theorem nonex_0 : okNx [(.var 8, 0, 0)] = true := by kernel_rfl
theorem none_3 : okN [(.var 8, 3, hi64)] = true := by kernel_rfl
theorem none_n : okNn = true := by kernel_rfl
end Go.Proofs.Ytnfmmiomomgabaa
