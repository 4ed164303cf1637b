/- BodyNone, by its runs. -/
import Derived.Test.YtnfmmiomomgabaaJ
namespace Go.Proofs.Ytnfmmiomomgabaa
open Go.Sx Go
set_option maxRecDepth 100000
theorem none_2ff1 : okN [(.var 8, 2, 2), kindS 0 false, kindS 4 false, (.var 3, 8, hi64)] = true := by kernel_rfl
theorem nonex_1t : okNx [(.var 8, 1, 1), kindS 0 true] = true := by kernel_rfl
theorem nonex_3 : okNx [(.var 8, 3, hi64)] = true := by kernel_rfl
theorem none_o : okNo = true := by kernel_rfl
theorem none_0 : okN [(.var 8, 0, 0)] = true := by kernel_rfl
end Go.Proofs.Ytnfmmiomomgabaa
