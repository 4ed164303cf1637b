/- BodySame, by its runs. -/
import Derived.Test.YtnfmmiomomgabaaH
namespace Go.Proofs.Ytnfmmiomomgabaa
open Go.Sx Go
set_option maxRecDepth 100000
theorem same_tt : okSame true true = true := by kernel_rfl
theorem same_tf : okSame true false = true := by kernel_rfl
theorem same_b : okSameB = true := by kernel_rfl
end Go.Proofs.Ytnfmmiomomgabaa
