/- BodySame, by its runs. -/
import Derived.Test.YtnfmmiomomgabaaH
namespace Go.Proofs.Ytnfmmiomomgabaa
open Go.Sx Go
set_option maxRecDepth 100000
theorem same_ft : okSame false true = true := by kernel_rfl
end Go.Proofs.Ytnfmmiomomgabaa
