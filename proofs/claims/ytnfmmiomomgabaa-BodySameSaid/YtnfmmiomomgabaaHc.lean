/- BodySame, by its runs. -/
import Derived.Test.YtnfmmiomomgabaaH
namespace Go.Proofs.Ytnfmmiomomgabaa
open Go.Sx Go
set_option maxRecDepth 100000
theorem same_ff : okSame false false = true := by kernel_rfl
end Go.Proofs.Ytnfmmiomomgabaa
