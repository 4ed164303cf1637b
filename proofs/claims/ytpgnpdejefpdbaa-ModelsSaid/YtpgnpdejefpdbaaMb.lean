/- Models, by its runs. -/
import Derived.Test.YtpgnpdejefpdbaaM
namespace Go.Proofs.Ytpgnpdejefpdbaa
open Go.Sx Go
set_option maxRecDepth 100000
theorem mo_2 : okB [(.var 48, 2, 2)] = true := by kernel_rfl
end Go.Proofs.Ytpgnpdejefpdbaa
