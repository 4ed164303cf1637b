/- Models, by its runs. -/
import Derived.Test.YtpgnpdejefpdbaaM
namespace Go.Proofs.Ytpgnpdejefpdbaa
open Go.Sx Go
set_option maxRecDepth 100000
theorem mo_0 : ok0 = true := by kernel_rfl
theorem mo_n : okNil = true := by kernel_rfl
theorem mo_3 : ok3 = true := by kernel_rfl
theorem mo_1 : okB [(.var 48, 1, 1)] = true := by kernel_rfl
end Go.Proofs.Ytpgnpdejefpdbaa
