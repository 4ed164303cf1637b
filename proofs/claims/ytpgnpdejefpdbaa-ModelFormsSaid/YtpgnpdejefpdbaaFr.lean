/- ModelForms, by its run. -/
import Derived.Test.YtpgnpdejefpdbaaL
namespace Go.Proofs.Ytpgnpdejefpdbaa
open Go.Sx Go
set_option maxRecDepth 100000
theorem forms_run : allOf (funP 6 [vi 1, vi 2, opV 10] (slMem [] [] 50)) isTrue = true := by kernel_rfl
end Go.Proofs.Ytpgnpdejefpdbaa
