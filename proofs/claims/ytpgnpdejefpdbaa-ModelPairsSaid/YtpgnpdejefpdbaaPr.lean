/- ModelPairs, by its run. -/
import Derived.Test.YtpgnpdejefpdbaaL
namespace Go.Proofs.Ytpgnpdejefpdbaa
open Go.Sx Go
set_option maxRecDepth 100000
theorem pairs_run : allOf (funP 7 [stV 1 20, opV 10, opV 14] (slMem [] [] 50)) isTrue = true := by kernel_rfl
end Go.Proofs.Ytpgnpdejefpdbaa
