/- ImageTells, by its runs. -/
import Derived.Test.YtojpmbkbeoolcaaTT
namespace Go.Proofs.Ytojpmbkbeoolcaa
open Go.Sx Go
set_option maxRecDepth 100000
theorem ti_2 : runTells [(.var 48, 2, 2)] = true := by kernel_rfl
end Go.Proofs.Ytojpmbkbeoolcaa
