/- ImageForms, by its run. -/
import Derived.Test.YtojpmbkbeoolcaaAW
namespace Go.Proofs.Ytojpmbkbeoolcaa
open Go.Sx Go
set_option maxRecDepth 100000
theorem forms_run : allOf (funL [(15, makeX aw)] 6 [vi 1, vi 2] (slMem [] [] 60)) isTrue = true := by kernel_rfl
end Go.Proofs.Ytojpmbkbeoolcaa
