/- Frees: rounds, part 7. -/
import Derived.Test.YtalkfdkcimfmpaaW
namespace Go.Proofs.Ytalkfdkcimfmpaa
open Go.Sx Go
set_option maxRecDepth 100000
theorem w012 : okW 0 (caseW 1 (some 1)) 2 = true := by kernel_rfl
theorem w110 : okW 1 (caseW 1 (some 1)) 0 = true := by kernel_rfl
theorem w130 : okW 1 (caseW 3 none) 0 = true := by kernel_rfl
theorem w213 : okW 2 (caseW 1 (some 1)) 3 = true := by kernel_rfl
theorem w233 : okW 2 (caseW 3 (some 3)) 3 = true := by kernel_rfl
end Go.Proofs.Ytalkfdkcimfmpaa
