/- Frees: rounds, part 2. -/
import Derived.Test.YtalkfdkcimfmpaaW
namespace Go.Proofs.Ytalkfdkcimfmpaa
open Go.Sx Go
set_option maxRecDepth 100000
theorem w001 : okW 0 (caseW 0 (some 0)) 1 = true := by kernel_rfl
theorem w030 : okW 0 (caseW 3 none) 0 = true := by kernel_rfl
theorem w113 : okW 1 (caseW 1 (some 1)) 3 = true := by kernel_rfl
theorem w202 : okW 2 (caseW 0 (some 0)) 2 = true := by kernel_rfl
theorem w222 : okW 2 (caseW 2 (some 2)) 2 = true := by kernel_rfl
end Go.Proofs.Ytalkfdkcimfmpaa
