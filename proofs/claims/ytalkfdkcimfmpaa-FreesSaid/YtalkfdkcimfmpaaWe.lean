/- Frees: rounds, part 5. -/
import Derived.Test.YtalkfdkcimfmpaaW
namespace Go.Proofs.Ytalkfdkcimfmpaa
open Go.Sx Go
set_option maxRecDepth 100000
theorem w010 : okW 0 (caseW 1 (some 1)) 0 = true := by kernel_rfl
theorem w102 : okW 1 (caseW 0 (some 0)) 2 = true := by kernel_rfl
theorem w122 : okW 1 (caseW 2 (some 2)) 2 = true := by kernel_rfl
theorem w211 : okW 2 (caseW 1 (some 1)) 1 = true := by kernel_rfl
theorem w231 : okW 2 (caseW 3 (some 3)) 1 = true := by kernel_rfl
end Go.Proofs.Ytalkfdkcimfmpaa
