/- Frees: rounds, part 8. -/
import Derived.Test.YtalkfdkcimfmpaaW
namespace Go.Proofs.Ytalkfdkcimfmpaa
open Go.Sx Go
set_option maxRecDepth 100000
theorem w013 : okW 0 (caseW 1 (some 1)) 3 = true := by kernel_rfl
theorem w111 : okW 1 (caseW 1 (some 1)) 1 = true := by kernel_rfl
theorem w200 : okW 2 (caseW 0 (some 0)) 0 = true := by kernel_rfl
theorem w220 : okW 2 (caseW 2 (some 2)) 0 = true := by kernel_rfl
end Go.Proofs.Ytalkfdkcimfmpaa
