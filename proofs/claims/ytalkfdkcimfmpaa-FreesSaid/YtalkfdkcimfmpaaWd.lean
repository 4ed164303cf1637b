/- Frees: rounds, part 4. -/
import Derived.Test.YtalkfdkcimfmpaaW
namespace Go.Proofs.Ytalkfdkcimfmpaa
open Go.Sx Go
set_option maxRecDepth 100000
theorem w003 : okW 0 (caseW 0 (some 0)) 3 = true := by kernel_rfl
theorem w101 : okW 1 (caseW 0 (some 0)) 1 = true := by kernel_rfl
theorem w121 : okW 1 (caseW 2 (some 2)) 1 = true := by kernel_rfl
theorem w210 : okW 2 (caseW 1 (some 1)) 0 = true := by kernel_rfl
theorem w230 : okW 2 (caseW 3 (some 3)) 0 = true := by kernel_rfl
end Go.Proofs.Ytalkfdkcimfmpaa
