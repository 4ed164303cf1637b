/- Frees: rounds, part 1. -/
import Derived.Test.YtalkfdkcimfmpaaW
namespace Go.Proofs.Ytalkfdkcimfmpaa
open Go.Sx Go
set_option maxRecDepth 100000
theorem w000 : okW 0 (caseW 0 (some 0)) 0 = true := by kernel_rfl
theorem w020 : okW 0 (caseW 2 none) 0 = true := by kernel_rfl
theorem w112 : okW 1 (caseW 1 (some 1)) 2 = true := by kernel_rfl
theorem w201 : okW 2 (caseW 0 (some 0)) 1 = true := by kernel_rfl
theorem w221 : okW 2 (caseW 2 (some 2)) 1 = true := by kernel_rfl
end Go.Proofs.Ytalkfdkcimfmpaa
