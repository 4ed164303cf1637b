/- Frees: rounds, part 6. -/
import Derived.Test.YtalkfdkcimfmpaaW
namespace Go.Proofs.Ytalkfdkcimfmpaa
open Go.Sx Go
set_option maxRecDepth 100000
theorem w011 : okW 0 (caseW 1 (some 1)) 1 = true := by kernel_rfl
theorem w103 : okW 1 (caseW 0 (some 0)) 3 = true := by kernel_rfl
theorem w123 : okW 1 (caseW 2 (some 2)) 3 = true := by kernel_rfl
theorem w212 : okW 2 (caseW 1 (some 1)) 2 = true := by kernel_rfl
theorem w232 : okW 2 (caseW 3 (some 3)) 2 = true := by kernel_rfl
end Go.Proofs.Ytalkfdkcimfmpaa
