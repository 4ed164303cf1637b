/- Frees: rounds, part 3. -/
import Derived.Test.YtalkfdkcimfmpaaW
namespace Go.Proofs.Ytalkfdkcimfmpaa
open Go.Sx Go
set_option maxRecDepth 100000
theorem w002 : okW 0 (caseW 0 (some 0)) 2 = true := by kernel_rfl
theorem w100 : okW 1 (caseW 0 (some 0)) 0 = true := by kernel_rfl
theorem w120 : okW 1 (caseW 2 (some 2)) 0 = true := by kernel_rfl
theorem w203 : okW 2 (caseW 0 (some 0)) 3 = true := by kernel_rfl
theorem w223 : okW 2 (caseW 2 (some 2)) 3 = true := by kernel_rfl
end Go.Proofs.Ytalkfdkcimfmpaa
