/- Frees: runs, part 2. -/
import Derived.Test.YtalkfdkcimfmpaaWL
namespace Go.Proofs.Ytalkfdkcimfmpaa
open Go.Sx Go
set_option maxRecDepth 100000
theorem rsnnn : allOf (funFr false [] false [slW 10, .nils, .nils, .nils] (slMem [enW 10] (faW 10) 60)) isTrue = true := by kernel_rfl
theorem rsnsn : allOf (funFr false [] false [slW 10, .nils, slW 30, .nils] (slMem [enW 10, enW 30] (faW 10 ++ faW 30) 60)) isTrue = true := by kernel_rfl
theorem rsnns : allOf (funFr false [] true [slW 10, .nils, .nils, slW 40] (slMem [enW 10, enW 40] (faW 10 ++ faW 40) 60)) isTrue = true := by kernel_rfl
theorem rsnss : allOf (funFr false [] true [slW 10, .nils, slW 30, slW 40] (slMem [enW 10, enW 30, enW 40] (faW 10 ++ faW 30 ++ faW 40) 60)) isTrue = true := by kernel_rfl
end Go.Proofs.Ytalkfdkcimfmpaa
