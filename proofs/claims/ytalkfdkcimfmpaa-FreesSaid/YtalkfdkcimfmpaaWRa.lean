/- Frees: runs, part 1. -/
import Derived.Test.YtalkfdkcimfmpaaWL
namespace Go.Proofs.Ytalkfdkcimfmpaa
open Go.Sx Go
set_option maxRecDepth 100000
theorem rnnnn : allOf (funFr false [] false [.nils, .nils, .nils, .nils] (slMem [] ([]) 60)) isTrue = true := by kernel_rfl
theorem rnnsn : allOf (funFr false [] false [.nils, .nils, slW 30, .nils] (slMem [enW 30] (faW 30) 60)) isTrue = true := by kernel_rfl
theorem rnnns : allOf (funFr false [] true [.nils, .nils, .nils, slW 40] (slMem [enW 40] (faW 40) 60)) isTrue = true := by kernel_rfl
theorem rnnss : allOf (funFr false [] true [.nils, .nils, slW 30, slW 40] (slMem [enW 30, enW 40] (faW 30 ++ faW 40) 60)) isTrue = true := by kernel_rfl
end Go.Proofs.Ytalkfdkcimfmpaa
