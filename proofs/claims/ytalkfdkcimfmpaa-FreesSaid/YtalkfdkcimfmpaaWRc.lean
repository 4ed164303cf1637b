/- Frees: runs, part 3. -/
import Derived.Test.YtalkfdkcimfmpaaWL
namespace Go.Proofs.Ytalkfdkcimfmpaa
open Go.Sx Go
set_option maxRecDepth 100000
theorem rnsnn : allOf (funFr false [] false [.nils, slW 20, .nils, .nils] (slMem [enW 20] (faW 20) 60)) isTrue = true := by kernel_rfl
theorem rnssn : allOf (funFr false [] false [.nils, slW 20, slW 30, .nils] (slMem [enW 20, enW 30] (faW 20 ++ faW 30) 60)) isTrue = true := by kernel_rfl
theorem rnsns : allOf (funFr false [] true [.nils, slW 20, .nils, slW 40] (slMem [enW 20, enW 40] (faW 20 ++ faW 40) 60)) isTrue = true := by kernel_rfl
theorem rnsss : allOf (funFr false [] true [.nils, slW 20, slW 30, slW 40] (slMem [enW 20, enW 30, enW 40] (faW 20 ++ faW 30 ++ faW 40) 60)) isTrue = true := by kernel_rfl
end Go.Proofs.Ytalkfdkcimfmpaa
