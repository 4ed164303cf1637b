/- Frees: runs, part 4. -/
import Derived.Test.YtalkfdkcimfmpaaWL
namespace Go.Proofs.Ytalkfdkcimfmpaa
open Go.Sx Go
set_option maxRecDepth 100000
theorem rssnn : allOf (funFr true [] false [slW 10, slW 20, .nils, .nils] (slMem [enW 10, enW 20] (faW 10 ++ faW 20) 60)) isTrue = true := by kernel_rfl
theorem rsssn : allOf (funFr true [30] false [slW 10, slW 20, slW 30, .nils] (slMem [enW 10, enW 20, enW 30] (faW 10 ++ faW 20 ++ faW 30) 60)) isTrue = true := by kernel_rfl
theorem rssns : allOf (funFr true [40] true [slW 10, slW 20, .nils, slW 40] (slMem [enW 10, enW 20, enW 40] (faW 10 ++ faW 20 ++ faW 40) 60)) isTrue = true := by kernel_rfl
theorem rssss : allOf (funFr true [30, 40] true [slW 10, slW 20, slW 30, slW 40] (slMem [enW 10, enW 20, enW 30, enW 40] (faW 10 ++ faW 20 ++ faW 30 ++ faW 40) 60)) isTrue = true := by kernel_rfl
end Go.Proofs.Ytalkfdkcimfmpaa
