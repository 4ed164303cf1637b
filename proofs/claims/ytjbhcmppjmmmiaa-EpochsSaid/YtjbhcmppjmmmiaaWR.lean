/- Epochs: runs. -/
import Derived.Test.YtjbhcmppjmmmiaaWL
namespace Go.Proofs.Ytjbhcmppjmmmiaa
open Go.Sx Go
set_option maxRecDepth 100000
theorem rnnn : allOf (funE false [] false [.nils, .nils, vi 2, .nils] (slMem [] ([]) 60)) isTrue = true := by kernel_rfl
theorem rsnn : allOf (funE false [] false [slW 10, .nils, vi 2, .nils] (slMem [enW 10] (faW 10) 60)) isTrue = true := by kernel_rfl
theorem rnsn : allOf (funE false [] false [.nils, slW 20, vi 2, .nils] (slMem [enW 20] (faW 20) 60)) isTrue = true := by kernel_rfl
theorem rssn : allOf (funE true [] false [slW 10, slW 20, vi 2, .nils] (slMem [enW 10, enW 20] (faW 10 ++ faW 20) 60)) isTrue = true := by kernel_rfl
theorem rnns : allOf (funE false [] true [.nils, .nils, vi 2, slW 40] (slMem [enW 40] (faW 40) 60)) isTrue = true := by kernel_rfl
theorem rsns : allOf (funE false [] true [slW 10, .nils, vi 2, slW 40] (slMem [enW 10, enW 40] (faW 10 ++ faW 40) 60)) isTrue = true := by kernel_rfl
theorem rnss : allOf (funE false [] true [.nils, slW 20, vi 2, slW 40] (slMem [enW 20, enW 40] (faW 20 ++ faW 40) 60)) isTrue = true := by kernel_rfl
theorem rsss : allOf (funE true [40] true [slW 10, slW 20, vi 2, slW 40] (slMem [enW 10, enW 20, enW 40] (faW 10 ++ faW 20 ++ faW 40) 60)) isTrue = true := by kernel_rfl
end Go.Proofs.Ytjbhcmppjmmmiaa
