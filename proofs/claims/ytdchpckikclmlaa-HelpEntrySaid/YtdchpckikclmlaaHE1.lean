/- HelpEntry: runs, 1. -/
import Derived.Test.YtdchpckikclmlaaEF
namespace Go.Proofs.Ytdchpckikclmlaa
open Go.Sx Go
set_option maxRecDepth 100000
theorem he0_1 : okE 0 1 = true := by kernel_rfl
theorem he1_1 : okE 1 1 = true := by kernel_rfl
theorem he2_1 : okE 2 1 = true := by kernel_rfl
end Go.Proofs.Ytdchpckikclmlaa
