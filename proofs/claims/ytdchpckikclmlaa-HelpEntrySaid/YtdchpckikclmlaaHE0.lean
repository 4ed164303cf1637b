/- HelpEntry: runs, 0. -/
import Derived.Test.YtdchpckikclmlaaEF
namespace Go.Proofs.Ytdchpckikclmlaa
open Go.Sx Go
set_option maxRecDepth 100000
theorem he0_0 : okE 0 0 = true := by kernel_rfl
theorem he1_0 : okE 1 0 = true := by kernel_rfl
theorem he2_0 : okE 2 0 = true := by kernel_rfl
end Go.Proofs.Ytdchpckikclmlaa
