/- HelpMeets: runs, 0. -/
import Derived.Test.YtdchpckikclmlaaEF
namespace Go.Proofs.Ytdchpckikclmlaa
open Go.Sx Go
set_option maxRecDepth 100000
theorem hm0 : okM 0 = true := by kernel_rfl
theorem hm4 : okM 4 = true := by kernel_rfl
end Go.Proofs.Ytdchpckikclmlaa
