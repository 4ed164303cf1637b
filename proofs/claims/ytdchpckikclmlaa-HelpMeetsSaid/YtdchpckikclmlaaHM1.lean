/- HelpMeets: runs, 1. -/
import Derived.Test.YtdchpckikclmlaaEF
namespace Go.Proofs.Ytdchpckikclmlaa
open Go.Sx Go
set_option maxRecDepth 100000
theorem hm1 : okM 1 = true := by kernel_rfl
theorem hm5 : okM 5 = true := by kernel_rfl
end Go.Proofs.Ytdchpckikclmlaa
