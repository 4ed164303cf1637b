/- HelpMeets: runs, 2. -/
import Derived.Test.YtdchpckikclmlaaEF
namespace Go.Proofs.Ytdchpckikclmlaa
open Go.Sx Go
set_option maxRecDepth 100000
theorem hm2 : okM 2 = true := by kernel_rfl
theorem hm6 : okM 6 = true := by kernel_rfl
end Go.Proofs.Ytdchpckikclmlaa
