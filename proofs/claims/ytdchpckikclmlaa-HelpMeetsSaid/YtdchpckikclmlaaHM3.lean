/- HelpMeets: runs, 3. -/
import Derived.Test.YtdchpckikclmlaaEF
namespace Go.Proofs.Ytdchpckikclmlaa
open Go.Sx Go
set_option maxRecDepth 100000
theorem hm3 : okM 3 = true := by kernel_rfl
theorem hm7 : okM 7 = true := by kernel_rfl
end Go.Proofs.Ytdchpckikclmlaa
