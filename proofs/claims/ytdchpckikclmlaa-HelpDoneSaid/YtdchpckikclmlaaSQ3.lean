/- the shelf: runs, 3. -/
import Derived.Test.YtdchpckikclmlaaSX
namespace Go.Proofs.Ytdchpckikclmlaa
open Go.Sx Go
set_option maxRecDepth 100000
theorem sh_13 : okSh 13 = true := by kernel_rfl
theorem sh_12 : okSh 12 = true := by kernel_rfl
theorem sh_5 : okSh 5 = true := by kernel_rfl
theorem sh_4 : okSh 4 = true := by kernel_rfl
end Go.Proofs.Ytdchpckikclmlaa
