/- the shelf: runs, 2. -/
import Derived.Test.YtdchpckikclmlaaSX
namespace Go.Proofs.Ytdchpckikclmlaa
open Go.Sx Go
set_option maxRecDepth 100000
theorem sh_14 : okSh 14 = true := by kernel_rfl
theorem sh_11 : okSh 11 = true := by kernel_rfl
theorem sh_6 : okSh 6 = true := by kernel_rfl
theorem sh_3 : okSh 3 = true := by kernel_rfl
end Go.Proofs.Ytdchpckikclmlaa
