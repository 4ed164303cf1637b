/- the shelf: runs, 0. -/
import Derived.Test.YtdchpckikclmlaaSX
namespace Go.Proofs.Ytdchpckikclmlaa
open Go.Sx Go
set_option maxRecDepth 100000
theorem sh_16 : okSh 16 = true := by kernel_rfl
theorem sh_9 : okSh 9 = true := by kernel_rfl
theorem sh_8 : okSh 8 = true := by kernel_rfl
theorem sh_1 : okSh 1 = true := by kernel_rfl
theorem sh_0 : okSh 0 = true := by kernel_rfl
end Go.Proofs.Ytdchpckikclmlaa
