/- the shelf: runs, 1. -/
import Derived.Test.YtdchpckikclmlaaSX
namespace Go.Proofs.Ytdchpckikclmlaa
open Go.Sx Go
set_option maxRecDepth 100000
theorem sh_15 : okSh 15 = true := by kernel_rfl
theorem sh_10 : okSh 10 = true := by kernel_rfl
theorem sh_7 : okSh 7 = true := by kernel_rfl
theorem sh_2 : okSh 2 = true := by kernel_rfl
end Go.Proofs.Ytdchpckikclmlaa
